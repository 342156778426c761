/- THE READER: a family of one counter, where it is right. Own work of the verifier. -/
import Derived.Test.YtliehacfoiigpaaGreatDoorSAW
namespace Go.Proofs.YtliehacfoiigpaaGreatDoor
open Go.RowKit Me

set_option maxRecDepth 100000 in
set_option maxHeartbeats 4000000 in
theorem family_one (u : World) (rb sb B : Nat) (p : Int) (r : Nat) (T T1 T2 nm hp : List UInt8) (n : Nat) (L : List La.Lb) (t : Int) (w : World) (h : Ss u rb sb B p r (.slice none 0 0) [] T n w) (hm : Mx u) (ht : Wi.Tab u) (hT : T.length ≤ 4194304) (hn : n ≤ 1152921504606846976)
    (k1 : (cut10 T).2.2 = true) (k2 : heR (cut10 T).1 = some (nm, hp)) (k3 : (cut10 T).2.1 = T1) (hN : nm.length ≤ 4194304)
    (k4 : (cut10 T1).2.2 = true) (k5 : tyR nm (cut10 T1).1 = 1) (k6 : (cut10 T1).2.1 = T2)
    (k7 : (cut10 T2).2.2 = true) (k8 : cntR nm (cut10 T2).1 = some (L, t)) (k9 : (cut10 T2).2.1 = []) (hx : VW (cx nm hp L t)) (hz : lstE ⟨p, [cx nm hp L t], r⟩ = 0) :
    Calls Tryz.prog 12 #[.pointer (some ⟨rb, 0, none⟩), .pointer (some ⟨sb, 0, none⟩)] w fun e w' => e = .returned (.tuple #[]) ∧ ∃ v' l', Ss u rb sb B p r v' [(cx nm hp L t, l', .slice none 0 0)] [] (n + 3) w' ∧ Chg (fun b => b = rb ∨ b = sb) w w' := by
  have hl1 := (cut_len T).2
  have hl2 := (cut_len T1).2
  rw [k3] at hl1
  rw [k6] at hl2
  have HH : La.HidC _ _ _ _ _ := help_any u rb T n w w h.rd hm hT (by omega)
  have HK : Hid (∀ W, Rd u rb W T1 (n + 1) W → Calls Tryz.prog 17 #[.pointer (some ⟨rb, 0, none⟩), .string ⟨nm.toArray⟩] W fun e w' => e = .returned (.int .i64 1) ∧ Rd u rb W T2 (n + 2) w') := fun W k => by
    refine Calls.mono (kind_any u rb T1 nm (n + 1) W W k hm (by omega) (by omega) hN) ?_
    rintro e w' (⟨q1, q2, q3, q4⟩ | ⟨q1, q2, -⟩ | ⟨q1, -⟩)
    · rw [k5] at q3; rw [k6] at q4; exact ⟨q3, q4⟩
    · rw [k5] at q2; cases q2
    · rw [k4] at q1; cases q1
  have HS : Hid (∀ W, Ss u rb sb B p r (.slice none 0 0) [] T2 (n + 2) W → Calls Tryz.prog 18 #[.pointer (some ⟨rb, 0, none⟩), .pointer (some ⟨sb, 0, none⟩), .agg (d4 1 nm hp (.slice none 0 0))] W fun e w' => e = .returned (.tuple #[]) ∧ ∃ v' l', Ss u rb sb B p r v' [(cx nm hp L t, l', .slice none 0 0)] [] (n + 3) w' ∧ Chg (fun b => b = rb ∨ b = sb) W w') := fun W k => by
    refine Calls.mono (series_ok u rb sb B p r _ [] T2 nm hp (.slice none 0 0) (n + 2) L t W k hm ht (by omega) (by omega) k7 k8 (by simp) hx hz) ?_
    rintro e w' ⟨rfl, v', l', q1, q2⟩
    rw [k9] at q1
    exact ⟨rfl, v', l', q1, ⟨q2.os, q2.tape, q2.output, q2.size, fun k hk hn => q2.block k hk (by rintro (e | e | e); exact hn (Or.inl e); exact hn (Or.inr e); cases e)⟩⟩
  have HY : Hid (∀ W, Calls Tryz.prog 11 #[.pointer (some ⟨rb, 0, none⟩), .bool true] W fun e w' => e = .returned (.tuple #[]) ∧ w' = W) := fun W => must_yes rb W
  have H0 := hid_of h
  have HK1 := hid_of k1
  have HK2 := hid_of k2
  have HK3 := hid_of k3
  clear hm ht hT hN k1 k2 k3 k4 k5 k6 k7 k8 k9 hx hz hl1 hl2 h
  go_enter Tryz.func12, Tryz.ntmps12
  go_wp2_with fail
  refine Calls.mono HH.out ?_
  rintro e w1 (⟨nm', hp', -, q2, rfl, hr⟩ | ⟨-, q2, -, -⟩ | ⟨q1, -, -⟩)
  · rw [HK2.out] at q2
    cases q2
    rw [HK3.out] at hr
    have h1 := H0.out.called hr
    obtain ⟨W2, hW2⟩ : ∃ W2, W2 = w1.alloc (.cells #[.int .i64 0, .string ⟨nm.toArray⟩, .string ⟨hp.toArray⟩, .slice none 0 0] 35) := ⟨_, rfl⟩
    have hb2 : Below w1.heap.size w1 W2 := by rw [hW2]; exact bel1 _ _
    have hN2 : W2.heap[w1.heap.size]? = some (.cells #[.int .i64 0, .string ⟨nm.toArray⟩, .string ⟨hp.toArray⟩, .slice none 0 0] 35) := by rw [hW2]; exact new_1 w1 _
    have h2 := h1.keep hb2
    obtain ⟨s0, s1, s2, -⟩ := three_cells h2.sn
    have hlt : rb < w1.heap.size := h1.rd.lt
    have HW2 := hid_of hW2
    have HB2 := hid_of hb2
    have HN2 := hid_of hN2
    have H1 := hid_of h1
    have HCw := hid_of hr.ch
    have HLt := hid_of hlt
    clear HH hr h1 h2 hW2 hb2 hN2 hlt
    go_upto_region 1 with fail
    rw [← HW2.out]
    clear HW2
    go_upto_region 2 with fail
    refine wp_region_held_drew (S := fun W => Below W2.heap.size W2 W) (by kernel_rfl) ((Below.refl _ _).drew) (fun hHeld => ?_)
    refine wpAnyH_take (i := 0) (v := ?va0) rfl (by kernel_rfl) (by kernel_rfl) (by kernel_rfl) (fun _ _ _ h => h) (Or.inl ⟨by rfl, ?hya0⟩) hHeld ?resta0
    case hya0 => (intro w hSw; (try dsimp only at hSw); go_simp; try with_reducible rfl)
    try simp only [Act.put, List.getElem_cons_zero, List.getElem_toArray, List.setIfInBounds_toArray, List.set_cons_zero, List.set_cons_succ]
    refine wpAnyH_take (i := 1) (v := ?va1) rfl (by kernel_rfl) (by kernel_rfl) (by kernel_rfl) (fun _ _ _ h => h) (Or.inl ⟨by rfl, ?hya1⟩) hHeld ?resta1
    case hya1 => (intro w hSw; (try dsimp only at hSw); go_simp; try with_reducible rfl)
    try simp only [Act.put, List.getElem_cons_succ, List.getElem_cons_zero, List.getElem_toArray, List.setIfInBounds_toArray, List.set_cons_zero, List.set_cons_succ]
    refine wpAnyH_take (i := 2) (v := ?va2) rfl (by kernel_rfl) (by kernel_rfl) (by kernel_rfl) (fun _ _ _ h => h) (Or.inl ⟨by rfl, ?hya2⟩) hHeld ?resta2
    case hya2 => (intro w hSw; (try dsimp only at hSw); go_simp; try with_reducible rfl)
    try simp only [Act.put, List.getElem_cons_succ, List.getElem_cons_zero, List.getElem_toArray, List.setIfInBounds_toArray, List.set_cons_zero, List.set_cons_succ]
    refine wpAnyH_take (i := 3) (v := ?va3) rfl (by kernel_rfl) (by kernel_rfl) (by kernel_rfl) (fun _ _ _ h => h) (Or.inl ⟨by rfl, ?hya3⟩) hHeld ?resta3
    case hya3 => (intro w hSw; (try dsimp only at hSw); go_simp; try with_reducible rfl)
    try simp only [Act.put, List.getElem_cons_succ, List.getElem_cons_zero, List.getElem_toArray, List.setIfInBounds_toArray, List.set_cons_zero, List.set_cons_succ]
    refine wpAnyH_take (i := 4) (v := undef) rfl (by kernel_rfl) (by kernel_rfl) (by kernel_rfl) (fun _ _ _ h => h) (Or.inr ⟨by rfl, rfl⟩) hHeld ?_
    try simp only [Act.put, List.getElem_cons_succ, List.getElem_cons_zero, List.getElem_toArray, List.setIfInBounds_toArray, List.set_cons_zero, List.set_cons_succ]
    refine wpAnyH_take (i := 5) (v := undef) rfl (by kernel_rfl) (by kernel_rfl) (by kernel_rfl) (fun _ _ _ h => h) (Or.inr ⟨by rfl, rfl⟩) hHeld ?_
    try simp only [Act.put, List.getElem_cons_succ, List.getElem_cons_zero, List.getElem_toArray, List.setIfInBounds_toArray, List.set_cons_zero, List.set_cons_succ]
    refine wpAnyH_take (i := 6) (v := undef) rfl (by kernel_rfl) (by kernel_rfl) (by kernel_rfl) (fun _ _ _ h => h) (Or.inr ⟨by rfl, rfl⟩) hHeld ?_
    try simp only [Act.put, List.getElem_cons_succ, List.getElem_cons_zero, List.getElem_toArray, List.setIfInBounds_toArray, List.set_cons_zero, List.set_cons_succ]
    refine wpAnyH_take (i := 7) (v := undef) rfl (by kernel_rfl) (by kernel_rfl) (by kernel_rfl) (fun _ _ _ h => h) (Or.inr ⟨by rfl, rfl⟩) hHeld ?_
    try simp only [Act.put, List.getElem_cons_succ, List.getElem_cons_zero, List.getElem_toArray, List.setIfInBounds_toArray, List.set_cons_zero, List.set_cons_succ]
    refine wpAnyH_take (i := 8) (v := undef) rfl (by kernel_rfl) (by kernel_rfl) (by kernel_rfl) (fun _ _ _ h => h) (Or.inr ⟨by rfl, rfl⟩) hHeld ?_
    try simp only [Act.put, List.getElem_cons_succ, List.getElem_cons_zero, List.getElem_toArray, List.setIfInBounds_toArray, List.set_cons_zero, List.set_cons_succ]
    refine wpAnyH_take (i := 9) (v := undef) rfl (by kernel_rfl) (by kernel_rfl) (by kernel_rfl) (fun _ _ _ h => h) (Or.inr ⟨by rfl, rfl⟩) hHeld ?_
    try simp only [Act.put, List.getElem_cons_succ, List.getElem_cons_zero, List.getElem_toArray, List.setIfInBounds_toArray, List.set_cons_zero, List.set_cons_succ]
    refine wpAnyH_take (i := 10) (v := undef) rfl (by kernel_rfl) (by kernel_rfl) (by kernel_rfl) (fun _ _ _ h => h) (Or.inr ⟨by rfl, rfl⟩) hHeld ?_
    try simp only [Act.put, List.getElem_cons_succ, List.getElem_cons_zero, List.getElem_toArray, List.setIfInBounds_toArray, List.set_cons_zero, List.set_cons_succ]
    refine wpAnyH_take (i := 11) (v := undef) rfl (by kernel_rfl) (by kernel_rfl) (by kernel_rfl) (fun _ _ _ h => h) (Or.inr ⟨by rfl, rfl⟩) hHeld ?_
    try simp only [Act.put, List.getElem_cons_succ, List.getElem_cons_zero, List.getElem_toArray, List.setIfInBounds_toArray, List.set_cons_zero, List.set_cons_succ]
    refine wpAnyH_take (i := 12) (v := undef) rfl (by kernel_rfl) (by kernel_rfl) (by kernel_rfl) (fun _ _ _ h => h) (Or.inr ⟨by rfl, rfl⟩) hHeld ?_
    try simp only [Act.put, List.getElem_cons_succ, List.getElem_cons_zero, List.getElem_toArray, List.setIfInBounds_toArray, List.set_cons_zero, List.set_cons_succ]
    refine wpAnyH_take (i := 13) (v := undef) rfl (by kernel_rfl) (by kernel_rfl) (by kernel_rfl) (fun _ _ _ h => h) (Or.inr ⟨by rfl, rfl⟩) hHeld ?_
    try simp only [Act.put, List.getElem_cons_succ, List.getElem_cons_zero, List.getElem_toArray, List.setIfInBounds_toArray, List.set_cons_zero, List.set_cons_succ]
    refine wpAnyH_take (i := 14) (v := undef) rfl (by kernel_rfl) (by kernel_rfl) (by kernel_rfl) (fun _ _ _ h => h) (Or.inr ⟨by rfl, rfl⟩) hHeld ?_
    try simp only [Act.put, List.getElem_cons_succ, List.getElem_cons_zero, List.getElem_toArray, List.setIfInBounds_toArray, List.set_cons_zero, List.set_cons_succ]
    refine wpAnyH_take (i := 15) (v := undef) rfl (by kernel_rfl) (by kernel_rfl) (by kernel_rfl) (fun _ _ _ h => h) (Or.inr ⟨by rfl, rfl⟩) hHeld ?_
    try simp only [Act.put, List.getElem_cons_succ, List.getElem_cons_zero, List.getElem_toArray, List.setIfInBounds_toArray, List.set_cons_zero, List.set_cons_succ]
    refine wpAnyH_take (i := 16) (v := undef) rfl (by kernel_rfl) (by kernel_rfl) (by kernel_rfl) (fun _ _ _ h => h) (Or.inr ⟨by rfl, rfl⟩) hHeld ?_
    try simp only [Act.put, List.getElem_cons_succ, List.getElem_cons_zero, List.getElem_toArray, List.setIfInBounds_toArray, List.set_cons_zero, List.set_cons_succ]
    refine wpAnyH_take (i := 17) (v := ?va17) rfl (by kernel_rfl) (by kernel_rfl) (by kernel_rfl) (fun _ _ _ h => h) (Or.inl ⟨by rfl, ?hya17⟩) hHeld ?resta17
    case hya17 => (intro w hSw; (try dsimp only at hSw); go_simp; try with_reducible rfl)
    try simp only [Act.put, List.getElem_cons_succ, List.getElem_cons_zero, List.getElem_toArray, List.setIfInBounds_toArray, List.set_cons_zero, List.set_cons_succ]
    refine wpAnyH_ready (rs := [18]) (by kernel_rfl) (by simp) ?_
    refine AllReadyH.cons rfl (fun K hK => ?_) AllReadyH.nil
    go_simp
    refine Calls.mono (HY.out _) ?_
    rintro e w9 ⟨rfl, rfl⟩
    go_wp2_with fail
    refine hK.out _ _ ?_ (fun hHeld => ?_)
    · exact (Below.refl _ _).drew
    clear hK K
    try simp only [Act.put, List.getElem_cons_succ, List.getElem_cons_zero, List.getElem_toArray, List.setIfInBounds_toArray, List.set_cons_zero, List.set_cons_succ]
    refine wpAnyH_done (by kernel_rfl) ?_ _
    have hbd := HB2.out.drew
    have rdA : Rd u rb w1 T1 (n + 1) W2.drew := H1.out.rd.below hbd
    have hNd : W2.drew.heap[w1.heap.size]? = some (.cells #[.int .i64 0, .string ⟨nm.toArray⟩, .string ⟨hp.toArray⟩, .slice none 0 0] 35) := HN2.out
    clear hHeld s0 s1 s2 HB2 HN2 HY hbd
    generalize W2.drew = W3 at *
    obtain ⟨d0, d1, d2, d3⟩ := four_cells hNd
    have D3 : La.HidC _ _ _ _ _ := HK.out W3 rdA.re
    have HRA := hid_of rdA
    have HND := hid_of hNd
    clear HK rdA hNd
    go_wp2_with fail
    refine Calls.mono D3.out ?_
    rintro e w3 ⟨rfl, hr3⟩
    have hne : w1.heap.size ≠ rb := by have := HLt.out; omega
    have hx3 := hr3.ch.at_ HND.out hne
    obtain ⟨e0, e1, e2, e3⟩ := four_cells hx3
    have f0 : w3.frozen? ⟨w1.heap.size, 0, none⟩ = false := by simp [World.frozen?, hx3]
    have HRC : Hid (Rd u rb w1 T2 (n + 2) (w3.setCell ⟨w1.heap.size, 0, none⟩ (.int .i64 1))) := (HRA.out.then hr3).put ⟨w1.heap.size, 0, none⟩ _ hne (Nat.le_refl _) H1.out.rd.st.size
    have HN4 : Hid ((w3.setCell ⟨w1.heap.size, 0, none⟩ (.int .i64 1)).heap[w1.heap.size]? = some (.cells #[.int .i64 1, .string ⟨nm.toArray⟩, .string ⟨hp.toArray⟩, .slice none 0 0] 35)) := by
      have := Lib.heap_setCell_same (i := 0) hx3 (.int .i64 1)
      unfold Hid
      simpa using this
    clear D3 hr3 hx3 hne HRA HND HLt d0 d1 d2 d3
    go_upto_region 4 with fail
    generalize w3.setCell ⟨w1.heap.size, 0, none⟩ (.int .i64 1) = w4 at *
    clear e0 e1 e2 e3 f0
    obtain ⟨d0, d1, d2, d3⟩ := four_cells HN4.out
    have D4 : La.HidC _ _ _ _ _ := HS.out w4 (H1.out.called HRC.out)
    clear HS
    go_wp2_with fail
    refine Calls.mono D4.out ?_
    rintro e w5 ⟨rfl, v', l', h5, hC5⟩
    obtain ⟨c0, c1, -, -⟩ := h5.rd.cells
    have c0 : w5.cell? ⟨rb, 0, none⟩ = some (.string ⟨#[]⟩) := by simpa using c0
    have HQ : Hid (Ss u rb sb B p r v' [(cx nm hp L t, l', .slice none 0 0)] [] (n + 3) w5 ∧ Chg (fun b => b = rb ∨ b = sb) w w5) := ⟨h5, (((Chg.refl (fun b => b = rb ∨ b = sb) w).trans HCw.out (fun x e => Or.inl (Or.inl e))).trans HRC.out.ch (fun x e => Or.inl (Or.inl e))).trans hC5 (fun x e => Or.inl e)⟩
    clear D4 h5 hC5 HRC HN4 HCw H1 d0 d1 d2 d3 H0 HK1 HK2 HK3 c1
    go_wp2_with fail
    refine wp_loop_once ?_
    go_wp2_with fail
    go_end0
    exact ⟨rfl, v', l', HQ.out.1, HQ.out.2⟩
  · rw [HK2.out] at q2; cases q2
  · rw [HK1.out] at q1; cases q1
end Go.Proofs.YtliehacfoiigpaaGreatDoor
