/- THE READER: a value, where it is a counter that is right. Own work of the verifier. -/
import Derived.Test.YtliehacfoiigpaaGreatDoorSAT
namespace Go.Proofs.YtliehacfoiigpaaGreatDoor
open Go.RowKit Me

theorem own_mono {W : World} {B b : Nat} {v : Value} {L : List La.Lb} (h : La.OwnL B v L W) (hb : b ≤ B) : La.OwnL b v L W := by
  refine ⟨h.1, ?_⟩
  rcases h.2 with k | ⟨g, cap, cur, k1, k2, k3⟩
  · exact Or.inl k
  · exact Or.inr ⟨g, cap, cur, k1, by omega, k3⟩
set_option maxRecDepth 100000 in
set_option maxHeartbeats 4000000 in
theorem value_ok (u : World) (rb : Nat) (T nm hp : List UInt8) (p : Int) (lv : Value) (n : Nat) (L : List La.Lb) (t : Int) (w : World) (h : Rd u rb w T n w) (hm : Mx u) (ht : Wi.Tab u) (hT : T.length ≤ 4194304) (hn : n ≤ 4611686018427387904) (hc : (cut10 T).2.2 = true) (hR : cntR nm (cut10 T).1 = some (L, t)) :
    Calls Tryz.prog 26 #[.pointer (some ⟨rb, 0, none⟩), .int .i64 p, .agg (d4 1 nm hp lv)] w fun e w' => ∃ v, e = .returned (.agg (cvV 1 nm hp v t)) ∧ Rd u rb w (cut10 T).2.1 (n + 1) w' ∧ La.OwnL w.heap.size v L w' := by
  obtain ⟨W0, hW0⟩ : ∃ W0, W0 = (w.alloc (.cells (d4 1 nm hp lv) 35)).alloc (.cells z11 39) := ⟨_, rfl⟩
  have hb0 : Below w.heap.size w W0 := by rw [hW0]; exact bt (bel1 _ _) (bel1 _ _)
  have hN3 : W0.heap[w.heap.size]? = some (.cells (d4 1 nm hp lv) 35) := by rw [hW0]; exact hkN' (new_1 w _) (bel1 _ _)
  have hN4 : W0.heap[w.heap.size + 1]? = some (.cells z11 39) := by
    rw [hW0]
    have := new_1 (w.alloc (.cells (d4 1 nm hp lv) 35)) (.cells z11 39)
    rwa [show (w.alloc (.cells (d4 1 nm hp lv) 35)).heap.size = w.heap.size + 1 by simp] at this
  have h0 := h.below hb0
  have hlt := h.lt
  have HC : La.HidC _ _ _ _ _ := counter_ok u rb T nm hp 1 lv n L t W0 h0.re hm ht hT hn hc hR
  obtain ⟨c0, c1, c2, c3⟩ := four_cells hN3
  have HW0 := hid_of hW0
  have H0 := hid_of h0
  have HN4 := hid_of hN4
  have HUs : Hid (u.heap.size ≤ w.heap.size) := h.st.size
  have HSz : Hid (w.heap.size + 2 ≤ W0.heap.size) := by rw [hW0]; simp [Hid]
  clear h hm ht hT hn hW0 hN3 hN4 hb0 h0 hR hc
  go_enter Tryz.func26, Tryz.ntmps26
  go_upto_region 1 with fail
  rw [← HW0.out]
  clear HW0
  go_wp2_with fail
  refine Calls.mono HC.out ?_
  rintro e w1 ⟨v, rfl, hr, ho⟩
  obtain ⟨ao, g, cap, rfl, -⟩ := own_form ho
  have hx4 := hr.ch.at_ HN4.out (by show w.heap.size + 1 ≠ rb; omega)
  obtain ⟨y0, y1, y2, y3, y4, y5, y6, y7, y8, y9, y10, f⟩ := elev hx4
  have HF : Hid (Rd u rb w (cut10 T).2.1 (n + 1) (put11 w1 (w.heap.size + 1) (.int .i64 1) (.string ⟨nm.toArray⟩) (.string ⟨hp.toArray⟩) (.slice ao L.length cap) (.int .i64 (hiOf t)) (.int .u64 (loOf t)) (.slice none 0 0) (.int .u64 0) (.float .f64 0) (.float .f64 0) (.float .f64 0))) := (H0.out.then hr).put11 _ _ _ _ _ _ _ _ _ _ _ _ (by omega) (by omega) (by have := HUs.out; omega)
  have HG : Hid (La.OwnL w.heap.size (.slice ao L.length cap) L (put11 w1 (w.heap.size + 1) (.int .i64 1) (.string ⟨nm.toArray⟩) (.string ⟨hp.toArray⟩) (.slice ao L.length cap) (.int .i64 (hiOf t)) (.int .u64 (loOf t)) (.slice none 0 0) (.int .u64 0) (.float .f64 0) (.float .f64 0) (.float .f64 0))) := own_put11 (own_mono ho (by have := HSz.out; omega)) (own_far ho (by have := HSz.out; omega)) _ _ _ _ _ _ _ _ _ _ _
  have HP := hid_of (put11_heap hx4 (.int .i64 1) (.string ⟨nm.toArray⟩) (.string ⟨hp.toArray⟩) (.slice ao L.length cap) (.int .i64 (hiOf t)) (.int .u64 (loOf t)) (.slice none 0 0) (.int .u64 0) (.float .f64 0) (.float .f64 0) (.float .f64 0))
  have sF := store_f
  clear c0 c1 c2 c3 hx4 hr ho HC H0 HN4 HUs HSz hlt
  go_wp2_with fail
  refine bodyPost_ret (results_cell_row (P := Tryz.prog) rfl _ _ (w.heap.size + 1) 39 _ (0, 0) _ rfl HP.out Tryz.underlying39 rfl (by kernel_rfl)) rfl ?_
  exact ⟨_, rfl, HF.out, HG.out⟩
end Go.Proofs.YtliehacfoiigpaaGreatDoor
/- THE READER: whether the last value of a snapshot may be. Own work of the verifier. -/
namespace Go.Proofs.YtliehacfoiigpaaGreatDoor
open Go.RowKit Me

/-- What is wrong with the last value. -/
noncomputable def lstE (s : Sn) : Int := (chkS ⟨s.p, s.vs.drop (s.vs.length - 2), s.r⟩).1
abbrev sn3 (s : Sn) (v : Value) : Array Value := #[.int .i64 s.p, v, .int .u64 (s.r : Int)]
set_option maxRecDepth 100000 in
set_option maxHeartbeats 4000000 in
theorem last_any (s : Sn) (v : Value) (h : SnW s) (w : World) (hv : SV w v s.vs) (h1 : 1 ≤ s.vs.length) (h2 : s.vs.length ≤ 256) :
    Calls Tryz.prog 27 #[.agg (sn3 s v)] w fun e w' => e = .returned (.int .i64 (lstE s)) ∧ Below w.heap.size w w' := by
  rcases hv with ⟨rfl, k⟩ | ⟨b, o, cap, rfl, hcap, hcap2, hr⟩
  · rw [k] at h1; simp at h1
  have HCk : Hid (∀ W, Below w.heap.size w W → Calls Tryz.prog 40 #[.agg (sn3 s (.slice (some ⟨b, o + (s.vs.length - 2) * 11, none⟩) (s.vs.length - (s.vs.length - 2)) (cap - (s.vs.length - 2))))] W fun e w' => ∃ z, e = two (lstE s) z ∧ Below W.heap.size W w') := fun W hW => by
    refine Calls.mono (check_any ⟨s.p, s.vs.drop (s.vs.length - 2), s.r⟩ _ ⟨fun x hx => h.vs x (List.mem_of_mem_drop hx), h.r⟩ W ⟨_, rfl, Or.inr ⟨b, o + (s.vs.length - 2) * 11, cap - (s.vs.length - 2), ?_, ?_, by omega, (hr.below hW).drop _⟩⟩) ?_
    · simp only [List.length_drop]
    · simp only [List.length_drop]; omega
    · rintro e w' ⟨he, hb⟩
      exact ⟨_, he, hb⟩
  generalize hm : s.vs.length = m at *
  obtain ⟨W0, hW0⟩ : ∃ W0, W0 = w.alloc (.cells (sn3 s (.slice (some ⟨b, o, none⟩) m cap)) 26) := ⟨_, rfl⟩
  have hb0 : Below w.heap.size w W0 := by rw [hW0]; exact bel1 _ _
  have hN : W0.heap[w.heap.size]? = some (.cells (sn3 s (.slice (some ⟨b, o, none⟩) m cap)) 26) := by rw [hW0]; exact new_1 w _
  have c0 : W0.cell? ⟨w.heap.size, 0, none⟩ = some (.int .i64 s.p) := by simp [World.cell?, hN]
  have c1 : W0.cell? ⟨w.heap.size, 1, none⟩ = some (.slice (some ⟨b, o, none⟩) m cap) := by simp [World.cell?, hN]
  have c2 : W0.cell? ⟨w.heap.size, 2, none⟩ = some (.int .u64 (s.r : Int)) := by simp [World.cell?, hN]
  have f1 : W0.frozen? ⟨w.heap.size, 1, none⟩ = false := by simp [World.frozen?, hN]
  have hmx : (max ((m : Int) - 2) 0).toNat = m - 2 := by omega
  have HMx := hid_of hmx
  have HW0 := hid_of hW0
  have HB0 := hid_of hb0
  have HCp := hid_of hcap
  have HH1 := hid_of h1
  clear hW0 hN hb0 hr hm h hmx hcap
  go_enter Tryz.func27, Tryz.ntmps27
  go_upto_region 1 with fail
  rw [← HW0.out]
  clear HW0
  go_wp2_with fail
  · rename_i hq
    exfalso
    have := HMx.out
    have := HCp.out
    omega
  · rw [HMx.out]
    have HB1 : Hid (Below w.heap.size w (W0.setCell ⟨w.heap.size, 1, none⟩ (.slice (some ⟨b, o + (m - 2) * 11, none⟩) (m - (m - 2)) (cap - (m - 2))))) := Below.setCell (p := ⟨w.heap.size, 1, none⟩) HB0.out (Nat.le_refl _) _
    refine Calls.mono (HCk.out _ HB1.out) ?_
    rintro e w2 ⟨z, rfl, hb2⟩
    have HB2 := hid_of (bt HB1.out hb2)
    clear HCk HMx hb2 HB1 HB0
    go_wp2_with fail
    go_ret
    exact ⟨rfl, HB2.out⟩
end Go.Proofs.YtliehacfoiigpaaGreatDoor
