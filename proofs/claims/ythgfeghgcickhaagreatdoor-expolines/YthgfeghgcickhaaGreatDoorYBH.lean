/- THE PAGE: family, where its first line is too much. Own work of the verifier. -/
import Derived.Test.YthgfeghgcickhaaGreatDoorYBG
namespace Go.Proofs.YthgfeghgcickhaaGreatDoor
open Go.RowKit Me

set_option maxRecDepth 100000 in
set_option maxHeartbeats 1000000 in
theorem family_no (u : World) (pb : Nat) (p : Int) (T : List UInt8) (d : La.Ds) (lv : Value) (M : List La.Lb) (w : World) (h : Pg u pb w p T w) (hl : SLb u lv d.labels) (hs : Sho d M) (hT : fitB T = true) (hf : ¬ fitB (T ++ heT d) = true) :
    Calls Tryz.prog 16 #[.pointer (some ⟨pb, 0, none⟩), dsV d lv] w fun e w' => e = .returned (.bool (wrL T [heT d, tyT d]).2) ∧ Pg u pb w p (wrL T [heT d, tyT d]).1 w' := by
  have hlen := heT_len hs
  have HH : Hid (∀ W, Calls Tryz.prog 25 #[.string ⟨d.help.toArray⟩] W fun e w' => e = .returned (.string ⟨(La.escL false d.help).toArray⟩) ∧ Below W.heap.size W w') := fun W => La.chelp_any d.help (by have := escL_len false d.help; have := hs.h; omega) (by have := hs.h; omega) W
  have HL1 : Hid (∀ w sb W, Pg u pb w p T W → W.heap[sb]? = some (.cells #[.string ⟨#[35, 32, 72, 69, 76, 80, 32]⟩, .string ⟨d.name.toArray⟩, .string ⟨#[32]⟩, .string ⟨(La.escL false d.help).toArray⟩] 9) → Calls Tryz.prog 12 #[.pointer (some ⟨pb, 0, none⟩), .slice (some ⟨sb, 0, none⟩) 4 4] W fun e w' => e = .returned (.bool (fitB (T ++ heT d))) ∧ Pg u pb w p (T ++ heT d) w') :=
    fun w sb W h1 h2 => by
      have q := line_any u pb sb 4 p [heA, d.name, [32], La.escL false d.help] T W h1.re h2 (by simp) (by rw [← heT]; have := fit_len hT; omega)
      rw [← heT] at q
      refine Calls.mono q ?_
      rintro e w' ⟨rfl, q⟩
      exact ⟨rfl, h1.then q⟩
  have HL2 : fitB (T ++ heT d) = true → Hid (∀ w sb W, Pg u pb w p (T ++ heT d) W → W.heap[sb]? = some (.cells #[.string ⟨#[35, 32, 84, 89, 80, 69, 32]⟩, .string ⟨d.name.toArray⟩, .string ⟨#[32]⟩, .string ⟨(kdT d.kind).toArray⟩] 9) → Calls Tryz.prog 12 #[.pointer (some ⟨pb, 0, none⟩), .slice (some ⟨sb, 0, none⟩) 4 4] W fun e w' => e = .returned (.bool (fitB (T ++ heT d ++ tyT d))) ∧ Pg u pb w p (T ++ heT d ++ tyT d) w') :=
    fun hf w sb W h1 h2 => by
      have q := line_any u pb sb 4 p [tyA, d.name, [32], kdT d.kind] (T ++ heT d) W h1.re h2 (by simp) (by rw [← tyT]; have := fit_len hf; omega)
      rw [← tyT] at q
      refine Calls.mono q ?_
      rintro e w' ⟨rfl, q⟩
      exact ⟨rfl, h1.then q⟩
  have HTy : Hid (∀ W, _) := fun W => typeOf_any d.kind W
  have HP := hid_of h
  obtain ⟨ao, cap, rfl⟩ := hl.form
  have hwr := wrL_two T (heT d) (tyT d)
  rw [hwr]
  clear h hl hs hlen hT hwr
  simp only [Bool.not_eq_true] at hf
  rw [hf] at HL1 ⊢
  clear HL2 hf HTy
  generalize T ++ heT d = R1 at HL1 ⊢
  generalize La.escL false d.help = D at HL1 HH
  go_enter Tryz.func16, Tryz.ntmps16
  go_upto_region 1 with fail
  have hN0 := new_1 w (.cells #[.int .i64 d.kind, .string ⟨d.name.toArray⟩, .string ⟨d.help.toArray⟩, .slice ao d.labels.length cap] 33)
  have HP0 := hid_of (HP.out.alloc (.cells #[.int .i64 d.kind, .string ⟨d.name.toArray⟩, .string ⟨d.help.toArray⟩, .slice ao d.labels.length cap] 33))
  have hne : w.heap.size ≠ pb := by have := HP.out.lt; omega
  generalize w.alloc (.cells #[.int .i64 d.kind, .string ⟨d.name.toArray⟩, .string ⟨d.help.toArray⟩, .slice ao d.labels.length cap] 33) = W0 at *
  have HKp : Hid (∀ W1, Below W0.heap.size W0 W1 → bx4 w.heap.size d (.slice ao d.labels.length cap) W1) := fun W1 hb => bx4_bel hb (bx4_of hN0)
  have HKq : Hid (∀ X W1, Pg u pb W0 p X W1 → bx4 w.heap.size d (.slice ao d.labels.length cap) W1) := fun X W1 k => bx4_of (k.cells hN0 hne (by decide))
  have HPr := hid_of HP0.out.re
  clear hN0 HP hne
  refine wp_region_held_drew (S := fun W => bx4 w.heap.size d (.slice ao d.labels.length cap) W) (by kernel_rfl) (HKp.out _ (belD (Below.refl _ _))) (fun hHeld => ?_)
  refine wpAnyH_take (i := 0) (v := ?va0) rfl (by kernel_rfl) (by kernel_rfl) (by kernel_rfl) (fun _ _ _ h => h) (Or.inl ⟨by rfl, ?hya0⟩) hHeld ?resta0
  case hya0 => (intro w hSw; (try dsimp only at hSw); go_simp; try with_reducible rfl)
  try simp only [Act.put, List.getElem_cons_zero, List.getElem_toArray, List.setIfInBounds_toArray, List.set_cons_zero, List.set_cons_succ]
  refine wpAnyH_take (i := 1) (v := ?va1) rfl (by kernel_rfl) (by kernel_rfl) (by kernel_rfl) (fun _ _ _ h => h) (Or.inl ⟨by rfl, ?hya1⟩) hHeld ?resta1
  case hya1 => (intro w hSw; (try dsimp only at hSw); go_simp; try with_reducible rfl)
  try simp only [Act.put, List.getElem_cons_succ, List.getElem_cons_zero, List.getElem_toArray, List.setIfInBounds_toArray, List.set_cons_zero, List.set_cons_succ]
  refine wpAnyH_take (i := 2) (v := ?va2) rfl (by kernel_rfl) (by kernel_rfl) (by kernel_rfl) (fun _ _ _ h => h) (Or.inl ⟨by rfl, ?hya2⟩) hHeld ?resta2
  case hya2 => (intro w hSw; (try dsimp only at hSw); go_simp; try with_reducible rfl)
  try simp only [Act.put, List.getElem_cons_succ, List.getElem_cons_zero, List.getElem_toArray, List.setIfInBounds_toArray, List.set_cons_zero, List.set_cons_succ]
  refine wpAnyH_take (i := 3) (v := ?va3) rfl (by kernel_rfl) (by kernel_rfl) (by kernel_rfl) (fun _ _ _ h => h) (Or.inl ⟨by rfl, ?hya3⟩) hHeld ?resta3
  case hya3 => (intro w hSw; (try dsimp only at hSw); go_simp; try with_reducible rfl)
  try simp only [Act.put, List.getElem_cons_succ, List.getElem_cons_zero, List.getElem_toArray, List.setIfInBounds_toArray, List.set_cons_zero, List.set_cons_succ]
  refine wpAnyH_take (i := 4) (v := ?va4) rfl (by kernel_rfl) (by kernel_rfl) (by kernel_rfl) (fun _ _ _ h => h) (Or.inl ⟨by rfl, ?hya4⟩) hHeld ?resta4
  case hya4 => (intro w hSw; (try dsimp only at hSw); go_simp; try with_reducible rfl)
  try simp only [Act.put, List.getElem_cons_succ, List.getElem_cons_zero, List.getElem_toArray, List.setIfInBounds_toArray, List.set_cons_zero, List.set_cons_succ]
  refine wpAnyH_ready (rs := [5]) (by kernel_rfl) (by simp) ?_
  refine AllReadyH.cons rfl (fun K hK => ?_) AllReadyH.nil
  go_simp
  refine Calls.mono (HH.out _) ?_
  rintro e w9 ⟨rfl, hb9⟩
  have hB9 : Below W0.heap.size W0 w9 := bt (belD (Below.refl _ _)) hb9
  go_wp2_with fail
  refine hK.out _ _ ?_ (fun hHeld => ?_)
  · exact HKp.out _ hB9
  clear hK K
  try simp only [Act.put, List.getElem_cons_succ, List.getElem_cons_zero, List.getElem_toArray, List.setIfInBounds_toArray, List.set_cons_zero, List.set_cons_succ]
  refine wpAnyH_ready (rs := [6]) (by kernel_rfl) (by simp) ?_
  refine AllReadyH.cons rfl (fun K hK => ?_) AllReadyH.nil
  go_simp
  refine hK.out _ _ ?_ (fun hHeld => ?_)
  · exact HKp.out _ (belN _ hB9)
  clear hK K
  try simp only [Act.put, List.getElem_cons_succ, List.getElem_cons_zero, List.getElem_toArray, List.setIfInBounds_toArray, List.set_cons_zero, List.set_cons_succ]
  refine wpAnyH_ready (rs := [7]) (by kernel_rfl) (by simp) ?_
  refine AllReadyH.cons rfl (fun K hK => ?_) AllReadyH.nil
  go_simp
  refine Calls.mono (HL1.out _ _ _ (HPr.out.below (belN _ hB9)) (new_1 _ _)) ?_
  rintro e wz ⟨rfl, hPz⟩
  go_wp2_with fail
  refine hK.out _ _ ?_ (fun hHeld => ?_)
  · exact HKq.out _ _ hPz
  clear hK K
  try simp only [Act.put, List.getElem_cons_succ, List.getElem_cons_zero, List.getElem_toArray, List.setIfInBounds_toArray, List.set_cons_zero, List.set_cons_succ]
  refine wpAnyH_take (i := 8) (v := ?va8) rfl (by kernel_rfl) (by kernel_rfl) (by kernel_rfl) (fun _ _ _ h => h) (Or.inl ⟨by rfl, ?hya8⟩) hHeld ?resta8
  case hya8 => (intro w hSw; (try dsimp only at hSw); go_simp; try with_reducible rfl)
  try simp only [Act.put, List.getElem_cons_succ, List.getElem_cons_zero, List.getElem_toArray, List.setIfInBounds_toArray, List.set_cons_zero, List.set_cons_succ]
  refine wpAnyH_take (i := 9) (v := undef) rfl (by kernel_rfl) (by kernel_rfl) (by kernel_rfl) (fun _ _ _ h => h) (Or.inr ⟨by rfl, rfl⟩) hHeld ?_
  try simp only [Act.put, List.getElem_cons_succ, List.getElem_cons_zero, List.getElem_toArray, List.setIfInBounds_toArray, List.set_cons_zero, List.set_cons_succ]
  refine wpAnyH_take (i := 10) (v := undef) rfl (by kernel_rfl) (by kernel_rfl) (by kernel_rfl) (fun _ _ _ h => h) (Or.inr ⟨by rfl, rfl⟩) hHeld ?_
  try simp only [Act.put, List.getElem_cons_succ, List.getElem_cons_zero, List.getElem_toArray, List.setIfInBounds_toArray, List.set_cons_zero, List.set_cons_succ]
  refine wpAnyH_take (i := 11) (v := undef) rfl (by kernel_rfl) (by kernel_rfl) (by kernel_rfl) (fun _ _ _ h => h) (Or.inr ⟨by rfl, rfl⟩) hHeld ?_
  try simp only [Act.put, List.getElem_cons_succ, List.getElem_cons_zero, List.getElem_toArray, List.setIfInBounds_toArray, List.set_cons_zero, List.set_cons_succ]
  refine wpAnyH_take (i := 12) (v := undef) rfl (by kernel_rfl) (by kernel_rfl) (by kernel_rfl) (fun _ _ _ h => h) (Or.inr ⟨by rfl, rfl⟩) hHeld ?_
  try simp only [Act.put, List.getElem_cons_succ, List.getElem_cons_zero, List.getElem_toArray, List.setIfInBounds_toArray, List.set_cons_zero, List.set_cons_succ]
  refine wpAnyH_take (i := 13) (v := undef) rfl (by kernel_rfl) (by kernel_rfl) (by kernel_rfl) (fun _ _ _ h => h) (Or.inr ⟨by rfl, rfl⟩) hHeld ?_
  try simp only [Act.put, List.getElem_cons_succ, List.getElem_cons_zero, List.getElem_toArray, List.setIfInBounds_toArray, List.set_cons_zero, List.set_cons_succ]
  refine wpAnyH_take (i := 14) (v := undef) rfl (by kernel_rfl) (by kernel_rfl) (by kernel_rfl) (fun _ _ _ h => h) (Or.inr ⟨by rfl, rfl⟩) hHeld ?_
  try simp only [Act.put, List.getElem_cons_succ, List.getElem_cons_zero, List.getElem_toArray, List.setIfInBounds_toArray, List.set_cons_zero, List.set_cons_succ]
  refine wpAnyH_take (i := 15) (v := undef) rfl (by kernel_rfl) (by kernel_rfl) (by kernel_rfl) (fun _ _ _ h => h) (Or.inr ⟨by rfl, rfl⟩) hHeld ?_
  try simp only [Act.put, List.getElem_cons_succ, List.getElem_cons_zero, List.getElem_toArray, List.setIfInBounds_toArray, List.set_cons_zero, List.set_cons_succ]
  refine wpAnyH_take (i := 16) (v := undef) rfl (by kernel_rfl) (by kernel_rfl) (by kernel_rfl) (fun _ _ _ h => h) (Or.inr ⟨by rfl, rfl⟩) hHeld ?_
  try simp only [Act.put, List.getElem_cons_succ, List.getElem_cons_zero, List.getElem_toArray, List.setIfInBounds_toArray, List.set_cons_zero, List.set_cons_succ]
  refine wpAnyH_take (i := 17) (v := ?va17) rfl (by kernel_rfl) (by kernel_rfl) (by kernel_rfl) (fun _ _ _ h => h) (Or.inl ⟨by rfl, ?hya17⟩) hHeld ?resta17
  case hya17 => (intro w hSw; (try dsimp only at hSw); go_simp; try with_reducible rfl)
  try simp only [Act.put, List.getElem_cons_succ, List.getElem_cons_zero, List.getElem_toArray, List.setIfInBounds_toArray, List.set_cons_zero, List.set_cons_succ]
  refine wpAnyH_take (i := 18) (v := ?va18) rfl (by kernel_rfl) (by kernel_rfl) (by kernel_rfl) (fun _ _ _ h => h) (Or.inl ⟨by rfl, ?hya18⟩) hHeld ?resta18
  case hya18 => (intro w hSw; (try dsimp only at hSw); go_simp; try with_reducible rfl)
  try simp only [Act.put, List.getElem_cons_succ, List.getElem_cons_zero, List.getElem_toArray, List.setIfInBounds_toArray, List.set_cons_zero, List.set_cons_succ]
  refine wpAnyH_done (by kernel_rfl) ?_ _
  all_goals
    go_wp2_with fail
    go_ret
    exact ⟨rfl, HP0.out.then hPz⟩
theorem family_any (u : World) (pb : Nat) (p : Int) (T : List UInt8) (d : La.Ds) (lv : Value) (M : List La.Lb) (w : World) (h : Pg u pb w p T w) (hl : SLb u lv d.labels) (hs : Sho d M) (hT : fitB T = true) :
    Calls Tryz.prog 16 #[.pointer (some ⟨pb, 0, none⟩), dsV d lv] w fun e w' => e = .returned (.bool (wrL T [heT d, tyT d]).2) ∧ Pg u pb w p (wrL T [heT d, tyT d]).1 w' := by
  by_cases hf : fitB (T ++ heT d) = true
  · exact family_yes u pb p T d lv M w h hl hs hT hf
  · exact family_no u pb p T d lv M w h hl hs hT hf
end Go.Proofs.YthgfeghgcickhaaGreatDoor
