/- Merge, the code's: joining two lists. Own work of the verifier. -/
import Derived.Test.YthhoklgfgandpaaX3
namespace Go.Proofs.Ythhoklgfgandpaa
open Go.RowKit Go.Shelf

set_option maxRecDepth 10000 in
set_option maxHeartbeats 4000000 in
theorem concat_any (sb : Nat) (v v' : Value) (A C : List Cn) (hlA : A.length ≤ 1048576) (hlC : C.length ≤ 1048576) (w : World) (c0 : w.cell? ⟨sb, 0, none⟩ = some v) (c1 : w.cell? ⟨sb, 1, none⟩ = some v') (hA : SN w v A) (hC : SN w v' C) :
    Calls Try.prog 34 #[.slice (some ⟨sb, 0, none⟩) 2 2] w fun e w' => ∃ m, e = .returned m ∧ GC w.heap.size w m (A ++ C) w' := by
  obtain ⟨i0, hi, hz0, hz1, hz2⟩ := info_parts infoC
  have HG : Hid (∀ W, _) := grow_nil (A.length + C.length) (by omega)
  have HA : Hid (SN w v A) := hA
  have HC : Hid (SN w v' C) := hC
  have HC0 : Hid (∀ W, Below w.heap.size w W → W.cell? ⟨sb, 0, none⟩ = some v) := fun W hb => (hb.cell (p := ⟨sb, 0, none⟩) (lt_of_cell c0)).trans c0
  have HC1 : Hid (∀ W, Below w.heap.size w W → W.cell? ⟨sb, 1, none⟩ = some v') := fun W hb => (hb.cell (p := ⟨sb, 1, none⟩) (lt_of_cell c1)).trans c1
  obtain ⟨ao, b, o, cap, hv, _⟩ := hA.sc
  obtain ⟨ao', b', o', cap', hv', _⟩ := hC.sc
  subst hv hv'
  clear hA hC
  have s0 : wrap64 ((0 : Int) + (A.length : Int)) = (A.length : Int) := by unfold wrap64; omega
  have s1 : wrap64 ((A.length : Int) + (C.length : Int)) = ((A.length + C.length : Nat) : Int) := by unfold wrap64; omega
  have n0 : ¬ (A.length : Int) < 0 := by omega
  have n1 : ¬ ((A.length + C.length : Nat) : Int) < 0 := by omega
  go_enter Try.func34, Try.ntmps34
  go_wp2_with fail
  go_loopw [3, 11] (fun a c wr => ∃ k : Nat, wr = w ∧ c = .int .i64 (k : Int) ∧ ((k = 0 ∧ a = .int .i64 0) ∨ (k = 1 ∧ a = .int .i64 (A.length : Int)) ∨ (k = 2 ∧ a = .int .i64 ((A.length + C.length : Nat) : Int)))) (fun _ c _ => 2 - (intOf c).toNat)
  case atStart => exact ⟨0, rfl, rfl, Or.inl ⟨rfl, rfl⟩⟩
  case round =>
    obtain ⟨k, hwr, rfl, (⟨rfl, rfl⟩ | ⟨rfl, rfl⟩ | ⟨rfl, rfl⟩)⟩ := hrel <;> obtain rfl : w = wr := hwr.symm <;> clear hwr
    · go_wp2_with fail
      exact ⟨⟨1, True.intro, by first | rfl | simp, Or.inr (Or.inl ⟨rfl, by first | rfl | simp⟩)⟩, by simp [intOf]⟩
    · go_wp2_with fail
      exact ⟨⟨2, True.intro, by first | rfl | simp, Or.inr (Or.inr ⟨rfl, by first | rfl | simp⟩)⟩, by simp [intOf]⟩
    · generalize A.length + C.length = n at *
      go_wp2_with (go_at_call 53; refine (HG.out _).mono ?_; rintro e w1 ⟨m, rfl, hg⟩)
      have HGm : Hid (GC w.heap.size w m [] w1) := hg
      clear hg
      go_loopw [6, 27] (fun a c w2 => ∃ (k : Nat) (D : List Cn), c = .int .i64 (k : Int) ∧ Hid (GC w.heap.size w a D w2) ∧ Hid ((k = 0 ∧ D = []) ∨ (k = 1 ∧ D = A) ∨ (k = 2 ∧ D = A ++ C))) (fun _ c _ => 2 - (intOf c).toNat)
      case atStart => exact ⟨0, [], rfl, HGm, Or.inl ⟨rfl, rfl⟩⟩
      case round =>
        obtain ⟨k, D, rfl, hG, hk⟩ := hrel
        have d0 := HC0.out _ hG.out.below
        have d1 := HC1.out _ hG.out.below
        rcases hk.out with ⟨rfl, rfl⟩ | ⟨rfl, hD⟩ | ⟨rfl, hD⟩
        · rcases HA.out with ⟨hv0, hL0⟩ | ⟨bA, oA, cA, hvA, hcA, hRA⟩
          · rw [hv0] at d0
            rcases gc_form2 hG.out with ⟨rfl, hD0⟩ | ⟨gv, cv, rfl, hcv⟩
            · have HG2 : Hid (GC w.heap.size w (.slice none 0 0) A wr) := by unfold Hid; rw [hL0]; simpa using hG.out
              clear hG
              go_wp2_with fail
              exact ⟨⟨1, _, by first | rfl | simp, HG2, Or.inr (Or.inl ⟨rfl, rfl⟩)⟩, by simp [intOf]⟩
            · have HG2 : Hid (GC w.heap.size w (.slice (some ⟨gv, 0, none⟩) ([] : List Cn).length cv) A wr) := by unfold Hid; rw [hL0]; simpa using hG.out
              clear hG
              go_wp2_with fail
              exact ⟨⟨1, _, by first | rfl | simp, HG2, Or.inr (Or.inl ⟨rfl, rfl⟩)⟩, by simp [intOf]⟩
          · obtain ⟨rfl, rfl⟩ : ao = some ⟨bA, oA, none⟩ ∧ cA = cap := by have h := hvA; simp at h; exact ⟨h.1, h.2.symm⟩
            clear hvA
            have HcA : Hid _ := (hRA.below hG.out.below (fun k => hRA.lt k)).cells
            have hgs := hG.out.size
            go_wp2_with (at_builtin; refine wpList_append_own _ rfl _ _ 23 rfl w.heap.size 49 i0 (.agg #[.int .i64 0, .int .u64 0]) 2 16 Try.underlying23 hi hz0 hz1 hz2 rfl (by decide) _ _ _ rfl hG.out.own ⟨bA, oA, none⟩ A.length cA (fl A) rfl (fl_length A) HcA.out (fl_one A) (by unfold maxLen; first | omega | (simp; omega)) (by first | omega | (simp; omega)) hgs ?_; intro v2 w2 hown hgrow hnil; have hg2 := hG.out.grow (ys := A) hG.out.below hgs hown hgrow; clear hown hgrow hnil)
            exact ⟨⟨1, _, by first | rfl | simp, hg2, Or.inr (Or.inl ⟨rfl, List.nil_append _⟩)⟩, by simp [intOf]⟩
        · subst hD
          rcases HC.out with ⟨hv0, hL0⟩ | ⟨bA, oA, cA, hvA, hcA, hRA⟩
          · rw [hv0] at d1
            rcases gc_form2 hG.out with ⟨rfl, hD0⟩ | ⟨gv, cv, rfl, hcv⟩
            · have HG2 : Hid (GC w.heap.size w (.slice none 0 0) (D ++ C) wr) := by unfold Hid; rw [hL0]; simpa using hG.out
              clear hG
              go_wp2_with fail
              exact ⟨⟨2, _, by first | rfl | simp, HG2, Or.inr (Or.inr ⟨rfl, rfl⟩)⟩, by simp [intOf]⟩
            · have HG2 : Hid (GC w.heap.size w (.slice (some ⟨gv, 0, none⟩) D.length cv) (D ++ C) wr) := by unfold Hid; rw [hL0]; simpa using hG.out
              clear hG
              go_wp2_with fail
              exact ⟨⟨2, _, by first | rfl | simp, HG2, Or.inr (Or.inr ⟨rfl, rfl⟩)⟩, by simp [intOf]⟩
          · obtain ⟨rfl, rfl⟩ : ao' = some ⟨bA, oA, none⟩ ∧ cA = cap' := by have h := hvA; simp at h; exact ⟨h.1, h.2.symm⟩
            clear hvA
            have HcA : Hid _ := (hRA.below hG.out.below (fun k => hRA.lt k)).cells
            have hgs := hG.out.size
            go_wp2_with (at_builtin; refine wpList_append_own _ rfl _ _ 23 rfl w.heap.size 49 i0 (.agg #[.int .i64 0, .int .u64 0]) 2 16 Try.underlying23 hi hz0 hz1 hz2 rfl (by decide) _ _ _ rfl hG.out.own ⟨bA, oA, none⟩ C.length cA (fl C) rfl (fl_length C) HcA.out (fl_one C) (by unfold maxLen; first | omega | (simp; omega)) (by first | omega | (simp; omega)) hgs ?_; intro v2 w2 hown hgrow hnil; have hg2 := hG.out.grow (ys := C) hG.out.below hgs hown hgrow; clear hown hgrow hnil)
            exact ⟨⟨2, _, by first | rfl | simp, hg2, Or.inr (Or.inr ⟨rfl, rfl⟩)⟩, by simp [intOf]⟩
        · go_wp2_with fail
          go_ret
          exact ⟨_, rfl, hD ▸ hG.out⟩
end Go.Proofs.Ythhoklgfgandpaa
