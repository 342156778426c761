/- Shift. Own work of the verifier. -/
import Derived.Test.YtmejmohambhaaaaGreatDoorDC4
namespace Go.Proofs.YtmejmohambhaaaaGreatDoor
open Go.RowKit

/-- What Shift leaves: far to the left or to the right. -/
def LeftedBy (k : Nat) (g : Nat) (D : Nat → Nat) (dp : Int) (ng : Bool) (w w' : World) : Prop :=
  ∃ E m dp' tr', DecAt g E m dp' ng tr' w' ∧ Good E m ∧ (dp < dp' ∨ dp = dp' ∧ D 0 < E 0) ∧ dp' ≤ dp + 20 + (k : Int) ∧ Below g w w'
def RightedBy (k : Nat) (g : Nat) (D : Nat → Nat) (dp : Int) (ng : Bool) (w w' : World) : Prop :=
  ∃ E m dp' tr', DecAt g E m dp' ng tr' w' ∧ Good E m ∧ (dp' < dp ∨ dp' = dp ∧ E 0 < D 0) ∧ dp - 20 - (k : Int) ≤ dp' ∧ Below g w w'
set_option maxHeartbeats 2000000 in
set_option maxRecDepth 100000 in
theorem shift_left (g : Nat) (D : Nat → Nat) (n k : Nat) (dp : Int) (ng tr : Bool) (hG : Good D n) (k0 : 1 ≤ k) (k1 : k ≤ 1000000) (d0 : -1000000000 ≤ dp) (d1 : dp ≤ 1000000000) (w : World) (h : DecAt g D n dp ng tr w) (hC : CheatB g w) :
    Calls Tryz.prog 68 #[.pointer (some ⟨g, 0, none⟩), .int .i64 (k : Int)] w fun e w' => e = .returned (.tuple #[]) ∧ LeftedBy k g D dp ng w w' := by
  have HG : Hid _ := hG
  have HC : Hid _ := hC
  have H : Hid _ := h
  have hz : ((n : Int) == 0) = false := by rw [beq_eq_false_iff_ne]; have := hG.pos; omega
  have c1 := h.nd
  have hp : decide ((0 : Int) < (k : Int)) = true := by rw [decide_eq_true_eq]; omega
  have hp' : decide (0 < k) = true := by rw [decide_eq_true_eq]; omega
  clear hG hC h
  go_enter Tryz.func68, Tryz.ntmps68
  go_wp2_with fail
  go_loopw [1] (fun kv wr => ∃ (j m : Nat) (E : Nat → Nat) (dq : Int) (t : Bool), kv = .int .i64 (j : Int) ∧ 1 ≤ j ∧ j ≤ k ∧ 3 * dq + j ≤ 3 * dp + k ∧ Hid (dp < dq ∨ dp = dq ∧ D 0 ≤ E 0) ∧ dp ≤ dq ∧ Hid (Good E m) ∧ Hid (DecAt g E m dq ng t wr) ∧ Hid (CheatB g wr) ∧ Below g w wr) (fun kv _ => (intOf kv).toNat)
  case atStart => exact ⟨k, n, D, dp, tr, rfl, k0, by omega, by omega, Or.inr ⟨rfl, Nat.le_refl _⟩, by omega, HG, H, HC, Below.refl _ _⟩
  case round =>
    clear HG H HC c1 hz hp hp'
    obtain ⟨j, m, E, dq, t, rfl, hj1, hjk, h3, hmon, hle, hG, hI, hC, hb⟩ := hrel
    by_cases h60 : 60 < j
    · have h60' : (60 : Int) < (j : Int) := by omega
      have HL : Hid (Calls Tryz.prog 104 #[.pointer (some ⟨g, 0, none⟩), .int .u64 60] wr fun e w' => e = .returned (.tuple #[]) ∧ Lefted g E dq ng wr w') := left_any g E m 60 dq ng t hG.out (by omega) (by omega) (by omega) (by omega) wr hI.out hC.out
      as_aux_lemma =>
        go_wp2_with (first
          | (go_at_call 104; with_reducible refine Calls.mono HL.out ?_; rintro e' w' ⟨rfl, ht⟩)
          | fail)
        obtain ⟨E', m', dp', tr', hd, hg', hm', hle', hb'⟩ := ht
        refine ⟨⟨j - 60, m', E', dp', tr', ?_, by omega, by omega, by omega, ?_, by omega, hg', hd, hC.out.below hb', hb.trans hb'⟩, by simp [intOf]; omega⟩
        · congr 1; omega
        · rcases hmon.out with c | ⟨c, c'⟩ <;> rcases hm' with c2 | ⟨c2, c2'⟩
          · exact Or.inl (by omega)
          · exact Or.inl (by omega)
          · exact Or.inl (by omega)
          · exact Or.inr ⟨by omega, by omega⟩
    · have h60' : ¬ (60 : Int) < (j : Int) := by omega
      have HL : Hid (Calls Tryz.prog 104 #[.pointer (some ⟨g, 0, none⟩), .int .u64 (j : Int)] wr fun e w' => e = .returned (.tuple #[]) ∧ Lefted g E dq ng wr w') := left_any g E m j dq ng t hG.out (by omega) (by omega) (by omega) (by omega) wr hI.out hC.out
      as_aux_lemma =>
        go_wp2_with (first
          | (go_at_call 104; with_reducible refine Calls.mono HL.out ?_; rintro e' w' ⟨rfl, ht⟩)
          | fail)
        refine bodyPost_end (results_none rfl _ _ _) rfl ?_
        obtain ⟨E', m', dp', tr', hd, hg', hm', hle', hb'⟩ := ht
        refine ⟨rfl, E', m', dp', tr', hd, hg', ?_, by omega, hb.trans hb'⟩
        rcases hmon.out with c | ⟨c, c'⟩ <;> rcases hm' with c2 | ⟨c2, c2'⟩
        · exact Or.inl (by omega)
        · exact Or.inl (by omega)
        · exact Or.inl (by omega)
        · exact Or.inr ⟨by omega, by omega⟩
set_option maxHeartbeats 2000000 in
set_option maxRecDepth 100000 in
theorem shift_right (g : Nat) (D : Nat → Nat) (n k : Nat) (dp : Int) (ng tr : Bool) (hG : Good D n) (k0 : 1 ≤ k) (k1 : k ≤ 1000000) (d0 : -1000000000 ≤ dp) (d1 : dp ≤ 1000000000) (w : World) (h : DecAt g D n dp ng tr w) :
    Calls Tryz.prog 68 #[.pointer (some ⟨g, 0, none⟩), .int .i64 (-(k : Int))] w fun e w' => e = .returned (.tuple #[]) ∧ RightedBy k g D dp ng w w' := by
  have HG : Hid _ := hG
  have H : Hid _ := h
  have hz : ((n : Int) == 0) = false := by rw [beq_eq_false_iff_ne]; have := hG.pos; omega
  have c1 := h.nd
  have hp : ¬ (0 : Int) < -(k : Int) := by omega
  have hp2 : -(k : Int) < 0 := by omega
  clear hG h
  go_enter Tryz.func68, Tryz.ntmps68
  go_wp2_with fail
  go_loopw [1] (fun kv wr => ∃ (j m : Nat) (E : Nat → Nat) (dq : Int) (t : Bool), kv = .int .i64 (-(j : Int)) ∧ 1 ≤ j ∧ j ≤ k ∧ 3 * dp + j ≤ 3 * dq + k ∧ Hid (dq < dp ∨ dq = dp ∧ E 0 ≤ D 0) ∧ dq ≤ dp ∧ Hid (Good E m) ∧ Hid (DecAt g E m dq ng t wr) ∧ Below g w wr) (fun kv _ => (-(intOf kv)).toNat)
  case atStart => exact ⟨k, n, D, dp, tr, rfl, k0, by omega, by omega, Or.inr ⟨rfl, Nat.le_refl _⟩, by omega, HG, H, Below.refl _ _⟩
  case round =>
    clear HG H c1 hz hp hp2
    obtain ⟨j, m, E, dq, t, rfl, hj1, hjk, h3, hmon, hle, hG, hI, hb⟩ := hrel
    by_cases h60 : 60 < j
    · have h60' : -(j : Int) < -60 := by omega
      have HL : Hid (Calls Tryz.prog 105 #[.pointer (some ⟨g, 0, none⟩), .int .u64 60] wr fun e w' => e = .returned (.tuple #[]) ∧ Righted g E dq ng wr w') := right_any g E m 60 dq ng t hG.out (by omega) (by omega) (by omega) (by omega) wr hI.out
      as_aux_lemma =>
        go_wp2_with (first
          | (go_at_call 105; with_reducible refine Calls.mono HL.out ?_; rintro e' w' ⟨rfl, ht⟩)
          | fail)
        obtain ⟨E', m', dp', tr', hd, hg', hm', hle', hb'⟩ := ht
        refine ⟨⟨j - 60, m', E', dp', tr', ?_, by omega, by omega, by omega, ?_, by omega, hg', hd, hb.trans hb'⟩, by simp [intOf]; omega⟩
        · congr 1; omega
        · rcases hmon.out with c | ⟨c, c'⟩ <;> rcases hm' with c2 | ⟨c2, c2'⟩
          · exact Or.inl (by omega)
          · exact Or.inl (by omega)
          · exact Or.inl (by omega)
          · exact Or.inr ⟨by omega, by omega⟩
    · have h60' : ¬ -(j : Int) < -60 := by omega
      have HL : Hid (Calls Tryz.prog 105 #[.pointer (some ⟨g, 0, none⟩), .int .u64 (j : Int)] wr fun e w' => e = .returned (.tuple #[]) ∧ Righted g E dq ng wr w') := right_any g E m j dq ng t hG.out (by omega) (by omega) (by omega) (by omega) wr hI.out
      as_aux_lemma =>
        go_wp2_with (first
          | (go_at_call 105; with_reducible refine Calls.mono HL.out ?_; rintro e' w' ⟨rfl, ht⟩)
          | fail)
        refine bodyPost_end (results_none rfl _ _ _) rfl ?_
        obtain ⟨E', m', dp', tr', hd, hg', hm', hle', hb'⟩ := ht
        refine ⟨rfl, E', m', dp', tr', hd, hg', ?_, by omega, hb.trans hb'⟩
        rcases hmon.out with c | ⟨c, c'⟩ <;> rcases hm' with c2 | ⟨c2, c2'⟩
        · exact Or.inl (by omega)
        · exact Or.inl (by omega)
        · exact Or.inl (by omega)
        · exact Or.inr ⟨by omega, by omega⟩
end Go.Proofs.YtmejmohambhaaaaGreatDoor
