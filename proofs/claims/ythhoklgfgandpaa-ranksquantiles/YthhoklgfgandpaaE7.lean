/- THE WALK OF THE QUANTILES' LAW, for whatever keeps the document's answers. Own work of the verifier. -/
import Derived.Test.YthhoklgfgandpaaE6
namespace Go.Proofs.Ythhoklgfgandpaa
open Go.RowKit

/-- A slice of counts, as it is handed in. -/
def SN (w : World) (v : Value) (L : List Cn) : Prop := (v = .slice none 0 0 ∧ L = []) ∨ ∃ b o cap, v = .slice (some ⟨b, o, none⟩) L.length cap ∧ L.length ≤ cap ∧ RowC w b o L
theorem SN.sc {w : World} {v : Value} {L : List Cn} (h : SN w v L) : SC w v L := by
  rcases h with ⟨rfl, rfl⟩ | ⟨b, o, cap, rfl, _, hr⟩
  · exact ⟨none, 0, 0, 0, rfl, fun k => absurd rfl k, fun i hi => by simp at hi⟩
  · exact ⟨_, b, o, cap, rfl, fun _ => rfl, hr⟩
theorem SN.below {w w1 : World} {v : Value} {L : List Cn} (h : SN w v L) (hb : Below w.heap.size w w1) : SN w1 v L := by
  rcases h with h | ⟨b, o, cap, h1, h2, hr⟩
  · exact Or.inl h
  · exact Or.inr ⟨b, o, cap, h1, h2, hr.below hb (fun k => hr.lt k)⟩
theorem GC.sn {B : Nat} {W0 w : World} {v : Value} {xs : List Cn} (h : GC B W0 v xs w) : SN w v xs := by
  rcases gc_form2 h with ⟨rfl, rfl⟩ | ⟨g, cap, rfl, hc⟩
  · exact Or.inl ⟨rfl, rfl⟩
  · obtain ⟨ao, b, o, c, hv, hao, hr⟩ := h.sc
    refine Or.inr ⟨g, 0, cap, rfl, hc, fun i hi => ?_⟩
    have hne : xs ≠ [] := fun e => by rw [e] at hi; simp at hi
    have := hao hne
    subst this
    cases hv
    exact hr i hi
/-- What the calls tell, as the document has it. -/
structure Told : Prop where
  may : ∀ (W : World) (v : Value) (L : List Cn) (p x : Int), SN W v L → Wc L → L.length ≤ 4194304 → MayIs p L x → Calls Try.prog 11 #[.int .i64 p, v] W fun e w' => e = .returned (.int .i64 x) ∧ Below W.heap.size W w'
  rank : ∀ (W : World) (n : Nat) (num den : Int), n < 18446744073709551616 → den < 9223372036854775808 → Calls Try.prog 18 #[.int .u64 (n : Int), .int .i64 num, .int .i64 den] W fun e w' => e = twoU (rkF n num den).1 (rkF n num den).2 ∧ Below W.heap.size W w'
  quant : ∀ (W : World) (v : Value) (L : List Cn) (p : Nat) (num den : Int), SN W v L → Wc L → L.length ≤ 4194304 → MayIs (p : Int) L 0 → den < 9223372036854775808 → Calls Try.prog 20 #[.int .i64 (p : Int), v, .int .i64 num, .int .i64 den] W fun e w' => e = two (qF p L num den).1 (qF p L num den).2 ∧ Below W.heap.size W w'
  most : ∀ (W : World) (v : Value) (L : List Cn) (p : Nat) (x : Int), SN W v L → Wc L → L.length ≤ 4194304 → MayIs (p : Int) L 0 → Calls Try.prog 22 #[.int .i64 (p : Int), v, .int .i64 x] W fun e w' => e = twoU (amN p L x : Nat) 0 ∧ Below W.heap.size W w'
  fixed : ∀ W : World, Calls Try.prog 8 #[] W fun e w' => e = .returned (.bool true) ∧ Below W.heap.size W w'
set_option maxRecDepth 10000 in
set_option maxHeartbeats 4000000 in
theorem quant_bad (T : Told) (P num den : Int) (sl : Value) (ao : Option Addr) (n cap : Nat) (hsl : sl = .slice ao n cap) (h : ¬ (1 ≤ P ∧ P ≤ 14 ∧ 1 ≤ den ∧ 0 ≤ num ∧ num ≤ den ∧ n ≠ 0)) (w : World) :
    Calls Try.prog 5 #[.agg #[.int .i64 P, sl, .int .i64 num, .int .i64 den]] w fun e w' => e = .returned (.bool true) ∧ Below w.heap.size w w' := by
  subst hsl
  have HF : Hid (∀ W, _) := T.fixed
  have hh : P < 1 ∨ 14 < P ∨ den < 1 ∨ num < 0 ∨ den < num ∨ (n : Int) = 0 := by omega
  go_enter Try.func5, Try.ntmps5
  go_wp2_with fail
  go_region
  go_wp2_with (go_at_call 8; with_reducible refine (HF.out _).mono ?_; rintro e w1 ⟨rfl, hb⟩)
  rotate_left
  · exfalso
    rename_i k _ _
    have k2 := beq_eq_false_iff_ne.1 k.2
    omega
  all_goals (go_ret; exact ⟨rfl, bt ((Below.refl w.heap.size w).alloc (Nat.le_refl _) _).drew hb⟩)
end Go.Proofs.Ythhoklgfgandpaa
