/- LabelChecks: the walk. Own work of the verifier. -/
import Derived.Test.YtmphajfhilpgeabCC0
import Derived.Test.YtmphajfhilpgeabCC1
namespace Go.Proofs.Ytmphajfhilpgeab
open Go.RowKit

theorem ordE_flip (a b : List UInt8) : ordE b a = -ordE a b := by
  unfold ordE bltB
  by_cases h1 : a < b
  · have h2 : ¬ b < a := fun h => List.lt_irrefl _ (List.lt_trans h1 h)
    simp [h1, h2]
  · by_cases h2 : b < a
    · simp [h1, h2]
    · simp [h1, h2]
theorem ordL_flip : ∀ A B : List Lb, ordL B A = -ordL A B
  | [], [] => rfl
  | [], _ :: _ => rfl
  | _ :: _, [] => rfl
  | a :: A, b :: B => by
    rw [ordL, ordL, ordE_flip a.1 b.1, ordE_flip a.2 b.2, ordL_flip A B]
    by_cases h1 : ordE a.1 b.1 = 0
    · simp only [h1, Int.neg_zero, ne_eq, not_true_eq_false, if_false]
      by_cases h2 : ordE a.2 b.2 = 0
      · simp only [h2, Int.neg_zero, not_true_eq_false, if_false]
      · have h3 : ¬ -ordE a.2 b.2 = 0 := by omega
        simp only [h2, h3, not_false_eq_true, if_true]
    · have h3 : ¬ -ordE a.1 b.1 = 0 := by omega
      simp only [ne_eq, h1, h3, not_false_eq_true, if_true]
theorem ordD_flip (d e : Ds) : ordD e d = -ordD d e := by
  unfold ordD
  rw [ordE_flip d.name e.name, ordL_flip d.labels e.labels]
  by_cases h1 : ordE d.name e.name = 0
  · simp only [h1, Int.neg_zero, ne_eq, not_true_eq_false, if_false]
  · have h3 : ¬ -ordE d.name e.name = 0 := by omega
    simp only [ne_eq, h1, h3, not_false_eq_true, if_true]
theorem ordL_range : ∀ A B : List Lb, -1 ≤ ordL A B ∧ ordL A B ≤ 1
  | [], [] => by rw [ordL]; decide
  | [], _ :: _ => by rw [ordL]; decide
  | _ :: _, [] => by rw [ordL]; decide
  | a :: A, b :: B => by
    rw [ordL]
    have i1 := ordE_cases a.1 b.1
    have i2 := ordE_cases a.2 b.2
    have i3 := ordL_range A B
    split
    · omega
    · split
      · omega
      · exact i3
theorem ordD_range (d e : Ds) : -1 ≤ ordD d e ∧ ordD d e ≤ 1 := by
  unfold ordD
  have i1 := ordE_cases d.name e.name
  have i3 := ordL_range d.labels e.labels
  split
  · omega
  · exact i3
/-- The four cells of a description. -/
def C4 (W : World) (g : Nat) (v : Value) : Prop := ∃ c0 c1 c2 c3, v = .agg #[c0, c1, c2, c3] ∧ W.cell? ⟨g, 0, none⟩ = some c0 ∧ W.cell? ⟨g, 1, none⟩ = some c1 ∧ W.cell? ⟨g, 2, none⟩ = some c2 ∧ W.cell? ⟨g, 3, none⟩ = some c3
/-- What stays while LabelChecks goes on. -/
def Hld (p q : Nat) (w0 : World) (a0 a1 a2 a3 b0 b1 b2 b3 : Value) (W : World) : Prop := W.cell? ⟨p, 0, none⟩ = some a0 ∧ W.cell? ⟨p, 1, none⟩ = some a1 ∧ W.cell? ⟨p, 2, none⟩ = some a2 ∧ W.cell? ⟨p, 3, none⟩ = some a3 ∧ W.cell? ⟨q, 0, none⟩ = some b0 ∧ W.cell? ⟨q, 1, none⟩ = some b1 ∧ W.cell? ⟨q, 2, none⟩ = some b2 ∧ W.cell? ⟨q, 3, none⟩ = some b3 ∧ Below w0.heap.size w0 W
theorem Hld.b {p q : Nat} {w0 W : World} {a0 a1 a2 a3 b0 b1 b2 b3 : Value} (h : Hld p q w0 a0 a1 a2 a3 b0 b1 b2 b3 W) : Below w0.heap.size w0 W := h.2.2.2.2.2.2.2.2
theorem Hld.keep {p q : Nat} {w0 W W1 : World} {a0 a1 a2 a3 b0 b1 b2 b3 : Value} (hb : Below W.heap.size W W1) (h : Hld p q w0 a0 a1 a2 a3 b0 b1 b2 b3 W) : Hld p q w0 a0 a1 a2 a3 b0 b1 b2 b3 W1 := by
  obtain ⟨h0, h1, h2, h3, k0, k1, k2, k3, h4⟩ := h
  exact ⟨(hb.cell (lt_of_cell h0)).trans h0, (hb.cell (lt_of_cell h1)).trans h1, (hb.cell (lt_of_cell h2)).trans h2, (hb.cell (lt_of_cell h3)).trans h3, (hb.cell (lt_of_cell k0)).trans k0, (hb.cell (lt_of_cell k1)).trans k1, (hb.cell (lt_of_cell k2)).trans k2, (hb.cell (lt_of_cell k3)).trans k3, h4.trans (hb.mono h4.size)⟩
end Go.Proofs.Ytmphajfhilpgeab
