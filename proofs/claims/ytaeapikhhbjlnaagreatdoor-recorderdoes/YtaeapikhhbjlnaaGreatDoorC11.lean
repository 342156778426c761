/- Merge, the document's, where a list is none. Own work of the verifier. -/
import Derived.Test.YtaeapikhhbjlnaaGreatDoorC10
namespace Go.Proofs.YtaeapikhhbjlnaaGreatDoor
open Go.RowKit

theorem gc_form2 {B : Nat} {W0 w : World} {v : Value} {xs : List Cn} (h : GC B W0 v xs w) : (v = .slice none 0 0 ∧ xs = []) ∨ ∃ g cap, v = .slice (some ⟨g, 0, none⟩) xs.length cap ∧ xs.length ≤ cap := by
  rcases h.own.2 with ⟨k, k2⟩ | ⟨g, cap, cur, hv, _, _, hc, _⟩
  · exact Or.inl ⟨k, List.length_eq_zero_iff.1 k2⟩
  · exact Or.inr ⟨g, cap, hv, hc⟩
theorem gc_form {B : Nat} {W0 w : World} {v : Value} {xs : List Cn} (h : GC B W0 v xs w) : ∃ ao n cap, v = .slice ao n cap := by
  obtain ⟨ao, b, o, cap, h1, _⟩ := h.sc
  exact ⟨ao, _, cap, h1⟩
end Go.Proofs.YtaeapikhhbjlnaaGreatDoor
