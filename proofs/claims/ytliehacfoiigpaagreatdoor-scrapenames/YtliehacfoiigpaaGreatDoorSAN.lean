/- COUNTED, the law's own. Own work of the verifier. -/
import Derived.Test.YtliehacfoiigpaaGreatDoorSAM
import Derived.Laws.OwnMore
namespace Go.Proofs.YtliehacfoiigpaaGreatDoor
open Go.RowKit

/-- Counts, value by value. -/
def ex (O : List Cn) : List Int := O.flatMap (fun c => List.replicate c.2 c.1)
end Go.Proofs.YtliehacfoiigpaaGreatDoor
/- THE WALK OF THE QUANTILES' LAW, for whatever keeps the document's answers. Own work of the verifier. -/
namespace Go.Proofs.YtliehacfoiigpaaGreatDoor
open Go.RowKit

/-- A row of counts behind an address. -/
def RowA (w : World) (a : Addr) (L : List Cn) : Prop := ∀ j u, (fl L)[j]? = some u → w.cell? (a.add j) = some u
theorem RowA.below {w w1 : World} {a : Addr} {L : List Cn} (h : RowA w a L) (hb : Below w.heap.size w w1) : RowA w1 a L := fun j u hu => (hb.cell (lt_of_cell (h j u hu))).trans (h j u hu)
theorem RowA.row {w : World} {a : Addr} {L : List Cn} (h : RowA w a L) (hne : L ≠ []) : ∃ b o, a = ⟨b, o, none⟩ ∧ RowC w b o L := by
  have h0 : 0 < L.length := List.length_pos_iff.2 hne
  obtain ⟨b, o, s⟩ := a
  have hs : s = none := by
    have := World.cell?_spot (h (0 * 2) _ (fl_get L 0 h0).1)
    simpa [Addr.add] using this
  subst hs
  refine ⟨b, o, rfl, fun i hi => ?_⟩
  obtain ⟨g1, g2⟩ := fl_get L i hi
  have r1 := h _ _ g1
  have r2 := h _ _ g2
  rw [Addr.add_lit] at r1 r2
  exact ⟨r1, by rw [← Nat.add_assoc] at r2; exact r2⟩
/-- A slice of counts, as it is handed in. -/
def SN (w : World) (v : Value) (L : List Cn) : Prop := (v = .slice none 0 0 ∧ L = []) ∨ ∃ a cap, v = .slice (some a) L.length cap ∧ L.length ≤ cap ∧ RowA w a L
theorem SN.sc2 {w : World} {v : Value} {L : List Cn} (h : SN w v L) : ∃ ao b o cap, v = .slice ao L.length cap ∧ (L ≠ [] → ao = some ⟨b, o, none⟩) ∧ RowC w b o L ∧ L.length ≤ cap := by
  rcases h with ⟨rfl, rfl⟩ | ⟨a, cap, rfl, hc, hr⟩
  · exact ⟨none, 0, 0, 0, rfl, fun k => absurd rfl k, (fun i hi => by simp at hi), Nat.zero_le _⟩
  · by_cases hne : L = []
    · subst hne
      exact ⟨some a, 0, 0, cap, rfl, fun k => absurd rfl k, (fun i hi => by simp at hi), hc⟩
    · obtain ⟨b, o, e, hr2⟩ := hr.row hne
      exact ⟨_, b, o, cap, rfl, fun _ => by rw [e], hr2, hc⟩
theorem SN.sc {w : World} {v : Value} {L : List Cn} (h : SN w v L) : SC w v L := by
  obtain ⟨ao, b, o, cap, h1, h2, h3, _⟩ := h.sc2
  exact ⟨ao, b, o, cap, h1, h2, h3⟩
theorem SN.below {w w1 : World} {v : Value} {L : List Cn} (h : SN w v L) (hb : Below w.heap.size w w1) : SN w1 v L := by
  rcases h with h | ⟨a, cap, h1, h2, hr⟩
  · exact Or.inl h
  · exact Or.inr ⟨a, cap, h1, h2, hr.below hb⟩
theorem GC.sn {B : Nat} {W0 w : World} {v : Value} {xs : List Cn} (h : GC B W0 v xs w) : SN w v xs := by
  rcases gc_form2 h with ⟨rfl, rfl⟩ | ⟨g, cap, rfl, hc⟩
  · exact Or.inl ⟨rfl, rfl⟩
  · obtain ⟨ao, b, o, c, hv, hao, hr⟩ := h.sc
    have hR : RowC w g 0 xs := fun i hi => by
      have hne : xs ≠ [] := fun e => by rw [e] at hi; simp at hi
      have := hao hne
      subst this
      cases hv
      exact hr i hi
    exact Or.inr ⟨⟨g, 0, none⟩, cap, rfl, hc, hR.cells⟩
end Go.Proofs.YtliehacfoiigpaaGreatDoor
