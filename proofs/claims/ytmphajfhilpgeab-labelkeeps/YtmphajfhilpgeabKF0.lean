/- LabelKeeps: the rest of its code behind a place. Own work of the verifier. -/
import Derived.Test.YtmphajfhilpgeabKE2
import Derived.Test.YtmphajfhilpgeabDA2
namespace Go.Proofs.Ytmphajfhilpgeab
open Go.RowKit
/-- The code behind its first n parts. -/
def sDrop : Nat → Code → Code
  | 0, c => c
  | n + 1, .seq _ b => sDrop n b
  | _ + 1, c => c
def sFirst : Code → Code
  | .seq a _ => a
  | c => c
def bodyC : Option Code → Code
  | some c => c
  | none => .skip
/-- Lists of labels of calls' own, held against each other. -/
theorem own_same {B B' : Nat} {v v' : Value} {L : List Lb} {W : World} (h : OwnL B v L W) (h' : OwnL B' v' L W) :
    Calls Try.prog 14 #[v, v'] W fun e w' => e = .returned (.bool true) ∧ Below W.heap.size W w' := by
  obtain ⟨ao, b, cap, rfl, h1, h2, h3, h4⟩ := h.open
  obtain ⟨ao', b', cap', rfl, k1, k2, _, _⟩ := h'.open
  refine (samel_any ao b 0 cap L h1 ao' b' 0 cap' L k1 (by omega) W h2 k2).mono ?_
  rintro e w' ⟨rfl, n, rfl⟩
  exact ⟨by simp, below_drewN W n⟩
end Go.Proofs.Ytmphajfhilpgeab
