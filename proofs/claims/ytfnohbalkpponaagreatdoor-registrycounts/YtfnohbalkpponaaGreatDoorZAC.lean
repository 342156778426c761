/- THE PLAIN MATHEMATICS of a division of two words by one (no Go in sight). Own work of the verifier. -/
import Derived.WalkKit
import Derived.Lib.ItoaNum
import Derived.Laws.Bits64
import Derived.Laws.BitsAllLaws
import Derived.Test.YtfnohbalkpponaaGreatDoorRows
import Derived.WalkSpells
import Derived.RowKit3
import Derived.Below
import Derived.Outline
import Derived.Deep.QuietTactic
import Derived.BigQuiet
import Derived.Laws.ShiftsVarLaws
import Derived.Handy
import Derived.Test.YtfnohbalkpponaaGreatDoorZAB
namespace Go.Proofs.YtfnohbalkpponaaGreatDoor





end Go.Proofs.YtfnohbalkpponaaGreatDoor
/- THE PLAIN MATHEMATICS of numbers of 128 bits: no Go in sight. Own work of the verifier. -/
namespace Go.Proofs.YtfnohbalkpponaaGreatDoor

def val (h l : Int) : Int := h * 18446744073709551616 + l
def hiOf (n : Int) : Int := n / 18446744073709551616
def loOf (n : Int) : Int := n % 18446744073709551616
/-- A number brought round. -/
def rnd (n : Int) : Int := (n + 170141183460469231731687303715884105728) % 340282366920938463463374607431768211456 - 170141183460469231731687303715884105728

/-- The two words of a number. -/
structure Wf (h l : Int) : Prop where
  h0 : -9223372036854775808 ≤ h
  h1 : h ≤ 9223372036854775807
  l0 : 0 ≤ l
  l1 : l < 18446744073709551616
/-- A number of 128 bits. -/
structure InR (n : Int) : Prop where
  lo : -170141183460469231731687303715884105728 ≤ n
  hi : n < 170141183460469231731687303715884105728

theorem val_hl (n : Int) : val (hiOf n) (loOf n) = n := by unfold val hiOf loOf; omega
theorem inR_rnd (n : Int) : InR (rnd n) := by constructor <;> (unfold rnd; omega)
theorem wf_of {n : Int} (h : InR n) : Wf (hiOf n) (loOf n) := by obtain ⟨_, _⟩ := h; constructor <;> (simp only [hiOf, loOf]; omega)
theorem wf_rnd (n : Int) : Wf (hiOf (rnd n)) (loOf (rnd n)) := wf_of (inR_rnd n)
/-- Two numbers are the same if and only if their words are. -/
theorem val_inj {a b c d : Int} (h : Wf a b) (k : Wf c d) : val a b = val c d ↔ a = c ∧ b = d := by
  obtain ⟨_, _, _, _⟩ := h; obtain ⟨_, _, _, _⟩ := k; unfold val; constructor
  · intro e; constructor <;> omega
  · rintro ⟨rfl, rfl⟩; rfl
theorem val_lt {a b c d : Int} (h : Wf a b) (k : Wf c d) : val a b < val c d ↔ a < c ∨ a = c ∧ b < d := by
  obtain ⟨_, _, _, _⟩ := h; obtain ⟨_, _, _, _⟩ := k; unfold val; omega

/-- Which is less? -/
def cmp (a b : Int) : Int := if a < b then -1 else if a = b then 0 else 1
end Go.Proofs.YtfnohbalkpponaaGreatDoor
/- THE PLAIN MATHEMATICS of products and of a division bit by bit (no Go in sight). Own work of the verifier. -/
namespace Go.Proofs.YtfnohbalkpponaaGreatDoor


end Go.Proofs.YtfnohbalkpponaaGreatDoor
/- PRODUCTS AND QUOTIENTS, the document's, once more. Own work of the verifier. -/
namespace Go.Proofs.YtfnohbalkpponaaGreatDoor
open Go.RowKit

end Go.Proofs.YtfnohbalkpponaaGreatDoor
/- Rank, AtMost, Quantile, the document's. Own work of the verifier. -/
namespace Go.Proofs.YtfnohbalkpponaaGreatDoor
open Go.RowKit

end Go.Proofs.YtfnohbalkpponaaGreatDoor
/- exact and less: the law's own. Own work of the verifier. -/
namespace Go.Proofs.YtfnohbalkpponaaGreatDoor
open Go.RowKit

end Go.Proofs.YtfnohbalkpponaaGreatDoor
/- exact: the law's own. Own work of the verifier. -/
namespace Go.Proofs.YtfnohbalkpponaaGreatDoor
open Go.RowKit

end Go.Proofs.YtfnohbalkpponaaGreatDoor
