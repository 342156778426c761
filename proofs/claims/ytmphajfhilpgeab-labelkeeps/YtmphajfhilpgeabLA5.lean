/- text, behind, order, the document's. Own work of the verifier. -/
import Derived.Test.YtmphajfhilpgeabLA4
import Derived.Lib.Strings
import Derived.Sort.Walk0
namespace Go.Proofs.Ytmphajfhilpgeab
open Go.RowKit

/-- What is wrong with a help or a value. -/
def txE (l : List UInt8) : Int := if 1024 < l.length then 4 else if utfB l then 0 else 11
set_option maxHeartbeats 1000000 in
theorem ltext_any (l : List UInt8) (hl : l.length ≤ 4611686018427387904) (w : World) :
    Calls Try.prog 34 #[.string ⟨l.toArray⟩] w fun r w' => r = .returned (.int .i64 (txE l)) ∧ w' = w := by
  have HU : Hid _ := fun W => utf_any l hl W
  unfold txE
  by_cases h : 1024 < l.length
  · have h' : (1024 : Int) < (l.length : Int) := by omega
    rw [if_pos h]
    as_aux_lemma =>
      go_enter Try.func34, Try.ntmps34
      go_wp2_with fail
      go_ret
      exact ⟨rfl, rfl⟩
  · have h' : ¬ (1024 : Int) < (l.length : Int) := by omega
    rw [if_neg h]
    generalize utfB l = u at *
    cases u
    · rw [if_neg (by decide)]
      as_aux_lemma =>
        go_enter Try.func34, Try.ntmps34
        go_wp2_with fail
        refine (HU.out _).mono ?_
        rintro e w1 ⟨rfl, rfl⟩
        go_wp2_with fail
        go_ret
        exact ⟨rfl, rfl⟩
    · rw [if_pos rfl]
      as_aux_lemma =>
        go_enter Try.func34, Try.ntmps34
        go_wp2_with fail
        refine (HU.out _).mono ?_
        rintro e w1 ⟨rfl, rfl⟩
        go_wp2_with fail
        go_ret
        exact ⟨rfl, rfl⟩
/-- Bytewise less. -/
def bltB (a b : List UInt8) : Bool := decide (a < b)
theorem less_list (a b : List UInt8) : Op.bytesLess a b = bltB a b := by
  unfold bltB
  rw [Proofs.bytesLess_eq]
def bhE (a b : List UInt8) : Int := if a = b then 10 else if bltB b a then 15 else 0
set_option maxHeartbeats 1000000 in
theorem behind_any (a b : List UInt8) (w : World) :
    Calls Try.prog 36 #[.string ⟨a.toArray⟩, .string ⟨b.toArray⟩] w fun r w' => r = .returned (.int .i64 (bhE a b)) ∧ w' = w := by
  have hL := less_list b a
  unfold bhE
  by_cases h : a = b
  · rw [if_pos h]
    subst h
    clear hL
    as_aux_lemma =>
      go_enter Try.func36, Try.ntmps36
      go_wp2_with fail
      go_ret
      exact ⟨rfl, rfl⟩
  · rw [if_neg h]
    have h' : (a == b) = false := by simpa using h
    clear h
    generalize bltB b a = u at *
    cases u
    · rw [if_neg (by decide)]
      as_aux_lemma =>
        go_enter Try.func36, Try.ntmps36
        go_wp2_with fail
        go_ret
        exact ⟨rfl, rfl⟩
    · rw [if_pos rfl]
      as_aux_lemma =>
        go_enter Try.func36, Try.ntmps36
        go_wp2_with fail
        go_ret
        exact ⟨rfl, rfl⟩
def ordE (a b : List UInt8) : Int := if bltB a b then -1 else if bltB b a then 1 else 0
end Go.Proofs.Ytmphajfhilpgeab
