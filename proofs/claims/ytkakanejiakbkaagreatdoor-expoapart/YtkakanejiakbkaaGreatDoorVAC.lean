/- Utf, the document's: THE WALK; text. Own work of the verifier. -/
import Derived.Test.YtkakanejiakbkaaGreatDoorVAB
import Derived.Lib.Strings
import Derived.Sort.Walk0
namespace Go.Proofs.YtkakanejiakbkaaGreatDoor.La
open Go.RowKit

/-- How great what was read so far may be, by how many bytes were read. -/
def Low (k c : Nat) : Prop := (k = 1 → c < 32) ∧ (k = 2 → c < 2048) ∧ (k = 3 → c < 131072) ∧ (k = 4 → c < 8388608) ∧ c < 8388608
end Go.Proofs.YtkakanejiakbkaaGreatDoor.La
/- text, behind, order, the document's. Own work of the verifier. -/
namespace Go.Proofs.YtkakanejiakbkaaGreatDoor.La
open Go.RowKit

/-- What is wrong with a help or a value. -/
def txE (l : List UInt8) : Int := if 1024 < l.length then 4 else if utfB l then 0 else 11
/-- Bytewise less. -/
def bltB (a b : List UInt8) : Bool := decide (a < b)
theorem less_list (a b : List UInt8) : Op.bytesLess a b = bltB a b := by
  unfold bltB
  rw [Proofs.bytesLess_eq]
def bhE (a b : List UInt8) : Int := if a = b then 10 else if bltB b a then 15 else 0
def ordE (a b : List UInt8) : Int := if bltB a b then -1 else if bltB b a then 1 else 0
end Go.Proofs.YtkakanejiakbkaaGreatDoor.La
/- THE CODE'S Name AND LabelName. Own work of the verifier. -/
namespace Go.Proofs.YtkakanejiakbkaaGreatDoor.La
open Go.RowKit

theorem suf_any (l e : List UInt8) (hl : l.length ≤ 4611686018427387904) (w : World) :
    Calls Tryz.prog 53 #[.string ⟨l.toArray⟩, .string ⟨e.toArray⟩] w fun r w' => r = .returned (.bool (endsB l e)) ∧ w' = w := by
  have h := Tryz.strings_HasSuffix ⟨l.toArray⟩ ⟨e.toArray⟩ w (by show l.toArray.size ≤ _; rw [List.size_toArray]; omega)
  rw [← Lib.hasSuffix_of_drop] at h
  exact h
/-- Does a text begin so? -/
def preB (l p : List UInt8) : Bool := decide (p.length ≤ l.length) && (l.take p.length == p)
theorem pre_any (l p : List UInt8) (w : World) :
    Calls Tryz.prog 90 #[.string ⟨l.toArray⟩, .string ⟨p.toArray⟩] w fun r w' => r = .returned (.bool (preB l p)) ∧ w' = w := by
  have h := Tryz.strings_HasPrefix ⟨l.toArray⟩ ⟨p.toArray⟩ w
  rw [← Lib.hasPrefix_of_take] at h
  exact h
theorem cmp_ord : ∀ a b : List UInt8, Lib.compareBytes a b = ordE a b
  | [], [] => by rfl
  | [], b :: ys => by unfold ordE bltB; simp [Lib.compareBytes]
  | a :: xs, [] => by unfold ordE bltB; simp [Lib.compareBytes]
  | a :: xs, b :: ys => by
    rw [Lib.compareBytes]
    have ih := cmp_ord xs ys
    unfold ordE bltB at ih ⊢
    by_cases h1 : a < b
    · rw [if_pos h1, if_pos (decide_eq_true (List.cons_lt_cons_iff.2 (Or.inl h1)))]
    · rw [if_neg h1]
      by_cases h2 : b < a
      · rw [if_pos h2, if_neg, if_pos (decide_eq_true (List.cons_lt_cons_iff.2 (Or.inl h2)))]
        intro h
        rcases List.cons_lt_cons_iff.1 (of_decide_eq_true h) with k | ⟨k, _⟩
        · exact h1 k
        · exact h1 (by rw [k] at h2; exact absurd h2 (UInt8.lt_irrefl _))
      · rw [if_neg h2, ih]
        have e : a = b := UInt8.le_antisymm (UInt8.not_lt.1 h2) (UInt8.not_lt.1 h1)
        subst e
        simp
theorem cmp_any (a b : List UInt8) (w : World) :
    Calls Tryz.prog 100 #[.string ⟨a.toArray⟩, .string ⟨b.toArray⟩] w fun r w' => r = .returned (.int .i64 (ordE a b)) ∧ w' = w := by
  have h := Tryz.strings_Compare ⟨a.toArray⟩ ⟨b.toArray⟩ w
  rw [cmp_ord] at h
  exact h
set_option maxHeartbeats 1000000 in
theorem cname_any (l : List UInt8) (hl : l.length ≤ 4611686018427387904) (w : World) :
    Calls Tryz.prog 32 #[.string ⟨l.toArray⟩] w fun r w' => r = .returned (.bool (nameB l)) ∧ w' = w := by
  have H1 : Hid _ := fun W => suf_any l [95, 98, 117, 99, 107, 101, 116] hl W
  have H2 : Hid _ := fun W => suf_any l [95, 115, 117, 109] hl W
  have H3 : Hid _ := fun W => suf_any l [95, 99, 111, 117, 110, 116] hl W
  have HW : Hid _ := fun W => word_any l true hl W
  have hN : nameB l = (plainB true l && !(endsB l [95, 98, 117, 99, 107, 101, 116] || endsB l [95, 115, 117, 109] || endsB l [95, 99, 111, 117, 110, 116])) := by
    unfold nameB
    cases plainB true l <;> cases endsB l [95, 98, 117, 99, 107, 101, 116] <;> cases endsB l [95, 115, 117, 109] <;> cases endsB l [95, 99, 111, 117, 110, 116] <;> rfl
  rw [hN]
  clear hN
  unfold fv at HW
  generalize plainB true l = p at *
  generalize endsB l [95, 98, 117, 99, 107, 101, 116] = a at *
  generalize endsB l [95, 115, 117, 109] = b at *
  generalize endsB l [95, 99, 111, 117, 110, 116] = c at *
  cases p <;> cases a <;> cases b <;> cases c <;> as_aux_lemma =>
    go_enter Tryz.func32, Tryz.ntmps32
    go_wp2_with (first | (go_at_call 53; first | (with_reducible refine (H1.out _).mono ?_; rintro e1 w1 ⟨rfl, rfl⟩) | (with_reducible refine (H2.out _).mono ?_; rintro e1 w1 ⟨rfl, rfl⟩) | (with_reducible refine (H3.out _).mono ?_; rintro e1 w1 ⟨rfl, rfl⟩)) | (go_at_call 54; refine (HW.out _).mono ?_; rintro e1 w1 ⟨rfl, rfl⟩))
    go_ret
    exact ⟨rfl, rfl⟩
set_option maxHeartbeats 1000000 in
theorem clname_any (l : List UInt8) (hl : l.length ≤ 4611686018427387904) (w : World) :
    Calls Tryz.prog 57 #[.string ⟨l.toArray⟩] w fun r w' => r = .returned (.bool (lnameB l)) ∧ w' = w := by
  have H1 : Hid _ := fun W => pre_any l [95, 95] W
  have HW : Hid _ := fun W => word_any l false hl W
  have hN : lnameB l = (plainB false l && !((l == [108, 101]) || (l == [113, 117, 97, 110, 116, 105, 108, 101]) || preB l [95, 95])) := by
    unfold lnameB preB
    show _ = (plainB false l && !((l == [108, 101]) || (l == [113, 117, 97, 110, 116, 105, 108, 101]) || (decide (2 ≤ l.length) && (l.take 2 == [95, 95]))))
    cases plainB false l <;> cases (l == [108, 101]) <;> cases (l == [113, 117, 97, 110, 116, 105, 108, 101]) <;> cases (decide (2 ≤ l.length) && (l.take 2 == [95, 95])) <;> rfl
  rw [hN]
  clear hN
  unfold fv at HW
  generalize plainB false l = p at *
  generalize preB l [95, 95] = c at *
  cases h1 : (l == [108, 101]) <;> cases h2 : (l == [113, 117, 97, 110, 116, 105, 108, 101]) <;> cases p <;> cases c <;> as_aux_lemma =>
    go_enter Tryz.func57, Tryz.ntmps57
    go_wp2_with (first | (go_at_call 90; refine (H1.out _).mono ?_; rintro e1 w1 ⟨rfl, rfl⟩) | (go_at_call 54; refine (HW.out _).mono ?_; rintro e1 w1 ⟨rfl, rfl⟩))
    go_ret
    exact ⟨rfl, rfl⟩
end Go.Proofs.YtkakanejiakbkaaGreatDoor.La
