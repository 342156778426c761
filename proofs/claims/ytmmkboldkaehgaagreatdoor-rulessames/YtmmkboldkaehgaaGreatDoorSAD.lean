/- RIGHT UTF-8, the document's: tail, Utf, text. Own work of the verifier. -/
import Derived.Test.YtmmkboldkaehgaaGreatDoorSAB
import Derived.Lib.Strings
import Derived.Sort.Walk0
import Derived.Test.YtmmkboldkaehgaaGreatDoorSAC
import Derived.Lib.DecodeN
import Derived.Lib.OthersKept
import Derived.Laws.RangeAny
import Derived.Maps.AppendAt
import Derived.Deep.AppendLies
import Derived.Laws.IdiomStrings
import Derived.OwnWalk
namespace Go.Proofs.YtmmkboldkaehgaaGreatDoor.La
open Go.RowKit

/-- A byte 80 to bf. -/
def tlB (b : Nat) : Bool := decide (128 ≤ b) && decide (b < 192)
def tlAt (l : List UInt8) (k : Nat) : Bool := decide (k < l.length) && tlB (l.getD k 0).toNat
theorem get_at (l : List UInt8) (k : Nat) (h : k < l.length) : (l.getD k 0) = l[k] := by
  rw [List.getD_eq_getElem?_getD, List.getElem?_eq_getElem h]; rfl
/-- n bytes behind the first one of a sign, c being what was read so far. -/
def cont : Nat → Nat → List UInt8 → Option Nat
  | 0, c, _ => some c
  | _ + 1, _, [] => none
  | n + 1, c, b :: r => if tlB b.toNat then cont n (64 * c + b.toNat - 128) r else none
/-- How many bytes follow the first one, and what it tells. -/
def lead (b : Nat) : Option (Nat × Nat) := if 192 ≤ b ∧ b < 224 then some (1, b - 192) else if 224 ≤ b ∧ b < 240 then some (2, b - 224) else if 240 ≤ b ∧ b < 248 then some (3, b - 240) else none
def fine (n c : Nat) : Bool := decide (¬ (n = 1 ∧ c < 128 ∨ n = 2 ∧ c < 2048 ∨ n = 3 ∧ c < 65536 ∨ 1114111 < c ∨ 55296 ≤ c ∧ c ≤ 57343))
/-- Right UTF-8. -/
def utfB : List UInt8 → Bool
  | [] => true
  | b :: r => if b.toNat < 128 then utfB r else
    match lead b.toNat with
    | none => false
    | some (n, c0) => match cont n c0 r with
      | none => false
      | some c => fine n c && utfB (r.drop n)
termination_by l => l.length
decreasing_by
  · simp
  · simp; omega
theorem cont_step (l : List UInt8) (k m c : Nat) : cont (m + 1) c (l.drop k) = if tlAt l k then cont m (64 * c + (l.getD k 0).toNat - 128) (l.drop (k + 1)) else none := by
  unfold tlAt
  rcases Nat.lt_or_ge k l.length with g | g
  · rw [List.drop_eq_getElem_cons g, cont, decide_eq_true g, get_at l k g]
    rfl
  · rw [List.drop_eq_nil_of_le g, cont, decide_eq_false (by omega)]
    rfl
theorem utf_low (l : List UInt8) (i : Nat) (h : i < l.length) (hb : l[i].toNat < 128) : utfB (l.drop i) = utfB (l.drop (i + 1)) := by
  rw [List.drop_eq_getElem_cons h, utfB, if_pos hb]
theorem utf_lead (l : List UInt8) (i n c0 : Nat) (h : i < l.length) (hb : ¬ l[i].toNat < 128) (hl : lead l[i].toNat = some (n, c0)) :
    utfB (l.drop i) = match cont n c0 (l.drop (i + 1)) with
      | none => false
      | some c => fine n c && utfB (l.drop (i + (n + 1))) := by
  rw [List.drop_eq_getElem_cons h, utfB, if_neg hb, hl]
  simp only
  cases cont n c0 (l.drop (i + 1)) with
  | none => rfl
  | some c =>
    simp only
    rw [List.drop_drop, show i + 1 + n = i + (n + 1) from by omega]
theorem utf_none (l : List UInt8) (i : Nat) (h : i < l.length) (hb : ¬ l[i].toNat < 128) (hl : lead l[i].toNat = none) : utfB (l.drop i) = false := by
  rw [List.drop_eq_getElem_cons h, utfB, if_neg hb, hl]
end Go.Proofs.YtmmkboldkaehgaaGreatDoor.La
/- text, behind, order, the document's. Own work of the verifier. -/
namespace Go.Proofs.YtmmkboldkaehgaaGreatDoor.La
open Go.RowKit

/-- What is wrong with a help or a value. -/
def txE (l : List UInt8) : Int := if 1024 < l.length then 4 else if utfB l then 0 else 11
/-- Bytewise less. -/
def bltB (a b : List UInt8) : Bool := decide (a < b)
theorem less_list (a b : List UInt8) : Op.bytesLess a b = bltB a b := by
  unfold bltB
  rw [Proofs.bytesLess_eq]
def bhE (a b : List UInt8) : Int := if a = b then 10 else if bltB b a then 15 else 0
end Go.Proofs.YtmmkboldkaehgaaGreatDoor.La
/- THE CODE'S Name AND LabelName. Own work of the verifier. -/
namespace Go.Proofs.YtmmkboldkaehgaaGreatDoor.La
open Go.RowKit

theorem suf_any (l e : List UInt8) (hl : l.length ≤ 4611686018427387904) (w : World) :
    Calls Tryz.prog 128 #[.string ⟨l.toArray⟩, .string ⟨e.toArray⟩] w fun r w' => r = .returned (.bool (endsB l e)) ∧ w' = w := by
  have h := Tryz.strings_HasSuffix ⟨l.toArray⟩ ⟨e.toArray⟩ w (by show l.toArray.size ≤ _; rw [List.size_toArray]; omega)
  rw [← Lib.hasSuffix_of_drop] at h
  exact h
/-- Does a text begin so? -/
def preB (l p : List UInt8) : Bool := decide (p.length ≤ l.length) && (l.take p.length == p)
theorem pre_any (l p : List UInt8) (w : World) :
    Calls Tryz.prog 80 #[.string ⟨l.toArray⟩, .string ⟨p.toArray⟩] w fun r w' => r = .returned (.bool (preB l p)) ∧ w' = w := by
  have h := Tryz.strings_HasPrefix ⟨l.toArray⟩ ⟨p.toArray⟩ w
  rw [← Lib.hasPrefix_of_take] at h
  exact h
set_option maxHeartbeats 1000000 in
theorem cname_any (l : List UInt8) (hl : l.length ≤ 4611686018427387904) (w : World) :
    Calls Tryz.prog 96 #[.string ⟨l.toArray⟩] w fun r w' => r = .returned (.bool (nameB l)) ∧ w' = w := by
  have H1 : Hid _ := fun W => suf_any l [95, 98, 117, 99, 107, 101, 116] hl W
  have H2 : Hid _ := fun W => suf_any l [95, 115, 117, 109] hl W
  have H3 : Hid _ := fun W => suf_any l [95, 99, 111, 117, 110, 116] hl W
  have HW : Hid _ := fun W => word_any l true hl W
  have hN : nameB l = (plainB true l && !(endsB l [95, 98, 117, 99, 107, 101, 116] || endsB l [95, 115, 117, 109] || endsB l [95, 99, 111, 117, 110, 116])) := by
    unfold nameB
    cases plainB true l <;> cases endsB l [95, 98, 117, 99, 107, 101, 116] <;> cases endsB l [95, 115, 117, 109] <;> cases endsB l [95, 99, 111, 117, 110, 116] <;> rfl
  rw [hN]
  clear hN
  unfold fv at HW
  generalize plainB true l = p at *
  generalize endsB l [95, 98, 117, 99, 107, 101, 116] = a at *
  generalize endsB l [95, 115, 117, 109] = b at *
  generalize endsB l [95, 99, 111, 117, 110, 116] = c at *
  cases p <;> cases a <;> cases b <;> cases c <;> as_aux_lemma =>
    go_enter Tryz.func96, Tryz.ntmps96
    go_wp2_with (first | (go_at_call 128; first | (with_reducible refine (H1.out _).mono ?_; rintro e1 w1 ⟨rfl, rfl⟩) | (with_reducible refine (H2.out _).mono ?_; rintro e1 w1 ⟨rfl, rfl⟩) | (with_reducible refine (H3.out _).mono ?_; rintro e1 w1 ⟨rfl, rfl⟩)) | (go_at_call 129; refine (HW.out _).mono ?_; rintro e1 w1 ⟨rfl, rfl⟩))
    go_ret
    exact ⟨rfl, rfl⟩
set_option maxHeartbeats 1000000 in
theorem clname_any (l : List UInt8) (hl : l.length ≤ 4611686018427387904) (w : World) :
    Calls Tryz.prog 132 #[.string ⟨l.toArray⟩] w fun r w' => r = .returned (.bool (lnameB l)) ∧ w' = w := by
  have H1 : Hid _ := fun W => pre_any l [95, 95] W
  have HW : Hid _ := fun W => word_any l false hl W
  have hN : lnameB l = (plainB false l && !((l == [108, 101]) || (l == [113, 117, 97, 110, 116, 105, 108, 101]) || preB l [95, 95])) := by
    unfold lnameB preB
    show _ = (plainB false l && !((l == [108, 101]) || (l == [113, 117, 97, 110, 116, 105, 108, 101]) || (decide (2 ≤ l.length) && (l.take 2 == [95, 95]))))
    cases plainB false l <;> cases (l == [108, 101]) <;> cases (l == [113, 117, 97, 110, 116, 105, 108, 101]) <;> cases (decide (2 ≤ l.length) && (l.take 2 == [95, 95])) <;> rfl
  rw [hN]
  clear hN
  unfold fv at HW
  generalize plainB false l = p at *
  generalize preB l [95, 95] = c at *
  cases h1 : (l == [108, 101]) <;> cases h2 : (l == [113, 117, 97, 110, 116, 105, 108, 101]) <;> cases p <;> cases c <;> as_aux_lemma =>
    go_enter Tryz.func132, Tryz.ntmps132
    go_wp2_with (first | (go_at_call 80; refine (H1.out _).mono ?_; rintro e1 w1 ⟨rfl, rfl⟩) | (go_at_call 129; refine (HW.out _).mono ?_; rintro e1 w1 ⟨rfl, rfl⟩))
    go_ret
    exact ⟨rfl, rfl⟩
end Go.Proofs.YtmmkboldkaehgaaGreatDoor.La
/- RIGHT UTF-8, as the language's own range over a text tells it. Own work of the verifier. -/
namespace Go.Proofs.YtmmkboldkaehgaaGreatDoor.La
open Go.RowKit

theorem get_bang (l : List UInt8) (k : Nat) : (ByteArray.mk l.toArray).get! k = l.getD k 0 := by
  show l.toArray.get!Internal k = _
  rw [List.getD_eq_getElem?_getD]
  simp [Array.get!Internal]
  rfl
theorem tl_iff (l : List UInt8) (k : Nat) : tlAt l k = decide (k < l.length ∧ (l.getD k 0).toNat / 64 = 2) := by
  unfold tlAt tlB
  have := (l.getD k 0).toNat_lt
  rw [Bool.eq_iff_iff]
  simp only [Bool.and_eq_true, decide_eq_true_eq]
  omega
/-- What a byte that is no letter's first one is told as. -/
def badAt (l : List UInt8) (i r : Nat) : Prop := r = 65533 ∧ ¬ (3 ≤ l.length - i ∧ (l.getD i 0).toNat = 239 ∧ (l.getD (i + 1) 0).toNat = 191 ∧ (l.getD (i + 2) 0).toNat = 189)
theorem fine_true {n c : Nat} (h : ¬ (n = 1 ∧ c < 128 ∨ n = 2 ∧ c < 2048 ∨ n = 3 ∧ c < 65536 ∨ 1114111 < c ∨ 55296 ≤ c ∧ c ≤ 57343)) : fine n c = true := decide_eq_true h
theorem fine_false {n c : Nat} (h : n = 1 ∧ c < 128 ∨ n = 2 ∧ c < 2048 ∨ n = 3 ∧ c < 65536 ∨ 1114111 < c ∨ 55296 ≤ c ∧ c ≤ 57343) : fine n c = false := decide_eq_false (fun k => k h)
set_option maxHeartbeats 4000000 in
theorem utf_step (l : List UInt8) (i r n : Nat) (h : i < l.length) (hd : Utf8.decode ⟨l.toArray⟩ i = (r, n)) :
    1 ≤ n ∧ i + n ≤ l.length ∧ r ≤ 1114111 ∧ (badAt l i r ∧ utfB (l.drop i) = false ∨ ¬ badAt l i r ∧ utfB (l.drop i) = utfB (l.drop (i + n))) := by
  rw [Lib.decode_at, get_bang, get_bang, get_bang, get_bang] at hd
  have e0 : l.getD i 0 = l[i] := get_at l i h
  have hsz : (ByteArray.mk l.toArray).size = l.length := by show l.toArray.size = _; simp
  rw [hsz] at hd
  have q0 := (l.getD i 0).toNat_lt
  have q1 := (l.getD (i + 1) 0).toNat_lt
  have q2 := (l.getD (i + 2) 0).toNat_lt
  have q3 := (l.getD (i + 3) 0).toNat_lt
  have t1 := tl_iff l (i + 1)
  have t2 := tl_iff l (i + 2)
  have t3 := tl_iff l (i + 3)
  have c1 := cont_step l (i + 1)
  have c2 := cont_step l (i + 2)
  have c3 := cont_step l (i + 3)
  unfold badAt
  have u0 := utf_low l i h
  have u1 := fun n c0 => utf_lead l i n c0 h
  have u2 := utf_none l i h
  rw [← e0] at u0 u1 u2
  clear e0
  generalize (l.getD i 0).toNat = b0 at *
  generalize (l.getD (i + 1) 0).toNat = b1 at *
  generalize (l.getD (i + 2) 0).toNat = b2 at *
  generalize (l.getD (i + 3) 0).toNat = b3 at *
  have bad : ∀ m, (65533, 1) = (r, n) → utfB (l.drop i) = false → ¬ (3 ≤ l.length - i ∧ b0 = 239 ∧ b1 = 191 ∧ b2 = 189) → 1 ≤ n ∧ i + n ≤ l.length ∧ r ≤ 1114111 ∧ ((r = 65533 ∧ ¬ (3 ≤ l.length - i ∧ b0 = 239 ∧ b1 = 191 ∧ b2 = 189)) ∧ utfB (l.drop i) = false ∨ ¬ (r = 65533 ∧ ¬ (3 ≤ l.length - i ∧ b0 = 239 ∧ b1 = 191 ∧ b2 = 189)) ∧ utfB (l.drop i) = m) := by
    intro m e1 e2 e3
    obtain ⟨rfl, rfl⟩ := Prod.mk.inj e1
    exact ⟨Nat.le_refl _, by omega, by omega, Or.inl ⟨⟨rfl, e3⟩, e2⟩⟩
  by_cases g1 : b0 < 128
  · rw [Lib.decodeN, if_pos g1] at hd
    obtain ⟨rfl, rfl⟩ := Prod.mk.inj hd
    exact ⟨Nat.le_refl _, by omega, by omega, Or.inr ⟨by omega, u0 g1⟩⟩
  by_cases g2 : b0 < 192
  · rw [Lib.decodeN, if_neg g1, if_neg (by omega), if_neg (by omega), if_neg (by omega)] at hd
    refine bad _ hd (u2 g1 ?_) (by omega)
    unfold lead
    rw [if_neg (by omega), if_neg (by omega), if_neg (by omega)]
  by_cases g3 : b0 < 224
  · have u := u1 1 (b0 - 192) g1 (by unfold lead; rw [if_pos (by omega)])
    rw [c1 0, t1] at u
    by_cases k1 : i + 1 < l.length ∧ b1 / 64 = 2
    · rw [decide_eq_true k1, if_pos rfl] at u
      simp only [cont] at u
      rw [Lib.decodeN, if_neg g1, if_pos (by omega)] at hd
      by_cases k2 : b0 % 32 * 64 + b1 % 64 ≥ 128
      · rw [if_pos k2] at hd
        obtain ⟨rfl, rfl⟩ := Prod.mk.inj hd
        rw [fine_true (by omega), Bool.true_and] at u
        exact ⟨by omega, by omega, by omega, Or.inr ⟨by omega, u⟩⟩
      · rw [if_neg k2] at hd
        rw [fine_false (by omega), Bool.false_and] at u
        exact bad _ hd u (by omega)
    · rw [decide_eq_false k1, if_neg (by decide)] at u
      rw [Lib.decodeN, if_neg g1, if_neg (by omega), if_neg (by omega), if_neg (by omega)] at hd
      exact bad _ hd u (by omega)
  by_cases g4 : b0 < 240
  · have u := u1 2 (b0 - 224) g1 (by unfold lead; rw [if_neg (by omega), if_pos (by omega)])
    rw [c1 1, t1] at u
    by_cases k1 : i + 1 < l.length ∧ b1 / 64 = 2
    · rw [decide_eq_true k1, if_pos rfl, c2 0, t2] at u
      by_cases k2 : i + 2 < l.length ∧ b2 / 64 = 2
      · rw [decide_eq_true k2, if_pos rfl] at u
        simp only [cont] at u
        rw [Lib.decodeN, if_neg g1, if_neg (by omega), if_pos (by omega)] at hd
        by_cases k3 : b0 % 16 * 4096 + b1 % 64 * 64 + b2 % 64 ≥ 2048 ∧ (b0 % 16 * 4096 + b1 % 64 * 64 + b2 % 64 < 55296 ∨ (57344 ≤ b0 % 16 * 4096 + b1 % 64 * 64 + b2 % 64 ∧ b0 % 16 * 4096 + b1 % 64 * 64 + b2 % 64 ≤ 1114111))
        · rw [if_pos k3] at hd
          obtain ⟨rfl, rfl⟩ := Prod.mk.inj hd
          rw [fine_true (by omega), Bool.true_and] at u
          exact ⟨by omega, by omega, by omega, Or.inr ⟨by omega, u⟩⟩
        · rw [if_neg k3] at hd
          rw [fine_false (by omega), Bool.false_and] at u
          exact bad _ hd u (by omega)
      · rw [decide_eq_false k2, if_neg (by decide)] at u
        rw [Lib.decodeN, if_neg g1, if_neg (by omega), if_neg (by omega), if_neg (by omega)] at hd
        exact bad _ hd u (by omega)
    · rw [decide_eq_false k1, if_neg (by decide)] at u
      rw [Lib.decodeN, if_neg g1, if_neg (by omega), if_neg (by omega), if_neg (by omega)] at hd
      exact bad _ hd u (by omega)
  by_cases g5 : b0 < 248
  · have u := u1 3 (b0 - 240) g1 (by unfold lead; rw [if_neg (by omega), if_neg (by omega), if_pos (by omega)])
    rw [c1 2, t1] at u
    by_cases k1 : i + 1 < l.length ∧ b1 / 64 = 2
    · rw [decide_eq_true k1, if_pos rfl, c2 1, t2] at u
      by_cases k2 : i + 2 < l.length ∧ b2 / 64 = 2
      · rw [decide_eq_true k2, if_pos rfl, c3 0, t3] at u
        by_cases k3 : i + 3 < l.length ∧ b3 / 64 = 2
        · rw [decide_eq_true k3, if_pos rfl] at u
          simp only [cont] at u
          rw [Lib.decodeN, if_neg g1, if_neg (by omega), if_neg (by omega), if_pos (by omega)] at hd
          by_cases k4 : b0 % 8 * 262144 + b1 % 64 * 4096 + b2 % 64 * 64 + b3 % 64 ≥ 65536 ∧ (b0 % 8 * 262144 + b1 % 64 * 4096 + b2 % 64 * 64 + b3 % 64 < 55296 ∨ (57344 ≤ b0 % 8 * 262144 + b1 % 64 * 4096 + b2 % 64 * 64 + b3 % 64 ∧ b0 % 8 * 262144 + b1 % 64 * 4096 + b2 % 64 * 64 + b3 % 64 ≤ 1114111))
          · rw [if_pos k4] at hd
            obtain ⟨rfl, rfl⟩ := Prod.mk.inj hd
            rw [fine_true (by omega), Bool.true_and] at u
            exact ⟨by omega, by omega, by omega, Or.inr ⟨by omega, u⟩⟩
          · rw [if_neg k4] at hd
            rw [fine_false (by omega), Bool.false_and] at u
            exact bad _ hd u (by omega)
        · rw [decide_eq_false k3, if_neg (by decide)] at u
          rw [Lib.decodeN, if_neg g1, if_neg (by omega), if_neg (by omega), if_neg (by omega)] at hd
          exact bad _ hd u (by omega)
      · rw [decide_eq_false k2, if_neg (by decide)] at u
        rw [Lib.decodeN, if_neg g1, if_neg (by omega), if_neg (by omega), if_neg (by omega)] at hd
        exact bad _ hd u (by omega)
    · rw [decide_eq_false k1, if_neg (by decide)] at u
      rw [Lib.decodeN, if_neg g1, if_neg (by omega), if_neg (by omega), if_neg (by omega)] at hd
      exact bad _ hd u (by omega)
  · rw [Lib.decodeN, if_neg g1, if_neg (by omega), if_neg (by omega), if_neg (by omega)] at hd
    refine bad _ hd (u2 g1 ?_) (by omega)
    unfold lead
    rw [if_neg (by omega), if_neg (by omega), if_neg (by omega)]
theorem pre_three (l : List UInt8) (i : Nat) (_h : i < l.length) : preB (l.drop i) [239, 191, 189] = decide (3 ≤ l.length - i ∧ (l.getD i 0).toNat = 239 ∧ (l.getD (i + 1) 0).toNat = 191 ∧ (l.getD (i + 2) 0).toNat = 189) := by
  unfold preB
  rw [List.length_drop]
  show (decide (3 ≤ l.length - i) && ((l.drop i).take 3 == [239, 191, 189])) = _
  by_cases h3 : 3 ≤ l.length - i
  · have g0 : i < l.length := by omega
    have g1 : i + 1 < l.length := by omega
    have g2 : i + 1 + 1 < l.length := by omega
    rw [List.drop_eq_getElem_cons g0, List.drop_eq_getElem_cons g1, List.drop_eq_getElem_cons g2, get_at l i g0, get_at l (i + 1) g1, get_at l (i + 2) g2]
    simp only [List.take_succ_cons, List.take_zero]
    rw [Bool.eq_iff_iff]
    simp only [Bool.and_eq_true, decide_eq_true_eq, beq_iff_eq, List.cons.injEq, and_true]
    have n1 : ∀ (x y : UInt8), x = y ↔ x.toNat = y.toNat := fun x y => ⟨fun e => by rw [e], fun e => UInt8.toNat_inj.1 e⟩
    rw [n1 l[i] 239, n1 l[i + 1] 191, n1 l[i + 1 + 1] 189]
    exact Iff.rfl
  · rw [decide_eq_false h3, decide_eq_false (by omega)]
    rfl
end Go.Proofs.YtmmkboldkaehgaaGreatDoor.La
/- TEXTS THAT GROW; Help and Unhelp, the document's. Own work of the verifier. -/
namespace Go.Proofs.YtmmkboldkaehgaaGreatDoor.La
open Go.RowKit

theorem bel1 (w : World) (o1 : Obj) : Below w.heap.size w (w.alloc o1) := (Below.refl _ _).alloc (Nat.le_refl _) _
end Go.Proofs.YtmmkboldkaehgaaGreatDoor.La
/- escaped, Help, Unhelp, the document's. Own work of the verifier. -/
namespace Go.Proofs.YtmmkboldkaehgaaGreatDoor.La
open Go.RowKit

theorem cell_two_new (w : World) (x y : Value) (t : TypeId) : ∀ j u, [x, y][j]? = some u → (w.alloc (.cells #[x, y] t)).cell? ((⟨w.heap.size, 0, none⟩ : Addr).add j) = some u := by
  intro j u hj
  match j, hj with
  | 0, hj => simp at hj; subst hj; simp [go_sem]
  | 1, hj => simp at hj; subst hj; simp [go_sem]
  | k + 2, hj => simp at hj
/-- A text in which some bytes are written by two. -/
def esc1 (q : Bool) (b : UInt8) : List UInt8 := if b.toNat = 92 ∨ q = true ∧ b.toNat = 34 then [92, b] else if b.toNat = 10 then [92, 110] else [b]
def escL (q : Bool) : List UInt8 → List UInt8
  | [] => []
  | b :: r => esc1 q b ++ escL q r
theorem escL_drop (q : Bool) (l : List UInt8) (i : Nat) (h : i < l.length) : escL q (l.drop i) = esc1 q l[i] ++ escL q (l.drop (i + 1)) := by
  rw [List.drop_eq_getElem_cons h, escL]
end Go.Proofs.YtmmkboldkaehgaaGreatDoor.La
/- LISTS OF LABELS in memory; SameLabels, the document's. Own work of the verifier. -/
namespace Go.Proofs.YtmmkboldkaehgaaGreatDoor.La
open Go.RowKit

abbrev Lb : Type := List UInt8 × List UInt8
theorem lt_of_cell {w : World} {a : Addr} {v : Value} (h : w.cell? a = some v) : a.block < w.heap.size := by
  unfold World.cell? at h
  split at h
  · rename_i h1
    rcases Nat.lt_or_ge a.block w.heap.size with k | k
    · exact k
    · rw [Array.getElem?_eq_none k] at h1; cases h1
  · cases h
/-- Labels, one behind the other. -/
def RowL (W : World) (b o : Nat) (L : List Lb) : Prop := ∀ i (h : i < L.length), W.cell? ⟨b, o + i * 2, none⟩ = some (.string ⟨L[i].1.toArray⟩) ∧ W.cell? ⟨b, o + i * 2 + 1, none⟩ = some (.string ⟨L[i].2.toArray⟩)
theorem RowL.below {W W1 : World} {b o : Nat} {L : List Lb} (h : RowL W b o L) (hb : Below W.heap.size W W1) : RowL W1 b o L := fun i hi => by
  obtain ⟨h1, h2⟩ := h i hi
  rw [hb.cell (p := ⟨b, o + i * 2, none⟩) (lt_of_cell h1), hb.cell (p := ⟨b, o + i * 2 + 1, none⟩) (lt_of_cell h2)]
  exact ⟨h1, h2⟩
theorem below_drewN (w : World) (n : Nat) : Below w.heap.size w (w.drewN n) := by
  induction n with
  | zero => exact Below.refl _ _
  | succ n ih => exact ⟨ih.os, ih.tape, ih.output, ih.size, ih.block⟩
theorem RowL.drew {W : World} {b o : Nat} {L : List Lb} (h : RowL W b o L) (n : Nat) : RowL (W.drewN n) b o L := h.below (below_drewN W n)
theorem retB {A B : Bool} (h : A = B) : Ending.returned (Value.bool A) = .returned (.bool B) := by rw [h]
theorem retI {k : IntKind} {A B : Int} (h : A = B) : Ending.returned (Value.int k A) = .returned (.int k B) := by rw [h]
set_option maxHeartbeats 2000000 in
set_option maxRecDepth 100000 in
theorem samel_any (ao : Option Addr) (b o cap : Nat) (A : List Lb) (hao : A ≠ [] → ao = some ⟨b, o, none⟩) (ao' : Option Addr) (b' o' cap' : Nat) (C : List Lb) (hao' : C ≠ [] → ao' = some ⟨b', o', none⟩) (hl : A.length ≤ 9223372036854775807) (w : World) (hA : RowL w b o A) (hC : RowL w b' o' C) :
    Calls Tryz.prog 19 #[.slice ao A.length cap, .slice ao' C.length cap'] w fun e w' => e = .returned (.bool (decide (A = C))) ∧ ∃ n, w' = w.drewN n := by
  by_cases hlen : A.length = C.length
  · have ht : ((A.length : Int) != (C.length : Int)) = false := by rw [bne_eq_false_iff_eq]; omega
    have HL : Hid _ := hlen
    have HA : Hid _ := hA
    have HC : Hid _ := hC
    clear hlen hA hC
    go_enter Tryz.func19, Tryz.ntmps19
    go_wp2_with fail
    go_loopw [5] (fun c wr => ∃ i n : Nat, i ≤ A.length ∧ c = .int .i64 (i : Int) ∧ wr = w.drewN n ∧ Hid (A.take i = C.take i)) (fun c _ => A.length - (intOf c).toNat)
    case atStart => exact ⟨0, 0, by omega, rfl, rfl, by simp [Hid]⟩
    case round =>
      obtain ⟨i, n, hi, rfl, rfl, hE⟩ := hrel
      by_cases hlt : i < A.length
      · have hlt2 : i < C.length := by have := HL.out; omega
        obtain rfl := hao (by intro e; rw [e] at hlt; simp at hlt)
        obtain rfl := hao' (by intro e; rw [e] at hlt2; simp at hlt2)
        have hlt' : (i : Int) < (A.length : Int) := by omega
        have hlt2' : (i : Int) < (C.length : Int) := by omega
        obtain ⟨q1, q2⟩ := HA.out i hlt
        obtain ⟨q3, q4⟩ := HC.out i hlt2
        have HT1 : Hid (A.take (i + 1) = A.take i ++ [A[i]]) := List.take_succ_eq_append_getElem hlt
        have HT2 : Hid (C.take (i + 1) = C.take i ++ [C[i]]) := List.take_succ_eq_append_getElem hlt2
        have HN : Hid (A[i] ≠ C[i] → A ≠ C) := fun h e => h (by subst e; rfl)
        obtain ⟨x, y, hxy⟩ : ∃ x y, A[i] = (x, y) := ⟨_, _, rfl⟩
        obtain ⟨u, v, huv⟩ : ∃ u v, C[i] = (u, v) := ⟨_, _, rfl⟩
        rw [hxy] at q1 q2 HT1 HN
        rw [huv] at q3 q4 HT2 HN
        clear hxy huv
        by_cases he : x = u ∧ y = v
        · obtain ⟨rfl, rfl⟩ := he
          clear HN
          as_aux_lemma =>
            go_wp2_with fail
            go_region
            go_wp2_with fail
            exact ⟨⟨i + 1, n + 1, by omega, by go_num, rfl, by unfold Hid; rw [HT1.out, HT2.out, hE.out]⟩, by simp [intOf]; omega⟩
        · have hne : decide (A = C) = false := decide_eq_false (HN.out (fun e => he ⟨(Prod.mk.inj e).1, (Prod.mk.inj e).2⟩))
          have HNE : Hid _ := hne
          have hor : (x == u) = false ∨ (x = u ∧ (y == v) = false) := by
            by_cases h1 : x = u
            · right
              exact ⟨h1, by simpa using fun h2 => he ⟨h1, h2⟩⟩
            · left
              simpa using h1
          clear he hne HN HT1 HT2 hE
          rcases hor with h1 | ⟨rfl, h1⟩
          · as_aux_lemma =>
              go_wp2_with fail
              go_region
              go_wp2_with fail
              go_ret
              exact ⟨retB HNE.out.symm, n + 1, rfl⟩
          · as_aux_lemma =>
              go_wp2_with fail
              go_region
              go_wp2_with fail
              go_ret
              exact ⟨retB HNE.out.symm, n + 1, rfl⟩
      · obtain rfl : i = A.length := by omega
        have hlt' : ¬ (A.length : Int) < (A.length : Int) := by omega
        have he : decide (A = C) = true := by
          have := hE.out
          rw [List.take_length, HL.out, List.take_length] at this
          exact decide_eq_true this
        have HE : Hid _ := he
        clear he
        as_aux_lemma =>
          go_wp2_with fail
          go_ret
          exact ⟨retB HE.out.symm, n, rfl⟩
  · have ht : ((A.length : Int) != (C.length : Int)) = true := by rw [bne_iff_ne]; omega
    have he : decide (A = C) = false := decide_eq_false (fun e => hlen (by rw [e]))
    rw [he]
    clear he hlen hA hC
    as_aux_lemma =>
      go_enter Tryz.func19, Tryz.ntmps19
      go_wp2_with fail
      go_ret
      exact ⟨rfl, 0, rfl⟩
end Go.Proofs.YtmmkboldkaehgaaGreatDoor.La
/- Same, Compare, the document's. Own work of the verifier. -/
namespace Go.Proofs.YtmmkboldkaehgaaGreatDoor.La
open Go.RowKit

/-- A description. -/
structure Ds where
  kind : Int
  name : List UInt8
  help : List UInt8
  labels : List Lb
  deriving DecidableEq
theorem bel2 (w : World) (o1 o2 : Obj) : Below w.heap.size w ((w.alloc o1).alloc o2) :=
  ((Below.refl _ _).alloc (Nat.le_refl _) _).alloc (by simp) _
end Go.Proofs.YtmmkboldkaehgaaGreatDoor.La
/- Check, the document's. Own work of the verifier. -/
namespace Go.Proofs.YtmmkboldkaehgaaGreatDoor.La
open Go.RowKit

/-- What is wrong with labels, behind one of that name. -/
def chkL : List Lb → Option (List UInt8) → Int
  | [], _ => 0
  | a :: r, p => if lnameB a.1 = false then 9 else if txE a.2 ≠ 0 then txE a.2 else
    match p with
    | none => chkL r (some a.1)
    | some q => if bhE q a.1 ≠ 0 then bhE q a.1 else chkL r (some a.1)
def chkD (d : Ds) : Int := if d.kind < 1 ∨ 3 < d.kind then 7 else if nameB d.name = false then 9 else if txE d.help ≠ 0 then txE d.help else if 16 < d.labels.length then 3 else chkL d.labels none
def prv (A : List Lb) (i : Nat) : Option (List UInt8) := if i = 0 then none else (A[i - 1]?).map (·.1)
theorem prv_succ (A : List Lb) (i : Nat) (h : i < A.length) : prv A (i + 1) = some A[i].1 := by
  unfold prv
  rw [if_neg (by omega), Nat.add_sub_cancel, List.getElem?_eq_getElem h]
  rfl
theorem chkL_drop (A : List Lb) (i : Nat) (p : Option (List UInt8)) (h : i < A.length) : chkL (A.drop i) p = if lnameB A[i].1 = false then 9 else if txE A[i].2 ≠ 0 then txE A[i].2 else
    match p with
    | none => chkL (A.drop (i + 1)) (some A[i].1)
    | some q => if bhE q A[i].1 ≠ 0 then bhE q A[i].1 else chkL (A.drop (i + 1)) (some A[i].1) := by
  rw [List.drop_eq_getElem_cons h]
  cases p <;> simp only [chkL]
/-- No text of a description is longer than memory is. -/
def DsS (d : Ds) : Prop := d.name.length ≤ 4611686018427387904 ∧ d.help.length ≤ 4611686018427387904 ∧ ∀ a ∈ d.labels, a.1.length ≤ 4611686018427387904 ∧ a.2.length ≤ 4611686018427387904
theorem bel_drewN {B : Nat} {a w : World} (h : Below B a w) (n : Nat) : Below B a (w.drewN n) := by
  induction n with
  | zero => exact h
  | succ n ih => exact ⟨ih.os, ih.tape, ih.output, ih.size, ih.block⟩
structure KH (w : World) (ao : Option Addr) (b o cap : Nat) (A : List Lb) (W : World) : Prop where
  f : W.cell? ⟨w.heap.size, 3, none⟩ = some (.slice ao A.length cap)
  r : RowL W b o A
  bl : Below w.heap.size w W
theorem KH.below {w W W1 : World} {ao : Option Addr} {b o cap : Nat} {A : List Lb} (h : KH w ao b o cap A W) (hb : Below W.heap.size W W1) : KH w ao b o cap A W1 :=
  ⟨by rw [hb.cell (p := ⟨w.heap.size, 3, none⟩) (lt_of_cell h.f)]; exact h.f, h.r.below hb, h.bl.trans (hb.mono h.bl.size)⟩
theorem bel_drew {B : Nat} {a w : World} (h : Below B a w) : Below B a w.drew := ⟨h.os, h.tape, h.output, h.size, h.block⟩
theorem sizeL (W : World) : (sizeOf 49).run Tryz.prog W = .ok 2 W := by simp [sizeOf]; rfl
theorem index_lab (b o len cap j : Nat) (z : Int) (hz : z = (j : Int)) (hj : j < len) (W : World) :
    (Instr.indexAt 23 (.slice (some ⟨b, o, none⟩) len cap) (.int .i64 z)).run Tryz.prog W = .ok (.pointer (some ⟨b, o + j * 2, none⟩)) W := by
  subst hz
  have he : Tryz.prog.elem 23 = 49 := by simp [Program.elem, Tryz.underlying23]
  rw [run_indexAt_slice W 23 ⟨b, o, none⟩ len cap .i64 (j : Int) (by rw [he]; exact Tryz.underlying23), if_pos (by omega), he, sizeL]
  simp [Addr.add]
end Go.Proofs.YtmmkboldkaehgaaGreatDoor.La
/- THE CODE'S isRight, checkText, checkPlace, checkLabel. Own work of the verifier. -/
namespace Go.Proofs.YtmmkboldkaehgaaGreatDoor.La
open Go.RowKit

set_option maxRecDepth 100000 in
theorem below_iter (w : World) (s : ByteArray) (p : Nat) : Below w.heap.size w (w.iter s p) := (Below.refl _ _).alloc (Nat.le_refl _) _
set_option maxHeartbeats 4000000 in
set_option maxRecDepth 100000 in
theorem right_any (l : List UInt8) (hl : l.length ≤ 4611686018427387904) (w : World) :
    Calls Tryz.prog 131 #[.string ⟨l.toArray⟩] w fun r w' => r = .returned (.bool (utfB l)) ∧ Below w.heap.size w w' := by
  obtain ⟨R, hR⟩ : ∃ R, R = utfB l := ⟨_, rfl⟩
  rw [← hR]
  have HR0 : Hid (R = utfB (l.drop 0)) := by show R = _; rw [hR, List.drop_zero]
  clear hR
  go_enter Tryz.func131, Tryz.ntmps131
  go_wp2_with fail
  go_loopw [] (fun W => ∃ pos : Nat, pos ≤ l.length ∧ Hid (R = utfB (l.drop pos)) ∧ W = w.iter ⟨l.toArray⟩ pos) (fun W => l.length - W.iterPos w.heap.size)
  case atStart => exact ⟨0, by omega, HR0, rfl⟩
  case round =>
    obtain ⟨pos, hpos, HR, hw⟩ := hrel
    subst wr
    clear HR0
    have hsz : (ByteArray.mk l.toArray).size = l.length := by show l.toArray.size = _; simp
    by_cases hlt : pos < l.length
    · have hnx : ∀ ty, (Instr.next (.pointer (some ⟨w.heap.size, 0, none⟩)) true ty).run Tryz.prog (w.iter ⟨l.toArray⟩ pos) = _ := fun ty => run_next_any w ⟨l.toArray⟩ pos ty (by rw [hsz]; exact hlt)
      obtain ⟨r, n, hd⟩ : ∃ r n, Utf8.decode ⟨l.toArray⟩ pos = (r, n) := ⟨_, _, rfl⟩
      rw [hd] at hnx
      simp only at hnx
      obtain ⟨h1, h2, h3, h4⟩ := utf_step l pos r n hlt hd
      have hdr := drop_bytes l pos
      have HP : Hid _ := fun W => pre_any (l.drop pos) [239, 191, 189] W
      have hp := pre_three l pos hlt
      rcases h4 with ⟨hb, hu⟩ | ⟨hb, hu⟩
      · have hr : ((r : Int) == 65533) = true := by rw [beq_iff_eq]; have := hb.1; omega
        rw [decide_eq_false hb.2] at hp
        rw [hp] at HP
        have HF : Hid (R = false) := HR.out.trans hu
        clear HR hb hu hp hd hsz
        as_aux_lemma =>
          go_wp2_with (go_at_call 80; refine (HP.out _).mono ?_; rintro e1 w1 ⟨rfl, rfl⟩)
          go_ret
          exact ⟨congrArg (fun z : Bool => Ending.returned (Value.bool z)) HF.out.symm, below_iter _ _ _⟩
      · have HR' : Hid (R = utfB (l.drop (pos + n))) := HR.out.trans hu
        by_cases hr0 : r = 65533
        · have hr : ((r : Int) == 65533) = true := by rw [beq_iff_eq]; omega
          rw [decide_eq_true (Classical.byContradiction (fun k => hb ⟨hr0, k⟩))] at hp
          rw [hp] at HP
          clear HR hb hu hp hd hsz hr0
          as_aux_lemma =>
            go_wp2_with (go_at_call 80; refine (HP.out _).mono ?_; rintro e1 w1 ⟨rfl, rfl⟩)
            exact ⟨⟨pos + n, by omega, HR', rfl⟩, by rw [World.iterPos_iter, World.iterPos_iter]; omega⟩
        · have hr : ((r : Int) == 65533) = false := by rw [beq_eq_false_iff_ne]; omega
          clear HR hb hu hp hd hsz hr0 HP
          as_aux_lemma =>
            go_wp2_with fail
            exact ⟨⟨pos + n, by omega, HR', rfl⟩, by rw [World.iterPos_iter, World.iterPos_iter]; omega⟩
    · have hnx : ∀ ty, (Instr.next (.pointer (some ⟨w.heap.size, 0, none⟩)) true ty).run Tryz.prog (w.iter ⟨l.toArray⟩ pos) = _ := fun ty => run_next_end w ⟨l.toArray⟩ pos ty (by rw [hsz]; exact hlt)
      have HF : Hid (R = true) := by
        have := HR.out
        rw [List.drop_eq_nil_of_le (by omega), utfB] at this
        exact this
      clear HR hsz
      as_aux_lemma =>
        go_wp2_with fail
        go_ret
        exact ⟨congrArg (fun z : Bool => Ending.returned (Value.bool z)) HF.out.symm, below_iter _ _ _⟩
set_option maxRecDepth 100000 in
set_option maxHeartbeats 1000000 in
theorem ctext_any (l : List UInt8) (hl : l.length ≤ 4611686018427387904) (w : World) :
    Calls Tryz.prog 97 #[.string ⟨l.toArray⟩] w fun r w' => r = .returned (.int .i64 (txE l)) ∧ Below w.heap.size w w' := by
  have HU : Hid _ := fun W => right_any l hl W
  unfold txE
  by_cases h : 1024 < l.length
  · have h' : ¬ (l.length : Int) ≤ 1024 := by omega
    have h'' : (1024 : Int) < (l.length : Int) := by omega
    rw [if_pos h]
    as_aux_lemma =>
      go_enter Tryz.func97, Tryz.ntmps97
      go_wp2_with fail
      go_ret
      exact ⟨rfl, Below.refl _ _⟩
  · have h' : (l.length : Int) ≤ 1024 := by omega
    have h'' : ¬ (1024 : Int) < (l.length : Int) := by omega
    rw [if_neg h]
    cases hU : utfB l
    · rw [hU] at HU
      rw [if_neg (by decide)]
      as_aux_lemma =>
        go_enter Tryz.func97, Tryz.ntmps97
        go_wp2_with (go_at_call 131; refine (HU.out _).mono ?_; rintro e1 w1 ⟨rfl, hb⟩)
        go_ret
        exact ⟨rfl, hb⟩
    · rw [hU] at HU
      rw [if_pos rfl]
      as_aux_lemma =>
        go_enter Tryz.func97, Tryz.ntmps97
        go_wp2_with (go_at_call 131; refine (HU.out _).mono ?_; rintro e1 w1 ⟨rfl, hb⟩)
        go_ret
        exact ⟨rfl, hb⟩
/-- What is wrong with a name behind the labels ahead of it. -/
def plE (A : List Lb) (n : List UInt8) : Int := if A.length = 0 then 0 else bhE (A.getD (A.length - 1) ([], [])).1 n
set_option maxRecDepth 100000 in
set_option maxHeartbeats 1000000 in
theorem place_any (ao : Option Addr) (b o cap : Nat) (A : List Lb) (hao : A ≠ [] → ao = some ⟨b, o, none⟩) (hl : A.length ≤ 9223372036854775807) (n : List UInt8) (w : World) (hA : RowL w b o A) :
    Calls Tryz.prog 133 #[.slice ao A.length cap, .string ⟨n.toArray⟩] w fun r w' => r = .returned (.int .i64 (plE A n)) ∧ w' = w := by
  unfold plE
  by_cases h0 : A.length = 0
  · have e0 : ((A.length : Int) == 0) = true := by rw [beq_iff_eq]; omega
    rw [if_pos h0]
    clear h0
    as_aux_lemma =>
      go_enter Tryz.func133, Tryz.ntmps133
      go_wp2_with fail
      go_ret
      exact ⟨rfl, rfl⟩
  · have e0 : ((A.length : Int) == 0) = false := by rw [beq_eq_false_iff_ne]; omega
    rw [if_neg h0]
    have hne : A ≠ [] := fun e => h0 (by rw [e]; rfl)
    obtain rfl := hao hne
    obtain ⟨m, hm⟩ : ∃ m, m + 1 = A.length := ⟨A.length - 1, by omega⟩
    have hml : m < A.length := by omega
    have hw : IntKind.i64.wrap ((A.length : Int) - 1) = (m : Int) := by
      rw [IntKind.wrap_i64]; omega
    obtain ⟨g1, g2⟩ := hA m hml
    have hg : A.getD (A.length - 1) ([], []) = A[m] := by
      rw [show A.length - 1 = m from by omega, List.getD_eq_getElem?_getD, List.getElem?_eq_getElem hml]; rfl
    rw [hg]
    clear hg
    generalize A[m].1 = q at *
    generalize A[m].2 = q2 at *
    have hix := index_lab b o A.length cap m (m : Int) rfl hml
    unfold bhE
    by_cases hq : q = n
    · subst hq
      rw [if_pos rfl]
      clear hne h0 hm
      as_aux_lemma =>
        go_enter Tryz.func133, Tryz.ntmps133
        go_wp2_with fail
        go_ret
        exact ⟨rfl, rfl⟩
    · have hq' : (n == q) = false := by rw [beq_eq_false_iff_ne]; exact fun e => hq e.symm
      rw [if_neg hq]
      have hls := less_list n q
      cases hb : bltB n q
      · rw [hb] at hls
        rw [if_neg (by decide)]
        clear hne h0 hm hq hb
        as_aux_lemma =>
          go_enter Tryz.func133, Tryz.ntmps133
          go_wp2_with fail
          go_ret
          exact ⟨rfl, rfl⟩
      · rw [hb] at hls
        rw [if_pos rfl]
        clear hne h0 hm hq hb
        as_aux_lemma =>
          go_enter Tryz.func133, Tryz.ntmps133
          go_wp2_with fail
          go_ret
          exact ⟨rfl, rfl⟩
end Go.Proofs.YtmmkboldkaehgaaGreatDoor.La
