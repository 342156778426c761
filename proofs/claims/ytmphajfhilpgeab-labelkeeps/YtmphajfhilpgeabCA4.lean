/- RIGHT UTF-8, as the language's own range over a text tells it. Own work of the verifier. -/
import Derived.Test.YtmphajfhilpgeabCA3
import Derived.Test.YtmphajfhilpgeabLA4
import Derived.Lib.DecodeN
import Derived.Lib.OthersKept
import Derived.Laws.RangeAny
namespace Go.Proofs.Ytmphajfhilpgeab
open Go.RowKit

theorem get_bang (l : List UInt8) (k : Nat) : (ByteArray.mk l.toArray).get! k = l.getD k 0 := by
  show l.toArray.get!Internal k = _
  rw [List.getD_eq_getElem?_getD]
  simp [Array.get!Internal]
  rfl
theorem tl_iff (l : List UInt8) (k : Nat) : tlAt l k = decide (k < l.length ∧ (l.getD k 0).toNat / 64 = 2) := by
  unfold tlAt tlB
  have := (l.getD k 0).toNat_lt
  rw [Bool.eq_iff_iff]
  simp only [Bool.and_eq_true, decide_eq_true_eq]
  omega
/-- What a byte that is no letter's first one is told as. -/
def badAt (l : List UInt8) (i r : Nat) : Prop := r = 65533 ∧ ¬ (3 ≤ l.length - i ∧ (l.getD i 0).toNat = 239 ∧ (l.getD (i + 1) 0).toNat = 191 ∧ (l.getD (i + 2) 0).toNat = 189)
theorem fine_true {n c : Nat} (h : ¬ (n = 1 ∧ c < 128 ∨ n = 2 ∧ c < 2048 ∨ n = 3 ∧ c < 65536 ∨ 1114111 < c ∨ 55296 ≤ c ∧ c ≤ 57343)) : fine n c = true := decide_eq_true h
theorem fine_false {n c : Nat} (h : n = 1 ∧ c < 128 ∨ n = 2 ∧ c < 2048 ∨ n = 3 ∧ c < 65536 ∨ 1114111 < c ∨ 55296 ≤ c ∧ c ≤ 57343) : fine n c = false := decide_eq_false (fun k => k h)
set_option maxHeartbeats 4000000 in
theorem utf_step (l : List UInt8) (i r n : Nat) (h : i < l.length) (hd : Utf8.decode ⟨l.toArray⟩ i = (r, n)) :
    1 ≤ n ∧ i + n ≤ l.length ∧ r ≤ 1114111 ∧ (badAt l i r ∧ utfB (l.drop i) = false ∨ ¬ badAt l i r ∧ utfB (l.drop i) = utfB (l.drop (i + n))) := by
  rw [Lib.decode_at, get_bang, get_bang, get_bang, get_bang] at hd
  have e0 : l.getD i 0 = l[i] := get_at l i h
  have hsz : (ByteArray.mk l.toArray).size = l.length := by show l.toArray.size = _; simp
  rw [hsz] at hd
  have q0 := (l.getD i 0).toNat_lt
  have q1 := (l.getD (i + 1) 0).toNat_lt
  have q2 := (l.getD (i + 2) 0).toNat_lt
  have q3 := (l.getD (i + 3) 0).toNat_lt
  have t1 := tl_iff l (i + 1)
  have t2 := tl_iff l (i + 2)
  have t3 := tl_iff l (i + 3)
  have c1 := cont_step l (i + 1)
  have c2 := cont_step l (i + 2)
  have c3 := cont_step l (i + 3)
  unfold badAt
  have u0 := utf_low l i h
  have u1 := fun n c0 => utf_lead l i n c0 h
  have u2 := utf_none l i h
  rw [← e0] at u0 u1 u2
  clear e0
  generalize (l.getD i 0).toNat = b0 at *
  generalize (l.getD (i + 1) 0).toNat = b1 at *
  generalize (l.getD (i + 2) 0).toNat = b2 at *
  generalize (l.getD (i + 3) 0).toNat = b3 at *
  have bad : ∀ m, (65533, 1) = (r, n) → utfB (l.drop i) = false → ¬ (3 ≤ l.length - i ∧ b0 = 239 ∧ b1 = 191 ∧ b2 = 189) → 1 ≤ n ∧ i + n ≤ l.length ∧ r ≤ 1114111 ∧ ((r = 65533 ∧ ¬ (3 ≤ l.length - i ∧ b0 = 239 ∧ b1 = 191 ∧ b2 = 189)) ∧ utfB (l.drop i) = false ∨ ¬ (r = 65533 ∧ ¬ (3 ≤ l.length - i ∧ b0 = 239 ∧ b1 = 191 ∧ b2 = 189)) ∧ utfB (l.drop i) = m) := by
    intro m e1 e2 e3
    obtain ⟨rfl, rfl⟩ := Prod.mk.inj e1
    exact ⟨Nat.le_refl _, by omega, by omega, Or.inl ⟨⟨rfl, e3⟩, e2⟩⟩
  by_cases g1 : b0 < 128
  · rw [Lib.decodeN, if_pos g1] at hd
    obtain ⟨rfl, rfl⟩ := Prod.mk.inj hd
    exact ⟨Nat.le_refl _, by omega, by omega, Or.inr ⟨by omega, u0 g1⟩⟩
  by_cases g2 : b0 < 192
  · rw [Lib.decodeN, if_neg g1, if_neg (by omega), if_neg (by omega), if_neg (by omega)] at hd
    refine bad _ hd (u2 g1 ?_) (by omega)
    unfold lead
    rw [if_neg (by omega), if_neg (by omega), if_neg (by omega)]
  by_cases g3 : b0 < 224
  · have u := u1 1 (b0 - 192) g1 (by unfold lead; rw [if_pos (by omega)])
    rw [c1 0, t1] at u
    by_cases k1 : i + 1 < l.length ∧ b1 / 64 = 2
    · rw [decide_eq_true k1, if_pos rfl] at u
      simp only [cont] at u
      rw [Lib.decodeN, if_neg g1, if_pos (by omega)] at hd
      by_cases k2 : b0 % 32 * 64 + b1 % 64 ≥ 128
      · rw [if_pos k2] at hd
        obtain ⟨rfl, rfl⟩ := Prod.mk.inj hd
        rw [fine_true (by omega), Bool.true_and] at u
        exact ⟨by omega, by omega, by omega, Or.inr ⟨by omega, u⟩⟩
      · rw [if_neg k2] at hd
        rw [fine_false (by omega), Bool.false_and] at u
        exact bad _ hd u (by omega)
    · rw [decide_eq_false k1, if_neg (by decide)] at u
      rw [Lib.decodeN, if_neg g1, if_neg (by omega), if_neg (by omega), if_neg (by omega)] at hd
      exact bad _ hd u (by omega)
  by_cases g4 : b0 < 240
  · have u := u1 2 (b0 - 224) g1 (by unfold lead; rw [if_neg (by omega), if_pos (by omega)])
    rw [c1 1, t1] at u
    by_cases k1 : i + 1 < l.length ∧ b1 / 64 = 2
    · rw [decide_eq_true k1, if_pos rfl, c2 0, t2] at u
      by_cases k2 : i + 2 < l.length ∧ b2 / 64 = 2
      · rw [decide_eq_true k2, if_pos rfl] at u
        simp only [cont] at u
        rw [Lib.decodeN, if_neg g1, if_neg (by omega), if_pos (by omega)] at hd
        by_cases k3 : b0 % 16 * 4096 + b1 % 64 * 64 + b2 % 64 ≥ 2048 ∧ (b0 % 16 * 4096 + b1 % 64 * 64 + b2 % 64 < 55296 ∨ (57344 ≤ b0 % 16 * 4096 + b1 % 64 * 64 + b2 % 64 ∧ b0 % 16 * 4096 + b1 % 64 * 64 + b2 % 64 ≤ 1114111))
        · rw [if_pos k3] at hd
          obtain ⟨rfl, rfl⟩ := Prod.mk.inj hd
          rw [fine_true (by omega), Bool.true_and] at u
          exact ⟨by omega, by omega, by omega, Or.inr ⟨by omega, u⟩⟩
        · rw [if_neg k3] at hd
          rw [fine_false (by omega), Bool.false_and] at u
          exact bad _ hd u (by omega)
      · rw [decide_eq_false k2, if_neg (by decide)] at u
        rw [Lib.decodeN, if_neg g1, if_neg (by omega), if_neg (by omega), if_neg (by omega)] at hd
        exact bad _ hd u (by omega)
    · rw [decide_eq_false k1, if_neg (by decide)] at u
      rw [Lib.decodeN, if_neg g1, if_neg (by omega), if_neg (by omega), if_neg (by omega)] at hd
      exact bad _ hd u (by omega)
  by_cases g5 : b0 < 248
  · have u := u1 3 (b0 - 240) g1 (by unfold lead; rw [if_neg (by omega), if_neg (by omega), if_pos (by omega)])
    rw [c1 2, t1] at u
    by_cases k1 : i + 1 < l.length ∧ b1 / 64 = 2
    · rw [decide_eq_true k1, if_pos rfl, c2 1, t2] at u
      by_cases k2 : i + 2 < l.length ∧ b2 / 64 = 2
      · rw [decide_eq_true k2, if_pos rfl, c3 0, t3] at u
        by_cases k3 : i + 3 < l.length ∧ b3 / 64 = 2
        · rw [decide_eq_true k3, if_pos rfl] at u
          simp only [cont] at u
          rw [Lib.decodeN, if_neg g1, if_neg (by omega), if_neg (by omega), if_pos (by omega)] at hd
          by_cases k4 : b0 % 8 * 262144 + b1 % 64 * 4096 + b2 % 64 * 64 + b3 % 64 ≥ 65536 ∧ (b0 % 8 * 262144 + b1 % 64 * 4096 + b2 % 64 * 64 + b3 % 64 < 55296 ∨ (57344 ≤ b0 % 8 * 262144 + b1 % 64 * 4096 + b2 % 64 * 64 + b3 % 64 ∧ b0 % 8 * 262144 + b1 % 64 * 4096 + b2 % 64 * 64 + b3 % 64 ≤ 1114111))
          · rw [if_pos k4] at hd
            obtain ⟨rfl, rfl⟩ := Prod.mk.inj hd
            rw [fine_true (by omega), Bool.true_and] at u
            exact ⟨by omega, by omega, by omega, Or.inr ⟨by omega, u⟩⟩
          · rw [if_neg k4] at hd
            rw [fine_false (by omega), Bool.false_and] at u
            exact bad _ hd u (by omega)
        · rw [decide_eq_false k3, if_neg (by decide)] at u
          rw [Lib.decodeN, if_neg g1, if_neg (by omega), if_neg (by omega), if_neg (by omega)] at hd
          exact bad _ hd u (by omega)
      · rw [decide_eq_false k2, if_neg (by decide)] at u
        rw [Lib.decodeN, if_neg g1, if_neg (by omega), if_neg (by omega), if_neg (by omega)] at hd
        exact bad _ hd u (by omega)
    · rw [decide_eq_false k1, if_neg (by decide)] at u
      rw [Lib.decodeN, if_neg g1, if_neg (by omega), if_neg (by omega), if_neg (by omega)] at hd
      exact bad _ hd u (by omega)
  · rw [Lib.decodeN, if_neg g1, if_neg (by omega), if_neg (by omega), if_neg (by omega)] at hd
    refine bad _ hd (u2 g1 ?_) (by omega)
    unfold lead
    rw [if_neg (by omega), if_neg (by omega), if_neg (by omega)]
theorem pre_three (l : List UInt8) (i : Nat) (_h : i < l.length) : preB (l.drop i) [239, 191, 189] = decide (3 ≤ l.length - i ∧ (l.getD i 0).toNat = 239 ∧ (l.getD (i + 1) 0).toNat = 191 ∧ (l.getD (i + 2) 0).toNat = 189) := by
  unfold preB
  rw [List.length_drop]
  show (decide (3 ≤ l.length - i) && ((l.drop i).take 3 == [239, 191, 189])) = _
  by_cases h3 : 3 ≤ l.length - i
  · have g0 : i < l.length := by omega
    have g1 : i + 1 < l.length := by omega
    have g2 : i + 1 + 1 < l.length := by omega
    rw [List.drop_eq_getElem_cons g0, List.drop_eq_getElem_cons g1, List.drop_eq_getElem_cons g2, get_at l i g0, get_at l (i + 1) g1, get_at l (i + 2) g2]
    simp only [List.take_succ_cons, List.take_zero]
    rw [Bool.eq_iff_iff]
    simp only [Bool.and_eq_true, decide_eq_true_eq, beq_iff_eq, List.cons.injEq, and_true]
    have n1 : ∀ (x y : UInt8), x = y ↔ x.toNat = y.toNat := fun x y => ⟨fun e => by rw [e], fun e => UInt8.toNat_inj.1 e⟩
    rw [n1 l[i] 239, n1 l[i + 1] 191, n1 l[i + 1 + 1] 189]
    exact Iff.rfl
  · rw [decide_eq_false h3, decide_eq_false (by omega)]
    rfl
end Go.Proofs.Ytmphajfhilpgeab
