/- THE DOCUMENT's FLOAT: what its loops hold. Own work of the verifier. -/
import Derived.Test.YtbobhjgndgaoaaaDoorF3
namespace Go.Proofs.YtbobhjgndgaoaaaDoor
open Go.RowKit Go.Sort

/-- The last bit cut off; and is there one below it? -/
def halfB (N k : Nat) : Bool := decide (2 ^ k ≤ 2 * (N % 2 ^ k))
def overB (N k : Nat) : Bool := decide (2 * (N % 2 ^ k) ≠ 0 ∧ 2 * (N % 2 ^ k) ≠ 2 ^ k)
theorem half_0 (N : Nat) : halfB N 0 = false := by unfold halfB; simp [Nat.mod_one]
theorem over_0 (N : Nat) : overB N 0 = false := by unfold overB; simp [Nat.mod_one]
theorem mod_succ (N k : Nat) : N % 2 ^ (k + 1) = N % 2 ^ k + 2 ^ k * (N / 2 ^ k % 2) := by rw [Nat.pow_succ, Nat.mod_mul]
/-- The bit that a round cuts off. -/
def bitN (N k : Nat) : Nat := N / 2 ^ k % 2
theorem half_step (N k : Nat) : ((bitN N k : Int) == 1) = halfB N (k + 1) := by
  have hlt : N % 2 ^ k < 2 ^ k := Nat.mod_lt _ (Nat.pow_pos (by decide))
  unfold halfB bitN
  rw [mod_succ, Nat.pow_succ]
  generalize N % 2 ^ k = r at *
  generalize 2 ^ k = p at *
  rcases Nat.mod_two_eq_zero_or_one (N / p) with h | h
  · rw [h]
    rw [decide_eq_false (by omega)]; rfl
  · rw [h]
    rw [decide_eq_true (by omega)]; rfl
theorem over_step (N k : Nat) : overB N (k + 1) = (overB N k || halfB N k) := by
  have hlt : N % 2 ^ k < 2 ^ k := Nat.mod_lt _ (Nat.pow_pos (by decide))
  unfold overB halfB
  rw [mod_succ, Nat.pow_succ]
  generalize N % 2 ^ k = r at *
  generalize 2 ^ k = p at *
  rw [← Bool.decide_or]
  rcases Nat.mod_two_eq_zero_or_one (N / p) with h | h
  · rw [h]
    exact decide_eq_decide.2 ⟨fun _ => by omega, fun _ => by omega⟩
  · rw [h]
    exact decide_eq_decide.2 ⟨fun _ => by omega, fun _ => by omega⟩
theorem bit_word (N k : Nat) (h : N < 340282366920938463463374607431768211456) : bits .and .u64 (lw N k : Int) 1 = (bitN N k : Int) := by
  have hb := words_bound N k h
  have := u64_and_nat (lw N k) 1 hb.2.1 (by decide)
  rw [show ((1 : Nat) : Int) = 1 from rfl] at this
  rw [this, nat_mask1]
  congr 1
  unfold lw bitN
  omega
/-- What stands after the shifts up. -/
def up (x k : Nat) : Nat := x * 2 ^ k
theorem up_0 (x : Nat) : up x 0 = x := by unfold up; simp
theorem up_step (x k : Nat) (h : up x k < 9223372036854775808) : IntKind.u64.wrap ((up x k : Int) * 2) = (up x (k + 1) : Int) := by
  rw [IntKind.wrap_u64]
  have : up x (k + 1) = up x k * 2 := by unfold up; rw [Nat.pow_succ, Nat.mul_assoc]
  omega
theorem rb_cases (N d m : Nat) (hm : N / 2 ^ d % 2 = m % 2) : halfB N d = false ∧ rb N d = 0 ∨ halfB N d = true ∧ overB N d = true ∧ rb N d = 1 ∨ halfB N d = true ∧ overB N d = false ∧ m % 2 = 1 ∧ rb N d = 1 ∨ halfB N d = true ∧ overB N d = false ∧ m % 2 = 0 ∧ rb N d = 0 := by
  have hlt : N % 2 ^ d < 2 ^ d := Nat.mod_lt _ (Nat.pow_pos (by decide))
  unfold rb halfB overB
  rw [hm]
  simp only [decide_eq_true_eq, decide_eq_false_iff_not]
  generalize N % 2 ^ d = r at *
  generalize 2 ^ d = p at *
  by_cases c1 : p ≤ 2 * r
  · by_cases c2 : 2 * r = p
    · by_cases c3 : m % 2 = 1
      · right; right; left
        exact ⟨c1, by omega, c3, if_pos (by omega)⟩
      · right; right; right
        exact ⟨c1, by omega, by omega, if_neg (by omega)⟩
    · right; left
      exact ⟨c1, by omega, if_pos (by omega)⟩
  · left
    exact ⟨c1, if_neg (by omega)⟩
theorem fword_m (N n : Nat) (hN : N ≠ 0) (hn : N.log2 + 1 = n) (h2 : n ≤ 128) :
    fword N = (n + 1021) * 4503599627370496 + (up (lw N (n - 53)) (53 - n) + rb N (n - 53)) ∧ 4503599627370496 ≤ up (lw N (n - 53)) (53 - n) ∧ up (lw N (n - 53)) (53 - n) < 9007199254740992 ∧
      N / 2 ^ (n - 53) % 2 = if n ≤ 53 then lw N (n - 53) % 2 else up (lw N (n - 53)) (53 - n) % 2 := by
  have hle : 2 ^ N.log2 ≤ N := Nat.log2_self_le hN
  have hlt : N < 2 ^ (N.log2 + 1) := Nat.lt_log2_self
  by_cases h : n ≤ 53
  · rw [if_pos h]
    have e0 : n - 53 = 0 := by omega
    have hr : rb N 0 = 0 := by unfold rb; simp [Nat.mod_one]
    have hl : N < 2 ^ 53 := Nat.lt_of_lt_of_le hlt (Nat.pow_le_pow_right (by decide) (by omega))
    rw [show (2 : Nat) ^ 53 = 9007199254740992 from by decide] at hl
    have hw0 : lw N 0 = N := by unfold lw; rw [Nat.pow_zero, Nat.div_one]; omega
    rw [e0, hw0, hr, fword_small N hN (by omega)]
    unfold up
    rw [show 52 - N.log2 = 53 - n from by omega, show N.log2 + 1022 = n + 1021 from by omega]
    refine ⟨by omega, ?_, ?_, by rw [Nat.pow_zero, Nat.div_one]⟩
    · calc 4503599627370496 = 2 ^ N.log2 * 2 ^ (53 - n) := by rw [← Nat.pow_add, show N.log2 + (53 - n) = 52 from by omega]
        _ ≤ _ := Nat.mul_le_mul_right _ hle
    · calc N * 2 ^ (53 - n) < 2 ^ (N.log2 + 1) * 2 ^ (53 - n) := Nat.mul_lt_mul_of_pos_right hlt (Nat.pow_pos (by decide))
        _ = 9007199254740992 := by rw [← Nat.pow_add, show N.log2 + 1 + (53 - n) = 53 from by omega]
  · rw [if_neg h, show 53 - n = 0 from by omega, up_0, fword_big N (by omega) (by omega), show N.log2 - 52 = n - 53 from by omega, show N.log2 + 1022 = n + 1021 from by omega]
    have hp : 0 < 2 ^ (n - 53) := Nat.pow_pos (by decide)
    have a : 4503599627370496 ≤ N / 2 ^ (n - 53) := by
      rw [Nat.le_div_iff_mul_le hp]
      calc 4503599627370496 * 2 ^ (n - 53) = 2 ^ N.log2 := by rw [show (4503599627370496 : Nat) = 2 ^ 52 from by decide, ← Nat.pow_add, show 52 + (n - 53) = N.log2 from by omega]
        _ ≤ N := hle
    have b : N / 2 ^ (n - 53) < 9007199254740992 := by
      rw [Nat.div_lt_iff_lt_mul hp]
      calc N < 2 ^ (N.log2 + 1) := hlt
        _ = 9007199254740992 * 2 ^ (n - 53) := by rw [show (9007199254740992 : Nat) = 2 ^ 53 from by decide, ← Nat.pow_add, show 53 + (n - 53) = N.log2 + 1 from by omega]
    have e : lw N (n - 53) = N / 2 ^ (n - 53) := by unfold lw; omega
    rw [e]
    exact ⟨rfl, a, b, rfl⟩
theorem tail_math (n m r F : Nat) (x : Int) (hx : x = ((m + r : Nat) : Int)) (h1 : 4503599627370496 ≤ m) (h2 : m < 9007199254740992) (hn : n ≤ 128) (hr : r ≤ 1) (hF : F = (n + 1021) * 4503599627370496 + (m + r)) :
    ((x == 9007199254740992) = false ∧ ∃ f : Nat, bits .and .u64 x 4503599627370495 = (f : Int) ∧ bits .or .u64 (((n : Int) - 1 + 1023) * 4503599627370496) (f : Int) = (F : Int)) ∨
    ((x == 9007199254740992) = true ∧ bits .and .u64 (x / 2) 4503599627370495 = 0 ∧ bits .or .u64 (((n : Int) + 1023) * 4503599627370496) 0 = (F : Int)) := by
  have e2 : ∀ t : Nat, t < 18446744073709551616 → bits .and .u64 (t : Int) 4503599627370495 = ((t % 4503599627370496 : Nat) : Int) := by
    intro t ht
    have := u64_and_nat t 4503599627370495 ht (by decide)
    rw [show ((4503599627370495 : Nat) : Int) = 4503599627370495 from rfl] at this
    rw [this, show (4503599627370495 : Nat) = 2 ^ 52 - 1 from by decide, Nat.and_two_pow_sub_one_eq_mod, show (2 : Nat) ^ 52 = 4503599627370496 from by decide]
  have e3 : ∀ E f : Nat, f < 4503599627370496 → E ≤ 2046 → bits .or .u64 ((E : Int) * 4503599627370496) (f : Int) = ((E * 4503599627370496 + f : Nat) : Int) := by
    intro E f hf hE
    have := u64_or_nat (E * 4503599627370496) f (by omega) (by omega)
    rw [show ((E * 4503599627370496 : Nat) : Int) = (E : Int) * 4503599627370496 from by omega] at this
    rw [this, nat_join 52 _ _ (by rw [show (2 : Nat) ^ 52 = 4503599627370496 from by decide]; omega) (by rw [show (2 : Nat) ^ 52 = 4503599627370496 from by decide]; exact hf)]
  subst hx
  by_cases c : m + r = 9007199254740992
  · right
    refine ⟨by rw [c]; rfl, ?_, ?_⟩
    · rw [c]
      have := e2 4503599627370496 (by decide)
      exact this
    · have := e3 (n + 1023) 0 (by decide) (by omega)
      rw [show ((n : Int) + 1023) = ((n + 1023 : Nat) : Int) from by omega]
      rw [show ((0 : Nat) : Int) = 0 from rfl] at this
      rw [this]
      omega
  · left
    refine ⟨by rw [beq_eq_false_iff_ne]; omega, (m + r) % 4503599627370496, e2 (m + r) (by omega), ?_⟩
    have := e3 (n + 1022) ((m + r) % 4503599627370496) (by omega) (by omega)
    rw [show ((n : Int) - 1 + 1023) = ((n + 1022 : Nat) : Int) from by omega, this]
    omega
theorem sign_word (F : Nat) (h : F < 9223372036854775808) : bits .or .u64 (F : Int) 9223372036854775808 = ((9223372036854775808 + F : Nat) : Int) := by
  have := u64_or_nat F 9223372036854775808 (by omega) (by decide)
  rw [show ((9223372036854775808 : Nat) : Int) = 9223372036854775808 from rfl] at this
  rw [this, Nat.or_comm, nat_join 63 _ _ (by decide) (by rw [show (2 : Nat) ^ 63 = 9223372036854775808 from by decide]; exact h)]
end Go.Proofs.YtbobhjgndgaoaaaDoor
