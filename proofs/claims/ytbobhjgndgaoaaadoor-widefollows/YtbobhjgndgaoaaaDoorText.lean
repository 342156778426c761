/- THE PLAIN MATHEMATICS of numerals (no Go in sight). Own work of the verifier. -/
import Derived.Test.YtbobhjgndgaoaaaDoorArith
import Derived.Lib.ItoaNum
import Derived.Lib.Repeat
namespace Go.Proofs.YtbobhjgndgaoaaaDoor

theorem dec_small {u : Nat} (h : u < 10) : Lib.decDigits u = [UInt8.ofNat (48 + u)] := by rw [Lib.decDigits, dif_pos h]
theorem dec_big {u : Nat} (h : ¬ u < 10) : Lib.decDigits u = Lib.decDigits (u / 10) ++ [UInt8.ofNat (48 + u % 10)] := by rw [Lib.decDigits, dif_neg h]
theorem dec_snoc {a b : Nat} (ha : 0 < a) (hb : b < 10) : Lib.decDigits (a * 10 + b) = Lib.decDigits a ++ [UInt8.ofNat (48 + b)] := by
  rw [dec_big (by omega), show (a * 10 + b) / 10 = a from by omega, show (a * 10 + b) % 10 = b from by omega]

/-- The numeral of a number in two pieces. -/
theorem dec_join (a : Nat) (ha : 0 < a) : ∀ (k b : Nat), 1 ≤ k → b < 10 ^ k → Lib.decDigits (a * 10 ^ k + b) = Lib.decDigits a ++ (List.replicate (k - Lib.nDigits b) 48 ++ Lib.decDigits b)
  | 0, _, h, _ => by omega
  | 1, b, _, hb => by
    have hb' : b < 10 := by simpa using hb
    rw [show (10 : Nat) ^ 1 = 10 from rfl, dec_snoc ha hb', Lib.nDigits_small hb', dec_small hb']
    simp
  | k + 2, b, _, hb => by
    have hp : (10 : Nat) ^ (k + 2) = 10 ^ (k + 1) * 10 := Nat.pow_succ ..
    have hpos : 0 < 10 ^ (k + 1) := Nat.pow_pos (by decide)
    rw [hp] at hb
    have hN : a * 10 ^ (k + 2) + b = (a * 10 ^ (k + 1) + b / 10) * 10 + b % 10 := by
      rw [hp, ← Nat.mul_assoc]
      omega
    have h1 : 0 < a * 10 ^ (k + 1) := Nat.mul_pos ha hpos
    rw [hN, dec_snoc (by omega) (Nat.mod_lt _ (by decide)), dec_join a ha (k + 1) (b / 10) (by omega) (by omega)]
    by_cases hb10 : b < 10
    · rw [show b / 10 = 0 from by omega, show b % 10 = b from by omega, Lib.nDigits_small (u := 0) (by decide), Lib.nDigits_small hb10, dec_small (u := 0) (by decide), dec_small hb10, show k + 2 - 1 = (k + 1 - 1) + 1 from by omega, List.replicate_succ']
      simp
    · rw [Lib.nDigits_big hb10, dec_big hb10, show k + 2 - (Lib.nDigits (b / 10) + 1) = k + 1 - Lib.nDigits (b / 10) from by omega]
      simp

theorem nDigits_le_pow : ∀ (k u : Nat), u < 10 ^ (k + 1) → Lib.nDigits u ≤ k + 1
  | 0, u, h => by rw [Lib.nDigits_small (by simpa using h)]; omega
  | k + 1, u, h => by
    by_cases hu : u < 10
    · rw [Lib.nDigits_small hu]; omega
    · rw [Lib.nDigits_big hu]
      have := nDigits_le_pow k (u / 10) (by rw [Nat.pow_succ] at h; omega)
      omega
theorem repeat_48 (k : Nat) : Lib.repeatL [48] k = List.replicate k 48 := by
  induction k with
  | zero => rfl
  | succ k ih => simp [Lib.repeatL, ih, List.replicate_succ]

/-- The text of a magnitude in two pieces of 64 bits. -/
theorem dec_piece (N : Nat) (h : ¬ N / 10000000000000000000 = 0) :
    Lib.decDigits (N / 10000000000000000000) ++ (Lib.repeatL [48] (19 - Lib.nDigits (N % 10000000000000000000)) ++ Lib.decDigits (N % 10000000000000000000)) = Lib.decDigits N := by
  have e := dec_join (N / 10000000000000000000) (by omega) 19 (N % 10000000000000000000) (by omega) (by simp only [show (10 : Nat) ^ 19 = 10000000000000000000 from by decide]; omega)
  rw [repeat_48, ← e, show (10 : Nat) ^ 19 = 10000000000000000000 from by decide]
  congr 1
  omega
end Go.Proofs.YtbobhjgndgaoaaaDoor
