/- THE PLAIN MATHEMATICS of a division of two words by one (no Go in sight). Own work of the verifier. -/
import Derived.WalkKit
import Derived.Lib.ItoaNum
import Derived.Laws.Bits64
import Derived.Laws.BitsAllLaws
import Derived.Test.YtpllckgpolhafaaGreatDoorRows
import Derived.WalkSpells
import Derived.RowKit3
import Derived.Below
import Derived.Outline
import Derived.Deep.QuietTactic
import Derived.BigQuiet
import Derived.Laws.ShiftsVarLaws
import Derived.Handy
import Derived.Test.YtpllckgpolhafaaGreatDoorPA
import Derived.Maps.AppendAt
import Derived.Deep.AppendLies
namespace Go.Proofs.YtpllckgpolhafaaGreatDoor

/-- What the loop of an estimate keeps: q is no less than the quotient. -/
structure DInv (U u h n q r : Int) : Prop where
  e : q * h + r = U
  q0 : 0 ≤ q
  r0 : 0 ≤ r
  up : U * 4294967296 + u < (q + 1) * (h * 4294967296 + n)
/-- q is the quotient of U * 2^32 + u. -/
structure DEnd (U u h n q : Int) : Prop where
  q0 : 0 ≤ q
  lo : q * (h * 4294967296 + n) ≤ U * 4294967296 + u
  up : U * 4294967296 + u < (q + 1) * (h * 4294967296 + n)
/-- The sizes of the parts. -/
structure DSize (U u h n : Int) : Prop where
  h0 : 2147483648 ≤ h
  h1 : h < 4294967296
  n0 : 0 ≤ n
  n1 : n < 4294967296
  u0 : 0 ≤ u
  u1 : u < 4294967296
  U0 : 0 ≤ U
  U1 : U < h * 4294967296 + n

theorem mul_parts (q h n : Int) : q * (h * 4294967296 + n) = (q * h) * 4294967296 + q * n := by
  rw [Int.mul_add, Int.mul_assoc]
theorem succ_parts (q h n : Int) : (q + 1) * (h * 4294967296 + n) = (q * h) * 4294967296 + q * n + (h * 4294967296 + n) := by
  rw [Int.add_mul, mul_parts, Int.one_mul]

theorem dinv_start {U u h n : Int} (z : DSize U u h n) : DInv U u h n (U / h) (U - U / h * h) := by
  obtain ⟨h0, h1, n0, n1, u0, u1, U0, U1⟩ := z
  have e := Int.mul_ediv_add_emod U h
  have m0 := Int.emod_nonneg U (show h ≠ 0 by omega)
  have m1 := Int.emod_lt_of_pos U (show 0 < h by omega)
  have q0 : 0 ≤ U / h := Int.ediv_nonneg U0 (by omega)
  rw [Int.mul_comm] at e
  generalize U / h = q at *
  have p0 : 0 ≤ q * n := Int.mul_nonneg q0 n0
  refine ⟨by omega, q0, by omega, ?_⟩
  rw [succ_parts]
  generalize q * h = p at *
  omega
theorem dinv_rest {U u h n : Int} (z : DSize U u h n) : 0 ≤ U - U / h * h ∧ U - U / h * h < 4294967296 ∧ 0 ≤ U / h ∧ 0 ≤ U / h * h ∧ U / h * h ≤ U ∧ U / h < 8589934592 := by
  obtain ⟨h0, h1, n0, n1, u0, u1, U0, U1⟩ := z
  have e := Int.mul_ediv_add_emod U h
  have m0 := Int.emod_nonneg U (show h ≠ 0 by omega)
  have m1 := Int.emod_lt_of_pos U (show 0 < h by omega)
  have q0 : 0 ≤ U / h := Int.ediv_nonneg U0 (by omega)
  have q1 : U / h < 8589934592 := Int.ediv_lt_of_lt_mul (by omega) (by omega)
  have p0 : 0 ≤ U / h * h := Int.mul_nonneg q0 (by omega)
  rw [Int.mul_comm] at e
  omega
/-- One step: q was too great. -/
theorem dinv_step {U u h n q r : Int} (z : DSize U u h n) (i : DInv U u h n q r) (t : 4294967296 ≤ q ∨ 4294967296 * r + u < q * n) : DInv U u h n (q - 1) (r + h) ∧ 0 < q := by
  obtain ⟨h0, h1, n0, n1, u0, u1, U0, U1⟩ := z
  obtain ⟨e, q0, r0, up⟩ := i
  have hq : 0 < q := by
    rcases t with t | t
    · omega
    · rcases Int.lt_or_eq_of_le q0 with k | k
      · exact k
      · subst k; rw [Int.zero_mul] at t; omega
  refine ⟨⟨?_, by omega, by omega, ?_⟩, hq⟩
  · rw [Int.sub_mul, Int.one_mul]; omega
  · rw [show q - 1 + 1 = q from by omega, mul_parts]
    rcases t with t | t
    · have a := Int.mul_le_mul_of_nonneg_right t (show 0 ≤ h * 4294967296 + n by omega)
      rw [mul_parts q] at a
      omega
    · generalize q * h = p at *
      generalize q * n = v at *
      omega
/-- The test says no: q is the quotient. -/
theorem dinv_end {U u h n q r : Int} (i : DInv U u h n q r) (t : q * n ≤ 4294967296 * r + u) : DEnd U u h n q := by
  obtain ⟨e, q0, r0, up⟩ := i
  refine ⟨q0, ?_, up⟩
  rw [mul_parts]
  generalize q * h = p at *
  omega
/-- The rest is great: q is the quotient. -/
theorem dinv_break {U u h n q r : Int} (z : DSize U u h n) (i : DInv U u h n q r) (t : 4294967296 ≤ r) : DEnd U u h n q := by
  obtain ⟨h0, h1, n0, n1, u0, u1, U0, U1⟩ := z
  obtain ⟨e, q0, r0, up⟩ := i
  refine ⟨q0, ?_, up⟩
  have hq : q < 4294967296 := by
    rcases Int.lt_or_le q 4294967296 with k | k
    · exact k
    · have a := Int.mul_le_mul_of_nonneg_right k (show 0 ≤ h by omega)
      omega
  have b : q * n ≤ 4294967296 * 4294967296 := Int.mul_le_mul (by omega) (by omega) n0 (by omega)
  rw [mul_parts]
  generalize q * h = p at *
  generalize q * n = v at *
  omega
theorem dend_lt {U u h n q : Int} (z : DSize U u h n) (i : DEnd U u h n q) : q < 4294967296 := by
  obtain ⟨h0, h1, n0, n1, u0, u1, U0, U1⟩ := z
  obtain ⟨q0, lo, up⟩ := i
  rcases Int.lt_or_le q 4294967296 with k | k
  · exact k
  · have a := Int.mul_le_mul_of_nonneg_right k (show 0 ≤ h * 4294967296 + n by omega)
    omega

/-- What is left behind an estimate. -/
theorem div_T {U u h n q Y : Int} (hY : Y = h * 4294967296 + n) (hY1 : Y < 18446744073709551616) (e : DEnd U u h n q) :
    IntKind.u64.wrap (IntKind.u64.wrap (IntKind.u64.wrap (U * 4294967296) + u) - IntKind.u64.wrap (q * Y)) = U * 4294967296 + u - q * Y ∧ 0 ≤ U * 4294967296 + u - q * Y ∧ U * 4294967296 + u - q * Y < Y := by
  obtain ⟨q0, lo, up⟩ := e
  rw [← hY] at lo up
  rw [Int.add_mul, Int.one_mul] at up
  simp only [IntKind.wrap_u64]
  generalize q * Y = p at *
  omega

/-- The two words, shifted. -/
theorem norm_words (H l : Nat) (k : Nat) (hk : k ≤ 64) (hl : l < 18446744073709551616) (hH : H * 2 ^ k < 18446744073709551616) :
    bits .or .u64 (IntKind.u64.wrap ((H : Int) * 2 ^ k)) ((l : Int) / 2 ^ (64 - k)) = ((H * 2 ^ k + l / 2 ^ (64 - k) : Nat) : Int) ∧
    IntKind.u64.wrap ((l : Int) * 2 ^ k) = ((2 ^ k * (l % 2 ^ (64 - k)) : Nat) : Int) ∧
    (H * 2 ^ k + l / 2 ^ (64 - k)) * 18446744073709551616 + 2 ^ k * (l % 2 ^ (64 - k)) = (H * 18446744073709551616 + l) * 2 ^ k ∧ l / 2 ^ (64 - k) < 2 ^ k ∧ 2 ^ k * (l % 2 ^ (64 - k)) < 18446744073709551616 := by
  have hKM : 2 ^ k * 2 ^ (64 - k) = 18446744073709551616 := by rw [← Nat.pow_add, show k + (64 - k) = 64 from by omega]
  have hM : 0 < 2 ^ (64 - k) := Nat.pow_pos (by decide)
  have hK : 0 < 2 ^ k := Nat.pow_pos (by decide)
  have e1 : ((H : Int) * 2 ^ k) = ((H * 2 ^ k : Nat) : Int) := by push_cast; rfl
  have e2 : ((l : Int) * 2 ^ k) = ((l * 2 ^ k : Nat) : Int) := by push_cast; rfl
  have e3 : ((l : Int) / 2 ^ (64 - k)) = ((l / 2 ^ (64 - k) : Nat) : Int) := by push_cast; rfl
  have ha : l / 2 ^ (64 - k) < 2 ^ k := by
    rw [Nat.div_lt_iff_lt_mul hM, hKM]; exact hl
  have hb : l % 2 ^ (64 - k) < 2 ^ (64 - k) := Nat.mod_lt _ hM
  have hlk : l * 2 ^ k = 18446744073709551616 * (l / 2 ^ (64 - k)) + 2 ^ k * (l % 2 ^ (64 - k)) := by
    have d := Nat.div_add_mod l (2 ^ (64 - k))
    calc l * 2 ^ k = (2 ^ (64 - k) * (l / 2 ^ (64 - k)) + l % 2 ^ (64 - k)) * 2 ^ k := by rw [d]
      _ = 2 ^ k * 2 ^ (64 - k) * (l / 2 ^ (64 - k)) + 2 ^ k * (l % 2 ^ (64 - k)) := by
        rw [Nat.add_mul, Nat.mul_comm (2 ^ (64 - k) * _) (2 ^ k), Nat.mul_assoc, Nat.mul_comm (l % _) (2 ^ k)]
      _ = _ := by rw [hKM]
  have hb' : 2 ^ k * (l % 2 ^ (64 - k)) < 18446744073709551616 := by
    rw [← hKM]; exact Nat.mul_lt_mul_of_pos_left hb hK
  refine ⟨?_, ?_, ?_, ha, hb'⟩
  · rw [e1, e3, IntKind.wrap_u64, Int.emod_eq_of_lt (by omega) (by omega), u64_or_nat _ _ hH (by have : 2 ^ k ≤ 18446744073709551616 := (by rw [← hKM]; exact Nat.le_mul_of_pos_right _ hM); omega)]
    rw [nat_join k _ _ (Nat.mul_mod_left _ _) ha]
  · rw [e2, IntKind.wrap_u64, hlk]
    omega
  · rw [Nat.add_mul, Nat.add_mul, hlk, Nat.mul_assoc, Nat.mul_comm (2 ^ k) 18446744073709551616, ← Nat.mul_assoc]
    omega
end Go.Proofs.YtpllckgpolhafaaGreatDoor
/- THE PLAIN MATHEMATICS of numbers of 128 bits: no Go in sight. Own work of the verifier. -/
namespace Go.Proofs.YtpllckgpolhafaaGreatDoor

def val (h l : Int) : Int := h * 18446744073709551616 + l
def hiOf (n : Int) : Int := n / 18446744073709551616
def loOf (n : Int) : Int := n % 18446744073709551616
/-- A number brought round. -/
def rnd (n : Int) : Int := (n + 170141183460469231731687303715884105728) % 340282366920938463463374607431768211456 - 170141183460469231731687303715884105728

/-- The two words of a number. -/
structure Wf (h l : Int) : Prop where
  h0 : -9223372036854775808 ≤ h
  h1 : h ≤ 9223372036854775807
  l0 : 0 ≤ l
  l1 : l < 18446744073709551616
/-- A number of 128 bits. -/
structure InR (n : Int) : Prop where
  lo : -170141183460469231731687303715884105728 ≤ n
  hi : n < 170141183460469231731687303715884105728

theorem val_hl (n : Int) : val (hiOf n) (loOf n) = n := by unfold val hiOf loOf; omega
theorem hiOf_val {h l : Int} (w : Wf h l) : hiOf (val h l) = h := by obtain ⟨_, _, _, _⟩ := w; unfold hiOf val; omega
theorem loOf_val {h l : Int} (w : Wf h l) : loOf (val h l) = l := by obtain ⟨_, _, _, _⟩ := w; unfold loOf val; omega
theorem inR_val {h l : Int} (w : Wf h l) : InR (val h l) := by obtain ⟨_, _, _, _⟩ := w; constructor <;> (unfold val; omega)
theorem inR_rnd (n : Int) : InR (rnd n) := by constructor <;> (unfold rnd; omega)
theorem wf_of {n : Int} (h : InR n) : Wf (hiOf n) (loOf n) := by obtain ⟨_, _⟩ := h; constructor <;> (simp only [hiOf, loOf]; omega)
theorem wf_rnd (n : Int) : Wf (hiOf (rnd n)) (loOf (rnd n)) := wf_of (inR_rnd n)
theorem rnd_of {n : Int} (h : InR n) : rnd n = n := by obtain ⟨_, _⟩ := h; unfold rnd; omega
theorem rnd_add_rnd (a b : Int) : rnd (rnd a + b) = rnd (a + b) := by unfold rnd; omega
theorem rnd_sub_rnd (a b : Int) : rnd (rnd a - b) = rnd (a - b) := by unfold rnd; omega
theorem rnd_sub_rnd' (a b : Int) : rnd (a - rnd b) = rnd (a - b) := by unfold rnd; omega
theorem rnd_add_rnd' (a b : Int) : rnd (a + rnd b) = rnd (a + b) := by unfold rnd; omega
/-- Two numbers are the same if and only if their words are. -/
theorem val_inj {a b c d : Int} (h : Wf a b) (k : Wf c d) : val a b = val c d ↔ a = c ∧ b = d := by
  obtain ⟨_, _, _, _⟩ := h; obtain ⟨_, _, _, _⟩ := k; unfold val; constructor
  · intro e; constructor <;> omega
  · rintro ⟨rfl, rfl⟩; rfl
theorem val_lt {a b c d : Int} (h : Wf a b) (k : Wf c d) : val a b < val c d ↔ a < c ∨ a = c ∧ b < d := by
  obtain ⟨_, _, _, _⟩ := h; obtain ⟨_, _, _, _⟩ := k; unfold val; omega

/-- Which is less? -/
def cmp (a b : Int) : Int := if a < b then -1 else if a = b then 0 else 1
end Go.Proofs.YtpllckgpolhafaaGreatDoor
/- THE PLAIN MATHEMATICS of products and of a division bit by bit (no Go in sight). Own work of the verifier. -/
namespace Go.Proofs.YtpllckgpolhafaaGreatDoor

/-- A product by halves. -/
theorem mul_halves {a b a1 a0 b1 b0 : Int} (ha : a = a1 * 4294967296 + a0) (hb : b = b1 * 4294967296 + b0) : a * b = a1 * b1 * 18446744073709551616 + (a1 * b0 + a0 * b1) * 4294967296 + a0 * b0 := by
  have e1 : a1 * 4294967296 * (b1 * 4294967296) = a1 * b1 * 18446744073709551616 := by
    rw [Int.mul_assoc, Int.mul_left_comm 4294967296 b1, ← Int.mul_assoc]; rfl
  have e2 : a1 * 4294967296 * b0 = a1 * b0 * 4294967296 := Int.mul_right_comm ..
  have e3 : a0 * (b1 * 4294967296) = a0 * b1 * 4294967296 := (Int.mul_assoc ..).symm
  rw [ha, hb, Int.add_mul, Int.mul_add, Int.mul_add, e1, e2, e3]
  generalize a1 * b1 = p; generalize a1 * b0 = q; generalize a0 * b1 = r; generalize a0 * b0 = s
  omega
theorem half_mul {x y : Int} (x0 : 0 ≤ x) (x1 : x < 4294967296) (y0 : 0 ≤ y) (y1 : y < 4294967296) : 0 ≤ x * y ∧ x * y ≤ 18446744065119617025 := by
  refine ⟨Int.mul_nonneg x0 y0, ?_⟩
  have := Int.mul_le_mul (show x ≤ 4294967295 by omega) (show y ≤ 4294967295 by omega) y0 (by omega)
  omega

/-- How far a division bit by bit has come behind k bits. -/
def upTo (N k : Nat) : Nat := N / 2 ^ (64 - k)
theorem upTo_0 (H l : Nat) (hl : l < 18446744073709551616) : upTo (H * 18446744073709551616 + l) 0 = H := by
  unfold upTo; rw [show (2 : Nat) ^ (64 - 0) = 18446744073709551616 from by decide]; omega
theorem upTo_64 (N : Nat) : upTo N 64 = N := by unfold upTo; simp
theorem upTo_succ (H l k : Nat) (hk : k < 64) : upTo (H * 18446744073709551616 + l) (k + 1) = 2 * upTo (H * 18446744073709551616 + l) k + l / 2 ^ (63 - k) % 2 := by
  unfold upTo
  have e : 64 - k = (63 - k) + 1 := by omega
  have e' : 64 - (k + 1) = 63 - k := by omega
  rw [e, e', Nat.pow_succ, ← Nat.div_div_eq_div_mul]
  have h64 : 18446744073709551616 = 2 ^ (63 - k) * (2 * 2 ^ k) := by
    rw [← Nat.pow_succ', ← Nat.pow_add, show 63 - k + (k + 1) = 64 from by omega]
  have hN : (H * 18446744073709551616 + l) / 2 ^ (63 - k) = H * (2 * 2 ^ k) + l / 2 ^ (63 - k) := by
    rw [h64, Nat.mul_left_comm, Nat.mul_add_div (Nat.pow_pos (by decide))]
  rw [hN, Nat.mul_left_comm]
  omega
theorem upTo_lt (H l k by' : Nat) (hk : k ≤ 64) (hl : l < 18446744073709551616) (hH : H < by') : upTo (H * 18446744073709551616 + l) k / by' < 2 ^ k := by
  have hb : 0 < by' := by omega
  rw [Nat.div_lt_iff_lt_mul hb]
  unfold upTo
  rw [Nat.div_lt_iff_lt_mul (Nat.pow_pos (by decide))]
  have h64 : 18446744073709551616 = 2 ^ k * 2 ^ (64 - k) := by rw [← Nat.pow_add, show k + (64 - k) = 64 from by omega]
  have : (H + 1) * 18446744073709551616 ≤ by' * 18446744073709551616 := Nat.mul_le_mul_right _ hH
  rw [Nat.mul_right_comm, ← h64, Nat.mul_comm]
  omega
theorem div_step (P b by' : Nat) (hb : 0 < by') : (2 * P + b) / by' = (if by' ≤ 2 * (P % by') + b then 1 else 0) + 2 * (P / by') ∧ (2 * P + b) % by' = (2 * (P % by') + b) - (if by' ≤ 2 * (P % by') + b then by' else 0) ∨ 2 ≤ b := by
  rcases Nat.lt_or_ge b 2 with h | h
  · left
    have d := Nat.div_add_mod P by'
    have m := Nat.mod_lt P hb
    generalize P / by' = q at *
    generalize P % by' = r at *
    subst d
    split
    · rename_i hc
      have := (Nat.div_mod_unique hb (a := 2 * (by' * q + r) + b) (d := 1 + 2 * q) (c := 2 * r + b - by')).2 ⟨by rw [Nat.mul_add, Nat.mul_left_comm]; omega, by omega⟩
      exact this
    · rename_i hc
      have := (Nat.div_mod_unique hb (a := 2 * (by' * q + r) + b) (d := 0 + 2 * q) (c := 2 * r + b - 0)).2 ⟨by rw [Nat.zero_add, Nat.mul_left_comm]; omega, by omega⟩
      exact this
  · right; exact h
end Go.Proofs.YtpllckgpolhafaaGreatDoor
/- PRODUCTS AND QUOTIENTS, the document's, once more. Own work of the verifier. -/
namespace Go.Proofs.YtpllckgpolhafaaGreatDoor
open Go.RowKit

theorem low32m (x : Int) (h0 : 0 ≤ x) (h1 : x < 18446744073709551616) : bits .and .u64 x 4294967295 = x % 4294967296 := by
  obtain ⟨n, rfl⟩ := Int.eq_ofNat_of_zero_le h0
  have := u64_and_nat n 4294967295 (by omega) (by decide)
  rw [show ((4294967295 : Nat) : Int) = 4294967295 from rfl] at this
  rw [this, nat_mask32]; omega
theorem bit_and (l j : Nat) (hl : l < 18446744073709551616) : bits .and .u64 ((l : Int) / 2 ^ j) 1 = ((l / 2 ^ j % 2 : Nat) : Int) := by
  have e : ((l : Int) / 2 ^ j) = ((l / 2 ^ j : Nat) : Int) := by push_cast; rfl
  have h := u64_and_nat (l / 2 ^ j) 1 (Nat.lt_of_le_of_lt (Nat.div_le_self _ _) hl) (by decide)
  rw [e, show (1 : Int) = ((1 : Nat) : Int) from rfl, h, nat_mask1]
theorem bit_or (r b : Nat) (hb : b < 2) : bits .or .u64 (IntKind.u64.wrap ((r : Int) * 2)) (b : Int) = IntKind.u64.wrap ((r : Int) * 2) + b := by
  have e : IntKind.u64.wrap ((r : Int) * 2) = ((r * 2 % 18446744073709551616 : Nat) : Int) := by rw [IntKind.wrap_u64]; omega
  rw [e, u64_or_nat _ _ (by omega) (by omega), nat_join 1 _ _ (by omega) (by omega)]
  omega
end Go.Proofs.YtpllckgpolhafaaGreatDoor
/- Rank, AtMost, Quantile, the document's. Own work of the verifier. -/
namespace Go.Proofs.YtpllckgpolhafaaGreatDoor
open Go.RowKit

theorem mayIs_ex (p : Int) (L : List Cn) : ∃ e, MayIs p L e := by
  by_cases hp : 1 ≤ p ∧ p ≤ 14
  · by_cases h : ∀ j, j < L.length → bad ((64 - p.toNat) * 2 ^ p.toNat) L j = 0
    · exact ⟨_, Or.inr ⟨hp, Or.inr ⟨h, rfl⟩⟩⟩
    · have : ∀ m, (∃ j, j < m ∧ j < L.length ∧ bad ((64 - p.toNat) * 2 ^ p.toNat) L j ≠ 0) → ∃ i, i < L.length ∧ (∀ j, j < i → bad ((64 - p.toNat) * 2 ^ p.toNat) L j = 0) ∧ bad ((64 - p.toNat) * 2 ^ p.toNat) L i ≠ 0 := by
        intro m
        induction m with
        | zero => rintro ⟨j, hj, _⟩; omega
        | succ m ih =>
          rintro ⟨j, hj, hl, hb⟩
          by_cases c : ∃ j, j < m ∧ j < L.length ∧ bad ((64 - p.toNat) * 2 ^ p.toNat) L j ≠ 0
          · exact ih c
          · have e : j = m := by
              by_cases h' : j < m
              · exact absurd ⟨j, h', hl, hb⟩ c
              · omega
            subst e
            refine ⟨j, hl, fun k hk => ?_, hb⟩
            by_cases h' : bad ((64 - p.toNat) * 2 ^ p.toNat) L k = 0
            · exact h'
            · exact absurd ⟨k, hk, by omega, h'⟩ c
      have hex : ∃ j, j < L.length ∧ j < L.length ∧ bad ((64 - p.toNat) * 2 ^ p.toNat) L j ≠ 0 := by
        apply Classical.byContradiction
        intro hn
        exact h fun j hj => Classical.byContradiction fun hb => hn ⟨j, hj, hj, hb⟩
      obtain ⟨i, h1, h2, h3⟩ := this _ hex
      exact ⟨_, Or.inr ⟨hp, Or.inl ⟨i, h1, h2, h3, rfl⟩⟩⟩
  · exact ⟨1, Or.inl ⟨hp, rfl⟩⟩
/-- The rank of a quantile. -/
def rkN (n num den : Nat) : Nat := max (if 0 < n * num % den then n * num / den + 1 else n * num / den) 1
abbrev twoU (a e : Int) : Ending := .returned (.tuple #[.int .u64 a, .int .i64 e])
theorem twoU_of {a b e : Int} (h : a = b) : twoU a e = twoU b e := by rw [h]
theorem rkN_le {n num den : Nat} (h1 : 1 ≤ n) (h2 : num ≤ den) (h3 : 1 ≤ den) : rkN n num den ≤ n ∧ n * num / den ≤ n ∧ (0 < n * num % den → n * num / den + 1 ≤ n) := by
  have hm : n * num ≤ n * den := Nat.mul_le_mul_left _ h2
  have hd := Nat.div_add_mod (n * num) den
  have hlt := Nat.mod_lt (n * num) (show den > 0 by omega)
  have a1 : n * num / den ≤ n := Nat.div_le_of_le_mul (by rw [Nat.mul_comm den]; exact hm)
  have a2 : 0 < n * num % den → n * num / den + 1 ≤ n := by
    intro h
    have : n * num / den < n := by
      rw [Nat.div_lt_iff_lt_mul (by omega)]
      rcases Nat.lt_or_ge (n * num) (n * den) with c | c
      · exact c
      · exfalso
        have e : n * num = n * den := by omega
        rw [e, Nat.mul_mod_left] at h
        omega
    omega
  refine ⟨?_, a1, a2⟩
  unfold rkN
  split
  · rename_i h; have := a2 h; omega
  · omega
/-- What the document's Rank tells. -/
def rkF (n : Nat) (num den : Int) : Nat × Int := if 1 ≤ den ∧ 0 ≤ num ∧ num ≤ den then (if n = 0 then (0, 16) else (rkN n num.toNat den.toNat, 0)) else (0, 1)
end Go.Proofs.YtpllckgpolhafaaGreatDoor
/- exact and less: the law's own. Own work of the verifier. -/
namespace Go.Proofs.YtpllckgpolhafaaGreatDoor
open Go.RowKit

theorem half_lt {a x : Nat} (ha : a ≤ 2147483648) (hx : x < 4294967296) : a * x < 9223372036854775808 := by
  have : a * x ≤ 2147483648 * 4294967295 := Nat.mul_le_mul ha (by omega)
  omega
end Go.Proofs.YtpllckgpolhafaaGreatDoor
/- exact: the law's own. Own work of the verifier. -/
namespace Go.Proofs.YtpllckgpolhafaaGreatDoor
open Go.RowKit

theorem rkN_exact (n num den : Nat) (h3 : 1 ≤ den) : n * num ≤ rkN n num den * den ∧ (rkN n num den = 1 ∨ ¬ n * num ≤ (rkN n num den - 1) * den) := by
  have hd := Nat.div_add_mod (n * num) den
  have hm := Nat.mod_lt (n * num) (show den > 0 by omega)
  unfold rkN
  generalize n * num / den = q at *
  generalize n * num % den = r at *
  rw [Nat.mul_comm] at hd
  by_cases h : 0 < r
  · rw [if_pos h, Nat.max_eq_left (by omega)]
    refine ⟨by rw [Nat.add_mul]; omega, Or.inr ?_⟩
    rw [Nat.add_sub_cancel]
    omega
  · rw [if_neg h]
    rcases Nat.eq_zero_or_pos q with e | e
    · subst e
      exact ⟨by simp; omega, Or.inl rfl⟩
    · rw [Nat.max_eq_left e]
      refine ⟨by omega, ?_⟩
      by_cases e1 : q = 1
      · exact Or.inl e1
      · right
        rw [Nat.sub_mul]
        have : den ≤ q * den := Nat.le_mul_of_pos_left _ e
        omega
end Go.Proofs.YtpllckgpolhafaaGreatDoor
/- AtMost, Quantile, the document's. Own work of the verifier. -/
namespace Go.Proofs.YtpllckgpolhafaaGreatDoor
open Go.RowKit

theorem below_drew (w : World) (n : Nat) : Below w.heap.size w (w.drewN n) := by
  induction n with
  | zero => exact Below.refl _ _
  | succ n ih => exact ih.drew
/-- The greatest value of a bucket. -/
def hiV (p i : Nat) : Nat := lo (2 ^ p) i + 2 ^ kk (2 ^ p) i - 1
def amN (p : Nat) (L : List Cn) (v : Int) : Nat := (L.map fun c => if (hiV p c.1.toNat : Int) ≤ v then c.2 else 0).sum
theorem amN_take (p : Nat) (L : List Cn) (v : Int) (i : Nat) (h : i < L.length) : amN p (L.take (i + 1)) v = amN p (L.take i) v + (if (hiV p L[i].1.toNat : Int) ≤ v then L[i].2 else 0) := by
  unfold amN
  rw [List.take_succ_eq_append_getElem h, List.map_append, List.sum_append]
  simp
theorem amN_le (p : Nat) (L : List Cn) (v : Int) : amN p L v ≤ sumN L := by
  unfold amN sumN
  induction L with
  | nil => simp
  | cons c L ih =>
    simp only [List.map_cons, List.sum_cons]
    split <;> omega
theorem sumN_mono (L : List Cn) (i : Nat) : sumN (L.take i) ≤ sumN L := by
  unfold sumN
  induction L generalizing i with
  | nil => simp
  | cons c L ih =>
    cases i with
    | zero => simp
    | succ i => have := ih i; simp only [List.take_succ_cons, List.map_cons, List.sum_cons]; omega
/-- Counts that may be. -/
theorem may_ok {p : Int} {L : List Cn} (h : MayIs p L 0) : (1 ≤ p ∧ p ≤ 14) ∧ sumN L ≤ 9223372036854775807 ∧ ∀ i (hi : i < L.length), 0 ≤ L[i].1 ∧ L[i].1 < (((64 - p.toNat) * 2 ^ p.toNat : Nat) : Int) ∧ L[i].2 ≠ 0 := by
  rcases h with ⟨_, h⟩ | ⟨hp, h⟩
  · exact absurd h (by decide)
  · rcases h with ⟨i, _, _, h3, h4⟩ | ⟨h1, h2⟩
    · exact absurd h4.symm h3
    · refine ⟨hp, ?_, fun i hi => ?_⟩
      · by_cases c : 9223372036854775807 < sumN L
        · rw [if_pos c] at h2; exact absurd h2 (by decide)
        · omega
      · have hb := h1 i hi
        unfold bad at hb
        rw [show L.getD i (0, 1) = L[i] from by simp [List.getD, hi]] at hb
        by_cases c1 : L[i].1 < 0 ∨ (((64 - p.toNat) * 2 ^ p.toNat : Nat) : Int) ≤ L[i].1
        · rw [if_pos c1] at hb; exact absurd hb (by decide)
        · rw [if_neg c1] at hb
          by_cases c2 : 0 < i ∧ L[i].1 ≤ (L.getD (i - 1) (0, 1)).1
          · rw [if_pos c2] at hb; exact absurd hb (by decide)
          · rw [if_neg c2] at hb
            by_cases c3 : L[i].2 = 0
            · rw [if_pos c3] at hb; exact absurd hb (by decide)
            · exact ⟨by omega, by omega, c3⟩
end Go.Proofs.YtpllckgpolhafaaGreatDoor
/- Quantile, the document's. Own work of the verifier. -/
namespace Go.Proofs.YtpllckgpolhafaaGreatDoor
open Go.RowKit

theorem atF_ok : ∀ (L : List Cn) (r : Nat), 1 ≤ r → r ≤ sumN L → ∃ c ∈ L, atF L r = (c.1, 0)
  | [], r, h1, h2 => by simp [sumN] at h2; omega
  | c :: L, r, h1, h2 => by
    simp only [atF]
    rw [if_neg (by omega)]
    by_cases h : r ≤ c.2
    · rw [if_pos h]; exact ⟨c, by simp, rfl⟩
    · rw [if_neg h]
      have : sumN (c :: L) = c.2 + sumN L := by simp [sumN]
      obtain ⟨d, hd, he⟩ := atF_ok L (r - c.2) (by omega) (by omega)
      exact ⟨d, by simp [hd], he⟩
theorem bt {w W W1 : World} (h : Below w.heap.size w W) (k : Below W.heap.size W W1) : Below w.heap.size w W1 := h.trans (k.mono h.size)
theorem tot_sum {L : List Cn} (h : sumN L ≤ 9223372036854775807) : tot L = sumN L := Nat.mod_eq_of_lt (by show sumN L < _; omega)
/-- What the document's Quantile tells of counts that may be. -/
def qF (p : Nat) (L : List Cn) (num den : Int) : Int × Int := if (rkF (sumN L) num den).2 = 0 then ((hiV p (atF L (rkF (sumN L) num den).1).1.toNat : Nat), 0) else (0, (rkF (sumN L) num den).2)
theorem rkF_ok {n : Nat} {num den : Int} (h : (rkF n num den).2 = 0) : 1 ≤ (rkF n num den).1 ∧ (rkF n num den).1 ≤ n := by
  unfold rkF at *
  by_cases h1 : 1 ≤ den ∧ 0 ≤ num ∧ num ≤ den
  · rw [if_pos h1] at h ⊢
    by_cases h0 : n = 0
    · rw [if_pos h0] at h; exact absurd h (by decide)
    · rw [if_neg h0]
      refine ⟨?_, (rkN_le (by omega) (by omega) (by omega)).1⟩
      show 1 ≤ rkN _ _ _
      unfold rkN
      omega
  · rw [if_neg h1] at h; exact absurd h (by decide)
end Go.Proofs.YtpllckgpolhafaaGreatDoor
/- ROWS OF COUNTS that grow. Own work of the verifier. -/
namespace Go.Proofs.YtpllckgpolhafaaGreatDoor
open Go.RowKit

/-- The cells of counts. -/
def fl : List Cn → List Value
  | [] => []
  | c :: L => .int .i64 c.1 :: .int .u64 (c.2 : Int) :: fl L
theorem fl_length (L : List Cn) : (fl L).length = L.length * 2 := by
  induction L with
  | nil => rfl
  | cons c L ih => simp only [fl, List.length_cons, ih]; omega
theorem fl_append (A B : List Cn) : fl (A ++ B) = fl A ++ fl B := by
  induction A with
  | nil => rfl
  | cons c A ih => simp only [List.cons_append, fl, ih]
theorem fl_get (L : List Cn) (i : Nat) (h : i < L.length) : (fl L)[i * 2]? = some (.int .i64 L[i].1) ∧ (fl L)[i * 2 + 1]? = some (.int .u64 (L[i].2 : Int)) := by
  induction L generalizing i with
  | nil => simp at h
  | cons c L ih =>
    cases i with
    | zero => exact ⟨rfl, rfl⟩
    | succ i =>
      have := ih i (by simpa using h)
      rw [show (i + 1) * 2 = i * 2 + 2 by omega]
      simpa [fl] using this
theorem fl_one (L : List Cn) : ∀ u ∈ fl L, u.oneCell' = true := by
  induction L with
  | nil => intro u hu; cases hu
  | cons c L ih =>
    intro u hu
    simp only [fl, List.mem_cons] at hu
    rcases hu with rfl | rfl | h
    · rfl
    · rfl
    · exact ih u h
/-- What a row holds, cell by cell. -/
theorem RowC.cells {w : World} {b o : Nat} {L : List Cn} (h : RowC w b o L) (j : Nat) (u : Value) (hu : (fl L)[j]? = some u) : w.cell? ((⟨b, o, none⟩ : Addr).add j) = some u := by
  have hj : j < (fl L).length := by
    rcases Nat.lt_or_ge j (fl L).length with c | c
    · exact c
    · rw [List.getElem?_eq_none c] at hu; cases hu
  rw [fl_length] at hj
  rw [Addr.add_lit]
  have hi : j / 2 < L.length := by omega
  obtain ⟨g1, g2⟩ := fl_get L (j / 2) hi
  obtain ⟨r1, r2⟩ := h (j / 2) hi
  rcases Nat.mod_two_eq_zero_or_one j with e | e
  · rw [show j / 2 * 2 = j by omega] at g1 r1
    rw [g1] at hu
    rw [← hu]
    exact r1
  · rw [show j / 2 * 2 + 1 = j by omega] at g2
    rw [show o + j / 2 * 2 + 1 = o + j by omega] at r2
    rw [g2] at hu
    rw [← hu]
    exact r2
/-- A row of counts of the call's own that grows. -/
structure GC (B : Nat) (W0 : World) (v : Value) (xs : List Cn) (w : World) : Prop where
  own : w.ownsRow B 149 2 v xs.length (fl xs)
  below : Below B W0 w
  size : B ≤ w.heap.size
theorem infoC : (Tryz.prog.info? 149).map (fun i => (i.zero, i.size, i.bytes)) = some (some (.agg #[.int .i64 0, .int .u64 0]), 2, 16) := by kernel_rfl
/-- A slice that holds counts. -/
def SC (w : World) (v : Value) (L : List Cn) : Prop := ∃ ao b o cap, v = .slice ao L.length cap ∧ (L ≠ [] → ao = some ⟨b, o, none⟩) ∧ RowC w b o L
theorem GC.sc {B : Nat} {W0 w : World} {v : Value} {xs : List Cn} (h : GC B W0 v xs w) : SC w v xs := by
  obtain ⟨hl, h2⟩ := h.own
  rcases h2 with ⟨rfl, hn⟩ | ⟨g, cap, cur, rfl, hg, hh, hc, hm, hs, ht⟩
  · have : xs = [] := List.length_eq_zero_iff.1 hn
    subst this
    exact ⟨none, 0, 0, 0, rfl, fun k => absurd rfl k, fun i hi => by simp at hi⟩
  · refine ⟨some ⟨g, 0, none⟩, g, 0, cap, rfl, fun _ => rfl, fun i hi => ?_⟩
    obtain ⟨g1, g2⟩ := fl_get xs i hi
    have key : ∀ j u, (fl xs)[j]? = some u → w.cell? ⟨g, 0 + j, none⟩ = some u := fun j u hu => by
      rw [← ht] at hu
      rw [List.getElem?_take] at hu
      unfold World.cell?
      rw [hh]
      split at hu
      · simpa using hu
      · cases hu
    exact ⟨key _ _ g1, by have := key _ _ g2; rw [← Nat.add_assoc] at this; exact this⟩
theorem SC.below {w w1 : World} {v : Value} {L : List Cn} (h : SC w v L) (hb : Below w.heap.size w w1) : SC w1 v L := by
  obtain ⟨ao, b, o, cap, h1, h2, h3⟩ := h
  exact ⟨ao, b, o, cap, h1, h2, h3.below hb (fun k => h3.lt k)⟩
end Go.Proofs.YtpllckgpolhafaaGreatDoor
