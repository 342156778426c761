/- THE SCALING OF THE LIBRARY's FLOAT TEXTS. Own work of the verifier. -/
import Derived.Test.YtmejmohambhaaaaGreatDoorL1
import Derived.Test.YtmejmohambhaaaaGreatDoorShelf
import Derived.Laws.ShiftsVarLaws
import Derived.Deep.RegionWith
import Derived.Deep.RegionHeld3
namespace Go.Proofs.YtmejmohambhaaaaGreatDoor
open Go.RowKit

/-- What the library's scaling answers: x times the 128 bits that (hi, lo) stand for, shifted, with a last bit that tells whether anything was cut off. -/
def usc (x hi lo s : Nat) : Nat :=
  if x * hi / 18446744073709551616 / 2 ^ s * 2 ^ s = x * hi / 18446744073709551616 then
    ((x * hi / 18446744073709551616 + 18446744073709551616 - b2n (decide (x * hi % 18446744073709551616 < x * lo / 18446744073709551616))) % 18446744073709551616 / 2 ^ s) ||| b2n (decide (1 < (x * hi % 18446744073709551616 + 18446744073709551616 - x * lo / 18446744073709551616) % 18446744073709551616))
  else (x * hi / 18446744073709551616 / 2 ^ s) ||| 1

theorem and63 (s : Int) : bits .and .i64 s 63 = ((s % 64).toNat : Int) := by
  show IntKind.i64.wrap ((BitVec.ofInt 64 s &&& BitVec.ofInt 64 ((63 : Nat) : Int)).toNat : Int) = _
  rw [BitVec.toNat_and, ofInt_u64 _ (by decide), BitVec.toNat_ofInt, show (63 : Nat) = 2 ^ 6 - 1 from by decide, Nat.and_two_pow_sub_one_eq_mod, IntKind.wrap_i64]
  omega
theorem b2n_le (b : Bool) : b2n b ≤ 1 := by cases b <;> decide
theorem or_lt {a b : Nat} (ha : a < 18446744073709551616) (hb : b < 18446744073709551616) : a ||| b < 18446744073709551616 := Nat.or_lt_two_pow (n := 64) ha hb
theorem usc_lt (x hi lo s : Nat) (hx : x < 18446744073709551616) (hhi : hi < 18446744073709551616) : usc x hi lo s < 18446744073709551616 := by
  have hA : x * hi / 18446744073709551616 < 18446744073709551616 := Nat.div_lt_of_lt_mul (Nat.mul_lt_mul'' hx hhi)
  unfold usc
  split
  · exact or_lt (Nat.lt_of_le_of_lt (Nat.div_le_self _ _) (Nat.mod_lt _ (by decide))) (by have := b2n_le (decide (1 < (x * hi % 18446744073709551616 + 18446744073709551616 - x * lo / 18446744073709551616) % 18446744073709551616)); omega)
  · exact or_lt (Nat.lt_of_le_of_lt (Nat.div_le_self _ _) hA) (by decide)
theorem div_cast (a n : Nat) : (a : Int) / 2 ^ n = ((a / 2 ^ n : Nat) : Int) := by rw [Int.natCast_ediv, Int.natCast_pow]; rfl
theorem mul_cast (a n : Nat) : (a : Int) * 2 ^ n = ((a * 2 ^ n : Nat) : Int) := by rw [Int.natCast_mul, Int.natCast_pow]; rfl
set_option maxHeartbeats 400000 in
theorem uscale_any (x hi lo : Nat) (s : Int) (hx : x < 18446744073709551616) (hhi : hi < 18446744073709551616) (hlo : lo < 18446744073709551616) (g : Nat) (w : World)
    (c0 : w.cell? ⟨g, 0, none⟩ = some (.int .u64 (hi : Int))) (c1 : w.cell? ⟨g, 1, none⟩ = some (.int .u64 (lo : Int))) (c2 : w.cell? ⟨g, 2, none⟩ = some (.int .i64 s)) :
    Calls Tryz.prog 95 #[.int .u64 (x : Int), .pointer (some ⟨g, 0, none⟩)] w fun e w' => e = .returned (.int .u64 ((usc x hi lo (s % 64).toNat : Nat) : Int)) ∧ Below w.heap.size w w' := by
  have h63 := and63 s
  have hs : (s % 64).toNat < 64 := by omega
  generalize (s % 64).toNat = n at *
  have HM1 : Hid _ := Tryz.bits_Mul64 x hi hx hhi
  have HM2 : Hid _ := Tryz.bits_Mul64 x lo hx hlo
  have hA : x * hi / 18446744073709551616 < 18446744073709551616 := Nat.div_lt_of_lt_mul (Nat.mul_lt_mul'' hx hhi)
  have hB : x * hi % 18446744073709551616 < 18446744073709551616 := Nat.mod_lt _ (by decide)
  have hC : x * lo / 18446744073709551616 < 18446744073709551616 := Nat.div_lt_of_lt_mul (Nat.mul_lt_mul'' hx hlo)
  unfold usc
  generalize x * hi / 18446744073709551616 = A at *
  generalize x * hi % 18446744073709551616 = B at *
  generalize x * lo / 18446744073709551616 = C at *
  generalize x * lo % 18446744073709551616 = C' at *
  have hq := div_cast A n
  have hQ : A / 2 ^ n ≤ A := Nat.div_le_self _ _
  have hr := mul_cast (A / 2 ^ n) n
  have hR : A / 2 ^ n * 2 ^ n ≤ A := Nat.div_mul_le_self _ _
  by_cases hE : A / 2 ^ n * 2 ^ n = A
  · rw [if_pos hE]
    have hH1 : (A + 18446744073709551616 - b2n (decide (B < C))) % 18446744073709551616 < 18446744073709551616 := Nat.mod_lt _ (by decide)
    have hD1 : (B + 18446744073709551616 - C) % 18446744073709551616 < 18446744073709551616 := Nat.mod_lt _ (by decide)
    have hb := b2n_le (decide (B < C))
    have hH : IntKind.u64.wrap ((A : Int) - ((b2n (decide (B < C)) : Nat) : Int)) = (((A + 18446744073709551616 - b2n (decide (B < C))) % 18446744073709551616 : Nat) : Int) := by
      rw [IntKind.wrap_u64]; omega
    have hD : IntKind.u64.wrap ((B : Int) - (C : Int)) = (((B + 18446744073709551616 - C) % 18446744073709551616 : Nat) : Int) := by rw [IntKind.wrap_u64]; omega
    generalize (A + 18446744073709551616 - b2n (decide (B < C))) % 18446744073709551616 = H at *
    generalize (B + 18446744073709551616 - C) % 18446744073709551616 = D at *
    clear hb
    have hq2 := div_cast H n
    have hQ2 : H / 2 ^ n ≤ H := Nat.div_le_self _ _
    have hor := u64_or_nat (H / 2 ^ n) (b2n (decide (1 < D))) (by omega) (by have := b2n_le (decide (1 < D)); omega)
    rw [show b2n (decide (1 < D)) = b2n (decide ((1 : Int) < (D : Int))) from by congr 2; exact propext (by omega)] at hor ⊢
    have hc : (IntKind.u64.wrap ((A / 2 ^ n * 2 ^ n : Nat) : Int) != (A : Int)) = false := by rw [hE, IntKind.wrap_u64, bne_eq_false_iff_eq]; omega
    clear hE hR hQ hQ2
    generalize A / 2 ^ n * 2 ^ n = R at *
    generalize A / 2 ^ n = Q at *
    generalize H / 2 ^ n = Q2 at *
    go_enter Tryz.func95, Tryz.ntmps95
    go_wp2_with (first
      | (go_at_call 128; (first | (with_reducible refine (HM1.out _).mono ?_) | (with_reducible refine (HM2.out _).mono ?_)); rintro e w' ⟨rfl, rfl⟩)
      | (go_at_call 119; with_reducible refine (bool2_u64 _ _).mono ?_; rintro e w' ⟨rfl, rfl⟩))
    go_region_with (go_at_call 119; with_reducible refine (bool2_u64 _ _).mono ?_; rintro e w' ⟨rfl, rfl⟩)
    all_goals
      go_wp2
      go_ret
      exact ⟨rfl, Below.drewN' (Below.refl _ _) _⟩
  · rw [if_neg hE]
    have hor := u64_or_nat (A / 2 ^ n) 1 (by omega) (by decide)
    rw [show ((1 : Nat) : Int) = 1 from rfl] at hor
    have hc : (IntKind.u64.wrap ((A / 2 ^ n * 2 ^ n : Nat) : Int) != (A : Int)) = true := by rw [IntKind.wrap_u64, bne_iff_ne]; omega
    clear hE hR hQ
    generalize A / 2 ^ n * 2 ^ n = R at *
    generalize A / 2 ^ n = Q at *
    go_enter Tryz.func95, Tryz.ntmps95
    go_wp2_with (first
      | (go_at_call 128; (first | (with_reducible refine (HM1.out _).mono ?_) | (with_reducible refine (HM2.out _).mono ?_)); rintro e w' ⟨rfl, rfl⟩)
      | (go_at_call 119; with_reducible refine (bool2_u64 _ _).mono ?_; rintro e w' ⟨rfl, rfl⟩))
    go_ret
    exact ⟨rfl, Below.refl _ _⟩
end Go.Proofs.YtmejmohambhaaaaGreatDoor
