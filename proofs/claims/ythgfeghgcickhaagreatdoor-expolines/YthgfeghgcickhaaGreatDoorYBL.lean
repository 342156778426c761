/- THE LEAVES OF THE LIBRARY's FLOAT TEXTS: logarithms, what is unrounded, the scaling. Own work of the verifier. -/
import Derived.Test.YthgfeghgcickhaaGreatDoorRows
import Derived.WalkKit
import Derived.WalkSpells
import Derived.RowKit3
import Derived.Below
import Derived.Laws.Externs
import Derived.Outline
import Derived.Deep.QuietTactic
import Derived.BigQuiet
import Derived.Laws.Bits64
import Derived.Laws.BitsAllLaws
import Derived.Test.YthgfeghgcickhaaGreatDoorShelf
import Derived.Laws.ShiftsVarLaws
import Derived.Deep.RegionWith
import Derived.Deep.RegionHeld3
namespace Go.Proofs.YthgfeghgcickhaaGreatDoor.Rl
open Go.RowKit

theorem bcell {W w1 : World} (hb : Below W.heap.size W w1) : (∀ b o, b < W.heap.size → w1.cell? ⟨b, o, none⟩ = W.cell? ⟨b, o, none⟩) ∧ (∀ b o, b < W.heap.size → w1.frozen? ⟨b, o, none⟩ = W.frozen? ⟨b, o, none⟩) :=
  ⟨fun b o h => hb.cell (p := ⟨b, o, none⟩) h, fun b o h => hb.frozen (p := ⟨b, o, none⟩) h⟩
theorem Below.drewN' {B : Nat} {a w : World} (h : Below B a w) (n : Nat) : Below B a (w.drewN n) := by
  induction n with
  | zero => exact h
  | succ n ih => exact ⟨ih.os, ih.tape, ih.output, ih.size, ih.block⟩
theorem bel1 (w : World) (o1 : Obj) : Below w.heap.size w (w.alloc o1) := (Below.refl _ _).alloc (Nat.le_refl _) _
theorem bel2 (w : World) (o1 o2 : Obj) : Below w.heap.size w ((w.alloc o1).alloc o2) :=
  ((Below.refl _ _).alloc (Nat.le_refl _) _).alloc (by simp) _
theorem retI {k : IntKind} {A B : Int} (h : A = B) : Ending.returned (Value.int k A) = .returned (.int k B) := by rw [h]
/-- The logarithm of 2^x to the base of ten, as the library has it. -/
def l10 (x : Int) : Int := x * 78913 / 262144
/-- .. of 10^x to the base of two. -/
def l2 (x : Int) : Int := x * 108853 / 32768
def skw (x : Int) : Int := (x * 631305 - 261663) / 2097152

theorem log10Pow2_any (x : Int) (h0 : -100000 ≤ x) (h1 : x ≤ 100000) (w : World) :
    Calls Tryz.prog 97 #[.int .i64 x] w fun e w' => e = .returned (.int .i64 (l10 x)) ∧ w' = w := by
  go_enter Tryz.func97, Tryz.ntmps97
  go_wp2
  go_ret
  exact ⟨rfl, rfl⟩
theorem log2Pow10_any (x : Int) (h0 : -100000 ≤ x) (h1 : x ≤ 100000) (w : World) :
    Calls Tryz.prog 169 #[.int .i64 x] w fun e w' => e = .returned (.int .i64 (l2 x)) ∧ w' = w := by
  go_enter Tryz.func169, Tryz.ntmps169
  go_wp2
  go_ret
  exact ⟨rfl, rfl⟩
theorem skewed_any (x : Int) (h0 : -100000 ≤ x) (h1 : x ≤ 100000) (w : World) :
    Calls Tryz.prog 167 #[.int .i64 x] w fun e w' => e = .returned (.int .i64 (skw x)) ∧ w' = w := by
  go_enter Tryz.func167, Tryz.ntmps167
  go_wp2
  go_ret
  exact ⟨rfl, rfl⟩
def b2n (b : Bool) : Nat := if b then 1 else 0
theorem bool2_u64 (b : Bool) (w : World) :
    Calls Tryz.prog 185 #[.bool b] w fun e w' => e = .returned (.int .u64 (b2n b : Nat)) ∧ w' = w := by
  cases b
  all_goals
    go_enter Tryz.func185, Tryz.ntmps185
    go_wp2
    go_ret
    exact ⟨rfl, rfl⟩
theorem ceil_any (u : Nat) (_h : u < 18446744073709551616) (w : World) :
    Calls Tryz.prog 172 #[.int .u64 (u : Int)] w fun e w' => e = .returned (.int .u64 (((u + 3) % 18446744073709551616 / 4 : Nat) : Int)) ∧ w' = w := by
  go_enter Tryz.func172, Tryz.ntmps172
  go_wp2
  go_ret
  exact ⟨retI (by first | omega | (simp only [IntKind.wrap_u64]; omega)), rfl⟩
theorem floor_any (u : Nat) (h : u < 18446744073709551616) (w : World) :
    Calls Tryz.prog 173 #[.int .u64 (u : Int)] w fun e w' => e = .returned (.int .u64 ((u / 4 : Nat) : Int)) ∧ w' = w := by
  go_enter Tryz.func173, Tryz.ntmps173
  go_wp2
  go_ret
  exact ⟨retI (by first | omega | (simp only [IntKind.wrap_u64, IntKind.wrap_i64]; omega)), rfl⟩
theorem nudge_up (u d : Nat) (_h : u < 18446744073709551616) (hd : d ≤ 1) (w : World) :
    Calls Tryz.prog 171 #[.int .u64 (u : Int), .int .i64 (d : Int)] w fun e w' => e = .returned (.int .u64 (((u + d) % 18446744073709551616 : Nat) : Int)) ∧ w' = w := by
  go_enter Tryz.func171, Tryz.ntmps171
  go_wp2
  go_ret
  exact ⟨retI (by first | omega | (simp only [IntKind.wrap_u64]; omega)), rfl⟩
theorem nudge_down (u d : Nat) (h : u < 18446744073709551616) (hd : d ≤ 1) (w : World) :
    Calls Tryz.prog 171 #[.int .u64 (u : Int), .int .i64 (-(d : Int))] w fun e w' => e = .returned (.int .u64 (((u + 18446744073709551616 - d) % 18446744073709551616 : Nat) : Int)) ∧ w' = w := by
  obtain ⟨D, hD⟩ : ∃ D : Int, D = -(d : Int) := ⟨_, rfl⟩
  rw [← hD]
  go_enter Tryz.func171, Tryz.ntmps171
  go_wp2
  all_goals
    go_ret
    exact ⟨retI (by first | omega | (simp only [IntKind.wrap_u64]; omega)), rfl⟩
theorem and_one (n : Nat) (h : n < 18446744073709551616) : bits .and .u64 (n : Int) 1 = ((n % 2 : Nat) : Int) := by
  have := u64_and_nat n 1 h (by decide)
  rw [show ((1 : Nat) : Int) = 1 from rfl] at this
  rw [this, show (1 : Nat) = 2 ^ 1 - 1 from by decide, Nat.and_two_pow_sub_one_eq_mod]
theorem round_any (u : Nat) (h : u < 18446744073709551616) (w : World) :
    Calls Tryz.prog 174 #[.int .u64 (u : Int)] w fun e w' => e = .returned (.int .u64 (((u + 1 + u / 4 % 2) % 18446744073709551616 / 4 : Nat) : Int)) ∧ w' = w := by
  have h1 := and_one (u / 4) (by omega)
  rw [show ((u / 4 : Nat) : Int) = (u : Int) / 4 from by omega] at h1
  go_enter Tryz.func174, Tryz.ntmps174
  go_wp2
  go_ret
  refine ⟨retI ?_, rfl⟩
  simp only [IntKind.wrap_u64]
  have hq : ((u / 4 % 2 : Nat) : Int) = (u : Int) / 4 % 2 := by omega
  rw [← hq]
  have : u / 4 % 2 < 2 := by omega
  clear h1 hq
  generalize u / 4 % 2 = q at *
  omega
end Go.Proofs.YthgfeghgcickhaaGreatDoor.Rl
/- THE SCALING OF THE LIBRARY's FLOAT TEXTS. Own work of the verifier. -/
namespace Go.Proofs.YthgfeghgcickhaaGreatDoor.Rl
open Go.RowKit

/-- What the library's scaling answers: x times the 128 bits that (hi, lo) stand for, shifted, with a last bit that tells whether anything was cut off. -/
def usc (x hi lo s : Nat) : Nat :=
  if x * hi / 18446744073709551616 / 2 ^ s * 2 ^ s = x * hi / 18446744073709551616 then
    ((x * hi / 18446744073709551616 + 18446744073709551616 - b2n (decide (x * hi % 18446744073709551616 < x * lo / 18446744073709551616))) % 18446744073709551616 / 2 ^ s) ||| b2n (decide (1 < (x * hi % 18446744073709551616 + 18446744073709551616 - x * lo / 18446744073709551616) % 18446744073709551616))
  else (x * hi / 18446744073709551616 / 2 ^ s) ||| 1

theorem and63 (s : Int) : bits .and .i64 s 63 = ((s % 64).toNat : Int) := by
  show IntKind.i64.wrap ((BitVec.ofInt 64 s &&& BitVec.ofInt 64 ((63 : Nat) : Int)).toNat : Int) = _
  rw [BitVec.toNat_and, ofInt_u64 _ (by decide), BitVec.toNat_ofInt, show (63 : Nat) = 2 ^ 6 - 1 from by decide, Nat.and_two_pow_sub_one_eq_mod, IntKind.wrap_i64]
  omega
theorem b2n_le (b : Bool) : b2n b ≤ 1 := by cases b <;> decide
theorem or_lt {a b : Nat} (ha : a < 18446744073709551616) (hb : b < 18446744073709551616) : a ||| b < 18446744073709551616 := Nat.or_lt_two_pow (n := 64) ha hb
theorem usc_lt (x hi lo s : Nat) (hx : x < 18446744073709551616) (hhi : hi < 18446744073709551616) : usc x hi lo s < 18446744073709551616 := by
  have hA : x * hi / 18446744073709551616 < 18446744073709551616 := Nat.div_lt_of_lt_mul (Nat.mul_lt_mul'' hx hhi)
  unfold usc
  split
  · exact or_lt (Nat.lt_of_le_of_lt (Nat.div_le_self _ _) (Nat.mod_lt _ (by decide))) (by have := b2n_le (decide (1 < (x * hi % 18446744073709551616 + 18446744073709551616 - x * lo / 18446744073709551616) % 18446744073709551616)); omega)
  · exact or_lt (Nat.lt_of_le_of_lt (Nat.div_le_self _ _) hA) (by decide)
theorem div_cast (a n : Nat) : (a : Int) / 2 ^ n = ((a / 2 ^ n : Nat) : Int) := by rw [Int.natCast_ediv, Int.natCast_pow]; rfl
theorem mul_cast (a n : Nat) : (a : Int) * 2 ^ n = ((a * 2 ^ n : Nat) : Int) := by rw [Int.natCast_mul, Int.natCast_pow]; rfl
set_option maxHeartbeats 400000 in
theorem uscale_any (x hi lo : Nat) (s : Int) (hx : x < 18446744073709551616) (hhi : hi < 18446744073709551616) (hlo : lo < 18446744073709551616) (g : Nat) (w : World)
    (c0 : w.cell? ⟨g, 0, none⟩ = some (.int .u64 (hi : Int))) (c1 : w.cell? ⟨g, 1, none⟩ = some (.int .u64 (lo : Int))) (c2 : w.cell? ⟨g, 2, none⟩ = some (.int .i64 s)) :
    Calls Tryz.prog 170 #[.int .u64 (x : Int), .pointer (some ⟨g, 0, none⟩)] w fun e w' => e = .returned (.int .u64 ((usc x hi lo (s % 64).toNat : Nat) : Int)) ∧ Below w.heap.size w w' := by
  have h63 := and63 s
  have hs : (s % 64).toNat < 64 := by omega
  generalize (s % 64).toNat = n at *
  have HM1 : Hid _ := Tryz.bits_Mul64 x hi hx hhi
  have HM2 : Hid _ := Tryz.bits_Mul64 x lo hx hlo
  have hA : x * hi / 18446744073709551616 < 18446744073709551616 := Nat.div_lt_of_lt_mul (Nat.mul_lt_mul'' hx hhi)
  have hB : x * hi % 18446744073709551616 < 18446744073709551616 := Nat.mod_lt _ (by decide)
  have hC : x * lo / 18446744073709551616 < 18446744073709551616 := Nat.div_lt_of_lt_mul (Nat.mul_lt_mul'' hx hlo)
  unfold usc
  generalize x * hi / 18446744073709551616 = A at *
  generalize x * hi % 18446744073709551616 = B at *
  generalize x * lo / 18446744073709551616 = C at *
  generalize x * lo % 18446744073709551616 = C' at *
  have hq := div_cast A n
  have hQ : A / 2 ^ n ≤ A := Nat.div_le_self _ _
  have hr := mul_cast (A / 2 ^ n) n
  have hR : A / 2 ^ n * 2 ^ n ≤ A := Nat.div_mul_le_self _ _
  by_cases hE : A / 2 ^ n * 2 ^ n = A
  · rw [if_pos hE]
    have hH1 : (A + 18446744073709551616 - b2n (decide (B < C))) % 18446744073709551616 < 18446744073709551616 := Nat.mod_lt _ (by decide)
    have hD1 : (B + 18446744073709551616 - C) % 18446744073709551616 < 18446744073709551616 := Nat.mod_lt _ (by decide)
    have hb := b2n_le (decide (B < C))
    have hH : IntKind.u64.wrap ((A : Int) - ((b2n (decide (B < C)) : Nat) : Int)) = (((A + 18446744073709551616 - b2n (decide (B < C))) % 18446744073709551616 : Nat) : Int) := by
      rw [IntKind.wrap_u64]; omega
    have hD : IntKind.u64.wrap ((B : Int) - (C : Int)) = (((B + 18446744073709551616 - C) % 18446744073709551616 : Nat) : Int) := by rw [IntKind.wrap_u64]; omega
    generalize (A + 18446744073709551616 - b2n (decide (B < C))) % 18446744073709551616 = H at *
    generalize (B + 18446744073709551616 - C) % 18446744073709551616 = D at *
    clear hb
    have hq2 := div_cast H n
    have hQ2 : H / 2 ^ n ≤ H := Nat.div_le_self _ _
    have hor := u64_or_nat (H / 2 ^ n) (b2n (decide (1 < D))) (by omega) (by have := b2n_le (decide (1 < D)); omega)
    rw [show b2n (decide (1 < D)) = b2n (decide ((1 : Int) < (D : Int))) from by congr 2; exact propext (by omega)] at hor ⊢
    have hc : (IntKind.u64.wrap ((A / 2 ^ n * 2 ^ n : Nat) : Int) != (A : Int)) = false := by rw [hE, IntKind.wrap_u64, bne_eq_false_iff_eq]; omega
    clear hE hR hQ hQ2
    generalize A / 2 ^ n * 2 ^ n = R at *
    generalize A / 2 ^ n = Q at *
    generalize H / 2 ^ n = Q2 at *
    go_enter Tryz.func170, Tryz.ntmps170
    go_wp2_with (first
      | (go_at_call 118; (first | (with_reducible refine (HM1.out _).mono ?_) | (with_reducible refine (HM2.out _).mono ?_)); rintro e w' ⟨rfl, rfl⟩)
      | (go_at_call 185; with_reducible refine (bool2_u64 _ _).mono ?_; rintro e w' ⟨rfl, rfl⟩))
    go_region_with (go_at_call 185; with_reducible refine (bool2_u64 _ _).mono ?_; rintro e w' ⟨rfl, rfl⟩)
    all_goals
      go_wp2
      go_ret
      exact ⟨rfl, Below.drewN' (Below.refl _ _) _⟩
  · rw [if_neg hE]
    have hor := u64_or_nat (A / 2 ^ n) 1 (by omega) (by decide)
    rw [show ((1 : Nat) : Int) = 1 from rfl] at hor
    have hc : (IntKind.u64.wrap ((A / 2 ^ n * 2 ^ n : Nat) : Int) != (A : Int)) = true := by rw [IntKind.wrap_u64, bne_iff_ne]; omega
    clear hE hR hQ
    generalize A / 2 ^ n * 2 ^ n = R at *
    generalize A / 2 ^ n = Q at *
    go_enter Tryz.func170, Tryz.ntmps170
    go_wp2_with (first
      | (go_at_call 118; (first | (with_reducible refine (HM1.out _).mono ?_) | (with_reducible refine (HM2.out _).mono ?_)); rintro e w' ⟨rfl, rfl⟩)
      | (go_at_call 185; with_reducible refine (bool2_u64 _ _).mono ?_; rintro e w' ⟨rfl, rfl⟩))
    go_ret
    exact ⟨rfl, Below.refl _ _⟩
end Go.Proofs.YthgfeghgcickhaaGreatDoor.Rl
/- THE TABLE OF POWERS OF TEN, and what prescale lays. Own work of the verifier. -/
namespace Go.Proofs.YthgfeghgcickhaaGreatDoor.Rl
open Go.RowKit

def tabHi (i : Nat) : Nat := (Go.Pinned.pow10Rows.getD i (0, 0)).1
def tabLo (i : Nat) : Nat := (Go.Pinned.pow10Rows.getD i (0, 0)).2
/-- The table lies where it belongs. -/
def Pow (w : World) : Prop := ∀ i, i < 696 → w.cell? ⟨10, i * 2, none⟩ = some (.int .u64 (tabHi i : Int)) ∧ w.cell? ⟨10, i * 2 + 1, none⟩ = some (.int .u64 (tabLo i : Int))
theorem tab_fit : ∀ i, i < 696 → tabHi i < 18446744073709551616 ∧ tabLo i < 18446744073709551616 := by
  have h : (List.range 696).all (fun i => decide (tabHi i < 18446744073709551616) && decide (tabLo i < 18446744073709551616)) = true := by decide +kernel
  intro i hi
  have := List.all_eq_true.1 h i (List.mem_range.2 hi)
  simpa using this

set_option maxHeartbeats 400000 in
theorem prescale_any (g : Nat) (e p lp : Int) (hp0 : -348 ≤ p) (hp1 : p ≤ 347) (he0 : -100000 ≤ e) (he1 : e ≤ 100000) (hl0 : -100000 ≤ lp) (hl1 : lp ≤ 100000) (w : World) (_hg : 10 ≠ g)
    (hT : Pow w) (v0 v1 v2 : Value) (c0 : w.cell? ⟨g, 0, none⟩ = some v0) (c1 : w.cell? ⟨g, 1, none⟩ = some v1) (c2 : w.cell? ⟨g, 2, none⟩ = some v2)
    (f0 : w.frozen? ⟨g, 0, none⟩ = false) (f1 : w.frozen? ⟨g, 1, none⟩ = false) (f2 : w.frozen? ⟨g, 2, none⟩ = false) :
    Calls Tryz.prog 168 #[.pointer (some ⟨g, 0, none⟩), .int .i64 e, .int .i64 p, .int .i64 lp] w fun r w' => r = .returned (.tuple #[]) ∧
      w' = ((w.setCell ⟨g, 0, none⟩ (.int .u64 (tabHi (p + 348).toNat : Int))).setCell ⟨g, 1, none⟩ (.int .u64 (tabLo (p + 348).toNat : Int))).setCell ⟨g, 2, none⟩ (.int .i64 (-(e + lp + 3))) := by
  obtain ⟨i, hi⟩ : ∃ i : Nat, p = (i : Int) - 348 := ⟨(p + 348).toNat, by omega⟩
  subst hi
  rw [show ((i : Int) - 348 + 348).toNat = i from by omega]
  obtain ⟨t0, t1⟩ := hT i (by omega)
  go_enter Tryz.func168, Tryz.ntmps168
  go_wp2
  simp [bodyPost, results, Tryz.results168, go_sem]
end Go.Proofs.YthgfeghgcickhaaGreatDoor.Rl
