/- THE LEAVES OF THE LIBRARY's FLOAT TEXTS: logarithms, what is unrounded, the scaling. Own work of the verifier. -/
import Derived.Test.YtmejmohambhaaaaGreatDoorRows
import Derived.WalkKit
import Derived.WalkSpells
import Derived.RowKit3
import Derived.Below
import Derived.Laws.Externs
import Derived.Outline
import Derived.Deep.QuietTactic
import Derived.BigQuiet
import Derived.Laws.Bits64
import Derived.Laws.BitsAllLaws
namespace Go.Proofs.YtmejmohambhaaaaGreatDoor
open Go.RowKit

theorem bcell {W w1 : World} (hb : Below W.heap.size W w1) : (∀ b o, b < W.heap.size → w1.cell? ⟨b, o, none⟩ = W.cell? ⟨b, o, none⟩) ∧ (∀ b o, b < W.heap.size → w1.frozen? ⟨b, o, none⟩ = W.frozen? ⟨b, o, none⟩) :=
  ⟨fun b o h => hb.cell (p := ⟨b, o, none⟩) h, fun b o h => hb.frozen (p := ⟨b, o, none⟩) h⟩
theorem Below.drewN' {B : Nat} {a w : World} (h : Below B a w) (n : Nat) : Below B a (w.drewN n) := by
  induction n with
  | zero => exact h
  | succ n ih => exact ⟨ih.os, ih.tape, ih.output, ih.size, ih.block⟩
theorem bel1 (w : World) (o1 : Obj) : Below w.heap.size w (w.alloc o1) := (Below.refl _ _).alloc (Nat.le_refl _) _
theorem bel2 (w : World) (o1 o2 : Obj) : Below w.heap.size w ((w.alloc o1).alloc o2) :=
  ((Below.refl _ _).alloc (Nat.le_refl _) _).alloc (by simp) _
theorem retI {k : IntKind} {A B : Int} (h : A = B) : Ending.returned (Value.int k A) = .returned (.int k B) := by rw [h]
/-- The logarithm of 2^x to the base of ten, as the library has it. -/
def l10 (x : Int) : Int := x * 78913 / 262144
/-- .. of 10^x to the base of two. -/
def l2 (x : Int) : Int := x * 108853 / 32768
def skw (x : Int) : Int := (x * 631305 - 261663) / 2097152

theorem log10Pow2_any (x : Int) (h0 : -100000 ≤ x) (h1 : x ≤ 100000) (w : World) :
    Calls Tryz.prog 65 #[.int .i64 x] w fun e w' => e = .returned (.int .i64 (l10 x)) ∧ w' = w := by
  go_enter Tryz.func65, Tryz.ntmps65
  go_wp2
  go_ret
  exact ⟨rfl, rfl⟩
theorem log2Pow10_any (x : Int) (h0 : -100000 ≤ x) (h1 : x ≤ 100000) (w : World) :
    Calls Tryz.prog 94 #[.int .i64 x] w fun e w' => e = .returned (.int .i64 (l2 x)) ∧ w' = w := by
  go_enter Tryz.func94, Tryz.ntmps94
  go_wp2
  go_ret
  exact ⟨rfl, rfl⟩
theorem skewed_any (x : Int) (h0 : -100000 ≤ x) (h1 : x ≤ 100000) (w : World) :
    Calls Tryz.prog 92 #[.int .i64 x] w fun e w' => e = .returned (.int .i64 (skw x)) ∧ w' = w := by
  go_enter Tryz.func92, Tryz.ntmps92
  go_wp2
  go_ret
  exact ⟨rfl, rfl⟩
def b2n (b : Bool) : Nat := if b then 1 else 0
theorem bool2_u64 (b : Bool) (w : World) :
    Calls Tryz.prog 119 #[.bool b] w fun e w' => e = .returned (.int .u64 (b2n b : Nat)) ∧ w' = w := by
  cases b
  all_goals
    go_enter Tryz.func119, Tryz.ntmps119
    go_wp2
    go_ret
    exact ⟨rfl, rfl⟩
theorem ceil_any (u : Nat) (_h : u < 18446744073709551616) (w : World) :
    Calls Tryz.prog 97 #[.int .u64 (u : Int)] w fun e w' => e = .returned (.int .u64 (((u + 3) % 18446744073709551616 / 4 : Nat) : Int)) ∧ w' = w := by
  go_enter Tryz.func97, Tryz.ntmps97
  go_wp2
  go_ret
  exact ⟨retI (by first | omega | (simp only [IntKind.wrap_u64]; omega)), rfl⟩
theorem floor_any (u : Nat) (h : u < 18446744073709551616) (w : World) :
    Calls Tryz.prog 98 #[.int .u64 (u : Int)] w fun e w' => e = .returned (.int .u64 ((u / 4 : Nat) : Int)) ∧ w' = w := by
  go_enter Tryz.func98, Tryz.ntmps98
  go_wp2
  go_ret
  exact ⟨retI (by first | omega | (simp only [IntKind.wrap_u64, IntKind.wrap_i64]; omega)), rfl⟩
theorem nudge_up (u d : Nat) (_h : u < 18446744073709551616) (hd : d ≤ 1) (w : World) :
    Calls Tryz.prog 96 #[.int .u64 (u : Int), .int .i64 (d : Int)] w fun e w' => e = .returned (.int .u64 (((u + d) % 18446744073709551616 : Nat) : Int)) ∧ w' = w := by
  go_enter Tryz.func96, Tryz.ntmps96
  go_wp2
  go_ret
  exact ⟨retI (by first | omega | (simp only [IntKind.wrap_u64]; omega)), rfl⟩
theorem nudge_down (u d : Nat) (h : u < 18446744073709551616) (hd : d ≤ 1) (w : World) :
    Calls Tryz.prog 96 #[.int .u64 (u : Int), .int .i64 (-(d : Int))] w fun e w' => e = .returned (.int .u64 (((u + 18446744073709551616 - d) % 18446744073709551616 : Nat) : Int)) ∧ w' = w := by
  obtain ⟨D, hD⟩ : ∃ D : Int, D = -(d : Int) := ⟨_, rfl⟩
  rw [← hD]
  go_enter Tryz.func96, Tryz.ntmps96
  go_wp2
  all_goals
    go_ret
    exact ⟨retI (by first | omega | (simp only [IntKind.wrap_u64]; omega)), rfl⟩
theorem and_one (n : Nat) (h : n < 18446744073709551616) : bits .and .u64 (n : Int) 1 = ((n % 2 : Nat) : Int) := by
  have := u64_and_nat n 1 h (by decide)
  rw [show ((1 : Nat) : Int) = 1 from rfl] at this
  rw [this, show (1 : Nat) = 2 ^ 1 - 1 from by decide, Nat.and_two_pow_sub_one_eq_mod]
theorem round_any (u : Nat) (h : u < 18446744073709551616) (w : World) :
    Calls Tryz.prog 99 #[.int .u64 (u : Int)] w fun e w' => e = .returned (.int .u64 (((u + 1 + u / 4 % 2) % 18446744073709551616 / 4 : Nat) : Int)) ∧ w' = w := by
  have h1 := and_one (u / 4) (by omega)
  rw [show ((u / 4 : Nat) : Int) = (u : Int) / 4 from by omega] at h1
  go_enter Tryz.func99, Tryz.ntmps99
  go_wp2
  go_ret
  refine ⟨retI ?_, rfl⟩
  simp only [IntKind.wrap_u64]
  have hq : ((u / 4 % 2 : Nat) : Int) = (u : Int) / 4 % 2 := by omega
  rw [← hq]
  have : u / 4 % 2 < 2 := by omega
  clear h1 hq
  generalize u / 4 % 2 = q at *
  omega
theorem unmin_any (x : Nat) (h : x < 4611686018427387904) (h0 : 0 < x) (w : World) :
    Calls Tryz.prog 101 #[.int .u64 (x : Int)] w fun e w' => e = .returned (.int .u64 ((x * 4 - 2 : Nat) : Int)) ∧ w' = w := by
  go_enter Tryz.func101, Tryz.ntmps101
  go_wp2
  go_ret
  exact ⟨retI (by first | omega | (simp only [IntKind.wrap_u64, IntKind.wrap_i64]; omega)), rfl⟩
end Go.Proofs.YtmejmohambhaaaaGreatDoor
