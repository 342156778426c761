/- THE LEAVES: sums, differences, order, of numbers of 128 bits: the code's and the document's. Own work of the verifier. -/
import Derived.Test.YthgfeghgcickhaaGreatDoorRows
import Derived.Test.YthgfeghgcickhaaGreatDoorZAK
import Derived.WalkKit
import Derived.WalkSpells
import Derived.RowKit3
import Derived.Below
import Derived.Laws.Externs
import Derived.Shelf.Spec.BitsCarry
import Derived.Outline
import Derived.Deep.QuietTactic
import Derived.BigQuiet
import Derived.Deep.RegionHeld3
import Derived.Laws.Bits64
import Derived.Lib.Zigzag
import Derived.Lib.ItoaNum
import Derived.Laws.BitsAllLaws
namespace Go.Proofs.YthgfeghgcickhaaGreatDoor
open Go.RowKit

/-- The borrow. -/
def bor (x y : Int) : Int := if x < y then 1 else 0
theorem bor_0 (x y : Int) : 0 ≤ bor x y := by unfold bor; split <;> decide
theorem bor_1 (x y : Int) : bor x y ≤ 1 := by unfold bor; split <;> decide

theorem add64_0 (x y : Int) (hx : 0 ≤ x) (hy : 0 ≤ y) (w : World) : (callFunc 90 #[.int .u64 x, .int .u64 y, .int .u64 0]).run Tryz.prog w =
    .ok (.value (.tuple #[.int .u64 ((x + y) % 18446744073709551616), .int .u64 ((x + y) / 18446744073709551616)])) w := by
  rw [run_callFunc_extern Tryz.func90 (by kernel_rfl) (by kernel_rfl) (by kernel_rfl) (e := add64Entry) (by kernel_rfl), run_add64 x y 0 (by omega) (by omega) (by omega) (by omega)]
  simp [Result.andThen]
theorem sub64_0 (x y : Int) (hx : 0 ≤ x) (hy : 0 ≤ y) (hy' : y < 18446744073709551616) (w : World) : (callFunc 138 #[.int .u64 x, .int .u64 y, .int .u64 0]).run Tryz.prog w =
    .ok (.value (.tuple #[.int .u64 ((x - y) % 18446744073709551616), .int .u64 (bor x y)])) w := by
  obtain ⟨x, rfl⟩ := Int.eq_ofNat_of_zero_le hx
  obtain ⟨y, rfl⟩ := Int.eq_ofNat_of_zero_le hy
  have e1 : (((x + 18446744073709551616 - y - 0) % 18446744073709551616 : Nat) : Int) = ((x : Int) - y) % 18446744073709551616 := by omega
  have e2 : ((if x < y + 0 then 1 else 0 : Nat) : Int) = bor (x : Int) y := by unfold bor; split <;> split <;> omega
  have h := run_callFunc_extern Tryz.func138 (by kernel_rfl) (by kernel_rfl) (by kernel_rfl) (e := sub64Entry) (by kernel_rfl) #[.int .u64 (x : Int), .int .u64 (y : Int), .int .u64 0] w
  rw [h, ← e1, ← e2, show (0 : Int) = ((0 : Nat) : Int) from rfl, run_sub64 x y 0 (by omega)]
  rfl

theorem add_words {ah al bh bl : Int} (h1 : Wf ah al) (h2 : Wf bh bl) : wrap64 (wrap64 (ah + bh) + (al + bl) / 18446744073709551616) = hiOf (rnd (val ah al + val bh bl)) ∧ (al + bl) % 18446744073709551616 = loOf (rnd (val ah al + val bh bl)) := by
  obtain ⟨_, _, _, _⟩ := h1; obtain ⟨_, _, _, _⟩ := h2
  unfold wrap64 hiOf loOf rnd val; constructor <;> omega
theorem sub_words {ah al bh bl : Int} (h1 : Wf ah al) (h2 : Wf bh bl) : wrap64 (wrap64 (ah - bh) - bor al bl) = hiOf (rnd (val ah al - val bh bl)) ∧ (al - bl) % 18446744073709551616 = loOf (rnd (val ah al - val bh bl)) := by
  obtain ⟨_, _, _, _⟩ := h1; obtain ⟨_, _, _, _⟩ := h2
  unfold wrap64 hiOf loOf rnd val bor; constructor
  · split <;> omega
  · omega

/-- A number as the model holds it. -/
abbrev num (n : Int) : Value := .agg #[.int .i64 (hiOf n), .int .u64 (loOf n)]

theorem num_of {n h l : Int} (e : h = hiOf n ∧ l = loOf n) : num n = .agg #[.int .i64 h, .int .u64 l] := by rw [e.1, e.2]
theorem bel3 (w : World) (o1 o2 o3 : Obj) : Below w.heap.size w (((w.alloc o1).alloc o2).alloc o3) :=
  (((Below.refl _ _).alloc (Nat.le_refl _) _).alloc (by simp) _).alloc (by simp; omega) _
theorem bel2 (w : World) (o1 o2 : Obj) : Below w.heap.size w ((w.alloc o1).alloc o2) :=
  ((Below.refl _ _).alloc (Nat.le_refl _) _).alloc (by simp) _
theorem bel1 (w : World) (o1 : Obj) : Below w.heap.size w (w.alloc o1) := (Below.refl _ _).alloc (Nat.le_refl _) _

set_option maxHeartbeats 400000 in
theorem add_any (ah al bh bl : Int) (h1 : Wf ah al) (h2 : Wf bh bl) (w : World) :
    Calls Tryz.prog 59 #[.agg #[.int .i64 ah, .int .u64 al], .agg #[.int .i64 bh, .int .u64 bl]] w fun e w' =>
      e = .returned (num (rnd (val ah al + val bh bl))) ∧ Below w.heap.size w w' := by
  rw [num_of (add_words h1 h2)]
  obtain ⟨a1, a2, a3, a4⟩ := h1; obtain ⟨b1, b2, b3, b4⟩ := h2
  go_enter Tryz.func59, Tryz.ntmps59
  go_wp2_with (simp only [add64_0 al bl a3 b3])
  simp [bodyPost, results, Tryz.results59, go_sem]
  exact bel3 _ _ _ _

set_option maxHeartbeats 400000 in
theorem sub_any (ah al bh bl : Int) (h1 : Wf ah al) (h2 : Wf bh bl) (w : World) :
    Calls Tryz.prog 127 #[.agg #[.int .i64 ah, .int .u64 al], .agg #[.int .i64 bh, .int .u64 bl]] w fun e w' =>
      e = .returned (num (rnd (val ah al - val bh bl))) ∧ Below w.heap.size w w' := by
  rw [num_of (sub_words h1 h2)]
  obtain ⟨a1, a2, a3, a4⟩ := h1; obtain ⟨b1, b2, b3, b4⟩ := h2
  have k0 := bor_0 al bl
  have k1 := bor_1 al bl
  go_enter Tryz.func127, Tryz.ntmps127
  go_wp2_with (simp only [sub64_0 al bl a3 b3 b4])
  simp [bodyPost, results, Tryz.results127, go_sem]
  exact bel3 _ _ _ _
end Go.Proofs.YthgfeghgcickhaaGreatDoor
/- THE PLAIN MATHEMATICS of a division of two words by one (no Go in sight). Own work of the verifier. -/
namespace Go.Proofs.YthgfeghgcickhaaGreatDoor

/-- What the loop of an estimate keeps: q is no less than the quotient. -/
structure DInv (U u h n q r : Int) : Prop where
  e : q * h + r = U
  q0 : 0 ≤ q
  r0 : 0 ≤ r
  up : U * 4294967296 + u < (q + 1) * (h * 4294967296 + n)
/-- q is the quotient of U * 2^32 + u. -/
structure DEnd (U u h n q : Int) : Prop where
  q0 : 0 ≤ q
  lo : q * (h * 4294967296 + n) ≤ U * 4294967296 + u
  up : U * 4294967296 + u < (q + 1) * (h * 4294967296 + n)
/-- The sizes of the parts. -/
structure DSize (U u h n : Int) : Prop where
  h0 : 2147483648 ≤ h
  h1 : h < 4294967296
  n0 : 0 ≤ n
  n1 : n < 4294967296
  u0 : 0 ≤ u
  u1 : u < 4294967296
  U0 : 0 ≤ U
  U1 : U < h * 4294967296 + n

theorem mul_parts (q h n : Int) : q * (h * 4294967296 + n) = (q * h) * 4294967296 + q * n := by
  rw [Int.mul_add, Int.mul_assoc]
theorem succ_parts (q h n : Int) : (q + 1) * (h * 4294967296 + n) = (q * h) * 4294967296 + q * n + (h * 4294967296 + n) := by
  rw [Int.add_mul, mul_parts, Int.one_mul]

theorem dinv_start {U u h n : Int} (z : DSize U u h n) : DInv U u h n (U / h) (U - U / h * h) := by
  obtain ⟨h0, h1, n0, n1, u0, u1, U0, U1⟩ := z
  have e := Int.mul_ediv_add_emod U h
  have m0 := Int.emod_nonneg U (show h ≠ 0 by omega)
  have m1 := Int.emod_lt_of_pos U (show 0 < h by omega)
  have q0 : 0 ≤ U / h := Int.ediv_nonneg U0 (by omega)
  rw [Int.mul_comm] at e
  generalize U / h = q at *
  have p0 : 0 ≤ q * n := Int.mul_nonneg q0 n0
  refine ⟨by omega, q0, by omega, ?_⟩
  rw [succ_parts]
  generalize q * h = p at *
  omega
theorem dinv_rest {U u h n : Int} (z : DSize U u h n) : 0 ≤ U - U / h * h ∧ U - U / h * h < 4294967296 ∧ 0 ≤ U / h ∧ 0 ≤ U / h * h ∧ U / h * h ≤ U ∧ U / h < 8589934592 := by
  obtain ⟨h0, h1, n0, n1, u0, u1, U0, U1⟩ := z
  have e := Int.mul_ediv_add_emod U h
  have m0 := Int.emod_nonneg U (show h ≠ 0 by omega)
  have m1 := Int.emod_lt_of_pos U (show 0 < h by omega)
  have q0 : 0 ≤ U / h := Int.ediv_nonneg U0 (by omega)
  have q1 : U / h < 8589934592 := Int.ediv_lt_of_lt_mul (by omega) (by omega)
  have p0 : 0 ≤ U / h * h := Int.mul_nonneg q0 (by omega)
  rw [Int.mul_comm] at e
  omega
/-- One step: q was too great. -/
theorem dinv_step {U u h n q r : Int} (z : DSize U u h n) (i : DInv U u h n q r) (t : 4294967296 ≤ q ∨ 4294967296 * r + u < q * n) : DInv U u h n (q - 1) (r + h) ∧ 0 < q := by
  obtain ⟨h0, h1, n0, n1, u0, u1, U0, U1⟩ := z
  obtain ⟨e, q0, r0, up⟩ := i
  have hq : 0 < q := by
    rcases t with t | t
    · omega
    · rcases Int.lt_or_eq_of_le q0 with k | k
      · exact k
      · subst k; rw [Int.zero_mul] at t; omega
  refine ⟨⟨?_, by omega, by omega, ?_⟩, hq⟩
  · rw [Int.sub_mul, Int.one_mul]; omega
  · rw [show q - 1 + 1 = q from by omega, mul_parts]
    rcases t with t | t
    · have a := Int.mul_le_mul_of_nonneg_right t (show 0 ≤ h * 4294967296 + n by omega)
      rw [mul_parts q] at a
      omega
    · generalize q * h = p at *
      generalize q * n = v at *
      omega
/-- The test says no: q is the quotient. -/
theorem dinv_end {U u h n q r : Int} (i : DInv U u h n q r) (t : q * n ≤ 4294967296 * r + u) : DEnd U u h n q := by
  obtain ⟨e, q0, r0, up⟩ := i
  refine ⟨q0, ?_, up⟩
  rw [mul_parts]
  generalize q * h = p at *
  omega
/-- The rest is great: q is the quotient. -/
theorem dinv_break {U u h n q r : Int} (z : DSize U u h n) (i : DInv U u h n q r) (t : 4294967296 ≤ r) : DEnd U u h n q := by
  obtain ⟨h0, h1, n0, n1, u0, u1, U0, U1⟩ := z
  obtain ⟨e, q0, r0, up⟩ := i
  refine ⟨q0, ?_, up⟩
  have hq : q < 4294967296 := by
    rcases Int.lt_or_le q 4294967296 with k | k
    · exact k
    · have a := Int.mul_le_mul_of_nonneg_right k (show 0 ≤ h by omega)
      omega
  have b : q * n ≤ 4294967296 * 4294967296 := Int.mul_le_mul (by omega) (by omega) n0 (by omega)
  rw [mul_parts]
  generalize q * h = p at *
  generalize q * n = v at *
  omega
theorem dend_lt {U u h n q : Int} (z : DSize U u h n) (i : DEnd U u h n q) : q < 4294967296 := by
  obtain ⟨h0, h1, n0, n1, u0, u1, U0, U1⟩ := z
  obtain ⟨q0, lo, up⟩ := i
  rcases Int.lt_or_le q 4294967296 with k | k
  · exact k
  · have a := Int.mul_le_mul_of_nonneg_right k (show 0 ≤ h * 4294967296 + n by omega)
    omega

/-- What is left behind an estimate. -/
theorem div_T {U u h n q Y : Int} (hY : Y = h * 4294967296 + n) (hY1 : Y < 18446744073709551616) (e : DEnd U u h n q) :
    IntKind.u64.wrap (IntKind.u64.wrap (IntKind.u64.wrap (U * 4294967296) + u) - IntKind.u64.wrap (q * Y)) = U * 4294967296 + u - q * Y ∧ 0 ≤ U * 4294967296 + u - q * Y ∧ U * 4294967296 + u - q * Y < Y := by
  obtain ⟨q0, lo, up⟩ := e
  rw [← hY] at lo up
  rw [Int.add_mul, Int.one_mul] at up
  simp only [IntKind.wrap_u64]
  generalize q * Y = p at *
  omega

/-- The two words, shifted. -/
theorem norm_words (H l : Nat) (k : Nat) (hk : k ≤ 64) (hl : l < 18446744073709551616) (hH : H * 2 ^ k < 18446744073709551616) :
    bits .or .u64 (IntKind.u64.wrap ((H : Int) * 2 ^ k)) ((l : Int) / 2 ^ (64 - k)) = ((H * 2 ^ k + l / 2 ^ (64 - k) : Nat) : Int) ∧
    IntKind.u64.wrap ((l : Int) * 2 ^ k) = ((2 ^ k * (l % 2 ^ (64 - k)) : Nat) : Int) ∧
    (H * 2 ^ k + l / 2 ^ (64 - k)) * 18446744073709551616 + 2 ^ k * (l % 2 ^ (64 - k)) = (H * 18446744073709551616 + l) * 2 ^ k ∧ l / 2 ^ (64 - k) < 2 ^ k ∧ 2 ^ k * (l % 2 ^ (64 - k)) < 18446744073709551616 := by
  have hKM : 2 ^ k * 2 ^ (64 - k) = 18446744073709551616 := by rw [← Nat.pow_add, show k + (64 - k) = 64 from by omega]
  have hM : 0 < 2 ^ (64 - k) := Nat.pow_pos (by decide)
  have hK : 0 < 2 ^ k := Nat.pow_pos (by decide)
  have e1 : ((H : Int) * 2 ^ k) = ((H * 2 ^ k : Nat) : Int) := by push_cast; rfl
  have e2 : ((l : Int) * 2 ^ k) = ((l * 2 ^ k : Nat) : Int) := by push_cast; rfl
  have e3 : ((l : Int) / 2 ^ (64 - k)) = ((l / 2 ^ (64 - k) : Nat) : Int) := by push_cast; rfl
  have ha : l / 2 ^ (64 - k) < 2 ^ k := by
    rw [Nat.div_lt_iff_lt_mul hM, hKM]; exact hl
  have hb : l % 2 ^ (64 - k) < 2 ^ (64 - k) := Nat.mod_lt _ hM
  have hlk : l * 2 ^ k = 18446744073709551616 * (l / 2 ^ (64 - k)) + 2 ^ k * (l % 2 ^ (64 - k)) := by
    have d := Nat.div_add_mod l (2 ^ (64 - k))
    calc l * 2 ^ k = (2 ^ (64 - k) * (l / 2 ^ (64 - k)) + l % 2 ^ (64 - k)) * 2 ^ k := by rw [d]
      _ = 2 ^ k * 2 ^ (64 - k) * (l / 2 ^ (64 - k)) + 2 ^ k * (l % 2 ^ (64 - k)) := by
        rw [Nat.add_mul, Nat.mul_comm (2 ^ (64 - k) * _) (2 ^ k), Nat.mul_assoc, Nat.mul_comm (l % _) (2 ^ k)]
      _ = _ := by rw [hKM]
  have hb' : 2 ^ k * (l % 2 ^ (64 - k)) < 18446744073709551616 := by
    rw [← hKM]; exact Nat.mul_lt_mul_of_pos_left hb hK
  refine ⟨?_, ?_, ?_, ha, hb'⟩
  · rw [e1, e3, IntKind.wrap_u64, Int.emod_eq_of_lt (by omega) (by omega), u64_or_nat _ _ hH (by have : 2 ^ k ≤ 18446744073709551616 := (by rw [← hKM]; exact Nat.le_mul_of_pos_right _ hM); omega)]
    rw [nat_join k _ _ (Nat.mul_mod_left _ _) ha]
  · rw [e2, IntKind.wrap_u64, hlk]
    omega
  · rw [Nat.add_mul, Nat.add_mul, hlk, Nat.mul_assoc, Nat.mul_comm (2 ^ k) 18446744073709551616, ← Nat.mul_assoc]
    omega
end Go.Proofs.YthgfeghgcickhaaGreatDoor
