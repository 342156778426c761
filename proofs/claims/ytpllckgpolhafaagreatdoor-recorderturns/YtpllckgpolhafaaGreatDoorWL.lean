/- THE LEAVES: sums, differences, order, of numbers of 128 bits: the code's and the document's. Own work of the verifier. -/
import Derived.Test.YtpllckgpolhafaaGreatDoorRows
import Derived.Test.YtpllckgpolhafaaGreatDoorPB
import Derived.WalkKit
import Derived.WalkSpells
import Derived.RowKit3
import Derived.Below
import Derived.Laws.Externs
import Derived.Shelf.Spec.BitsCarry
import Derived.Outline
import Derived.Deep.QuietTactic
import Derived.BigQuiet
import Derived.Deep.RegionHeld3
import Derived.Laws.Bits64
import Derived.Lib.Zigzag
namespace Go.Proofs.YtpllckgpolhafaaGreatDoor
open Go.RowKit

/-- The borrow. -/
def bor (x y : Int) : Int := if x < y then 1 else 0
theorem bor_0 (x y : Int) : 0 ≤ bor x y := by unfold bor; split <;> decide
theorem bor_1 (x y : Int) : bor x y ≤ 1 := by unfold bor; split <;> decide

theorem add64_0 (x y : Int) (hx : 0 ≤ x) (hy : 0 ≤ y) (w : World) : (callFunc 83 #[.int .u64 x, .int .u64 y, .int .u64 0]).run Tryz.prog w =
    .ok (.value (.tuple #[.int .u64 ((x + y) % 18446744073709551616), .int .u64 ((x + y) / 18446744073709551616)])) w := by
  rw [run_callFunc_extern Tryz.func83 (by kernel_rfl) (by kernel_rfl) (by kernel_rfl) (e := add64Entry) (by kernel_rfl), run_add64 x y 0 (by omega) (by omega) (by omega) (by omega)]
  simp [Result.andThen]

theorem add_words {ah al bh bl : Int} (h1 : Wf ah al) (h2 : Wf bh bl) : wrap64 (wrap64 (ah + bh) + (al + bl) / 18446744073709551616) = hiOf (rnd (val ah al + val bh bl)) ∧ (al + bl) % 18446744073709551616 = loOf (rnd (val ah al + val bh bl)) := by
  obtain ⟨_, _, _, _⟩ := h1; obtain ⟨_, _, _, _⟩ := h2
  unfold wrap64 hiOf loOf rnd val; constructor <;> omega
theorem sub_words {ah al bh bl : Int} (h1 : Wf ah al) (h2 : Wf bh bl) : wrap64 (wrap64 (ah - bh) - bor al bl) = hiOf (rnd (val ah al - val bh bl)) ∧ (al - bl) % 18446744073709551616 = loOf (rnd (val ah al - val bh bl)) := by
  obtain ⟨_, _, _, _⟩ := h1; obtain ⟨_, _, _, _⟩ := h2
  unfold wrap64 hiOf loOf rnd val bor; constructor
  · split <;> omega
  · omega

/-- A number as the model holds it. -/
abbrev num (n : Int) : Value := .agg #[.int .i64 (hiOf n), .int .u64 (loOf n)]

theorem num_of {n h l : Int} (e : h = hiOf n ∧ l = loOf n) : num n = .agg #[.int .i64 h, .int .u64 l] := by rw [e.1, e.2]
theorem bel3 (w : World) (o1 o2 o3 : Obj) : Below w.heap.size w (((w.alloc o1).alloc o2).alloc o3) :=
  (((Below.refl _ _).alloc (Nat.le_refl _) _).alloc (by simp) _).alloc (by simp; omega) _
theorem bel2 (w : World) (o1 o2 : Obj) : Below w.heap.size w ((w.alloc o1).alloc o2) :=
  ((Below.refl _ _).alloc (Nat.le_refl _) _).alloc (by simp) _
theorem bel1 (w : World) (o1 : Obj) : Below w.heap.size w (w.alloc o1) := (Below.refl _ _).alloc (Nat.le_refl _) _

set_option maxHeartbeats 400000 in
theorem add_any (ah al bh bl : Int) (h1 : Wf ah al) (h2 : Wf bh bl) (w : World) :
    Calls Tryz.prog 60 #[.agg #[.int .i64 ah, .int .u64 al], .agg #[.int .i64 bh, .int .u64 bl]] w fun e w' =>
      e = .returned (num (rnd (val ah al + val bh bl))) ∧ Below w.heap.size w w' := by
  rw [num_of (add_words h1 h2)]
  obtain ⟨a1, a2, a3, a4⟩ := h1; obtain ⟨b1, b2, b3, b4⟩ := h2
  go_enter Tryz.func60, Tryz.ntmps60
  go_wp2_with (simp only [add64_0 al bl a3 b3])
  simp [bodyPost, results, Tryz.results60, go_sem]
  exact bel3 _ _ _ _

end Go.Proofs.YtpllckgpolhafaaGreatDoor
namespace Go.Proofs.YtpllckgpolhafaaGreatDoor
open Go.RowKit

theorem refadd_lo {ah al bh bl : Int} (h1 : Wf ah al) (h2 : Wf bh bl) (h : IntKind.u64.wrap (al + bl) < al) : wrap64 (IntKind.u64.wrap (IntKind.u64.wrap (IntKind.u64.wrap ah + IntKind.u64.wrap bh) + 1)) = hiOf (rnd (val ah al + val bh bl)) ∧ IntKind.u64.wrap (al + bl) = loOf (rnd (val ah al + val bh bl)) := by
  obtain ⟨_, _, _, _⟩ := h1; obtain ⟨_, _, _, _⟩ := h2
  simp only [IntKind.wrap_u64] at *
  unfold wrap64 hiOf loOf rnd val; constructor <;> omega
theorem refadd_hi {ah al bh bl : Int} (h1 : Wf ah al) (h2 : Wf bh bl) (h : ¬ IntKind.u64.wrap (al + bl) < al) : wrap64 (IntKind.u64.wrap (IntKind.u64.wrap ah + IntKind.u64.wrap bh)) = hiOf (rnd (val ah al + val bh bl)) ∧ IntKind.u64.wrap (al + bl) = loOf (rnd (val ah al + val bh bl)) := by
  obtain ⟨_, _, _, _⟩ := h1; obtain ⟨_, _, _, _⟩ := h2
  simp only [IntKind.wrap_u64] at *
  unfold wrap64 hiOf loOf rnd val; constructor <;> omega
set_option maxHeartbeats 400000 in
theorem refadd_any (ah al bh bl : Int) (h1 : Wf ah al) (h2 : Wf bh bl) (w : World) :
    Calls Tryz.prog 73 #[.agg #[.int .i64 ah, .int .u64 al], .agg #[.int .i64 bh, .int .u64 bl]] w fun e w' =>
      e = .returned (num (rnd (val ah al + val bh bl))) ∧ Below w.heap.size w w' := by
  by_cases hc : IntKind.u64.wrap (al + bl) < al
  · rw [num_of (refadd_lo h1 h2 hc)]
    obtain ⟨a1, a2, a3, a4⟩ := h1; obtain ⟨b1, b2, b3, b4⟩ := h2
    go_enter Tryz.func73, Tryz.ntmps73
    go_wp2
    simp [bodyPost, results, Tryz.results73, go_sem]
    exact bel3 _ _ _ _
  · rw [num_of (refadd_hi h1 h2 hc)]
    obtain ⟨a1, a2, a3, a4⟩ := h1; obtain ⟨b1, b2, b3, b4⟩ := h2
    go_enter Tryz.func73, Tryz.ntmps73
    go_wp2
    simp [bodyPost, results, Tryz.results73, go_sem]
    exact bel3 _ _ _ _

theorem not_u64 (x : Int) (h0 : 0 ≤ x) (h1 : x < 18446744073709551616) : bits .xor .u64 IntKind.u64.max x = 18446744073709551615 - x := by
  obtain ⟨n, rfl⟩ := Int.eq_ofNat_of_zero_le h0
  have := bits_xor_u64_nat 18446744073709551615 n (by decide) (by omega)
  have e := Lib.xor_ones64 n (by omega)
  rw [show IntKind.u64.max = ((18446744073709551615 : Nat) : Int) from by decide, this, show (18446744073709551615 : Nat) = 2 ^ 64 - 1 from by decide, e]
  omega
theorem not_u64' (x : Int) (h0 : 0 ≤ x) (h1 : x < 18446744073709551616) : bits .xor .u64 (if IntKind.u64.signed = true then -1 else IntKind.u64.max) x = 18446744073709551615 - x := by
  rw [if_neg (by decide)]; exact not_u64 x h0 h1
def nlo (al : Int) : Int := IntKind.u64.wrap (18446744073709551615 - al + 1)
def nhi (ah : Int) : Int := 18446744073709551615 - IntKind.u64.wrap ah
theorem neg_words0 {ah al : Int} (h1 : Wf ah al) (h : al = 0) : wrap64 (IntKind.u64.wrap (18446744073709551615 - IntKind.u64.wrap ah + 1)) = hiOf (rnd (- val ah al)) ∧ 0 = loOf (rnd (- val ah al)) := by
  obtain ⟨_, _, _, _⟩ := h1
  simp only [IntKind.wrap_u64] at *
  unfold wrap64 hiOf loOf rnd val; constructor <;> omega
theorem neg_words1 {ah al : Int} (h1 : Wf ah al) (h : ¬ al = 0) : wrap64 (18446744073709551615 - IntKind.u64.wrap ah) = hiOf (rnd (- val ah al)) ∧ 18446744073709551615 - al + 1 = loOf (rnd (- val ah al)) := by
  obtain ⟨_, _, _, _⟩ := h1
  simp only [IntKind.wrap_u64] at *
  unfold wrap64 hiOf loOf rnd val; constructor <;> omega
theorem of_words {n : Int} (h1 : -9223372036854775808 ≤ n) (h2 : n ≤ 9223372036854775807) : n / 9223372036854775808 = hiOf n ∧ IntKind.u64.wrap n = loOf n := by
  rw [IntKind.wrap_u64]; unfold hiOf loOf; constructor <;> omega
set_option maxHeartbeats 400000 in
theorem uns_any (n : Int) (h1 : 0 ≤ n) (h2 : n < 18446744073709551616) (w : World) :
    Calls Tryz.prog 150 #[.int .u64 n] w fun e w' => e = .returned (num n) ∧ Below w.heap.size w w' := by
  rw [num_of (h := 0) (l := n) (by unfold hiOf loOf; constructor <;> omega)]
  go_enter Tryz.func150, Tryz.ntmps150
  go_wp2
  simp [bodyPost, results, Tryz.results150, go_sem]
  exact bel1 _ _
end Go.Proofs.YtpllckgpolhafaaGreatDoor
namespace Go.Proofs.YtpllckgpolhafaaGreatDoor
open Go.RowKit
theorem cmp_lt {ah al bh bl : Int} (h1 : Wf ah al) (h2 : Wf bh bl) (h : ah < bh) : cmp (val ah al) (val bh bl) = -1 := by
  unfold cmp; rw [if_pos ((val_lt h1 h2).2 (Or.inl h))]
theorem cmp_lt' {h al bl : Int} (h1 : Wf h al) (h2 : Wf h bl) (hl : al < bl) : cmp (val h al) (val h bl) = -1 := by
  unfold cmp; rw [if_pos ((val_lt h1 h2).2 (Or.inr ⟨rfl, hl⟩))]
theorem cmp_eq {h l : Int} : cmp (val h l) (val h l) = 0 := by unfold cmp; simp
theorem cmp_gt {ah al bh bl : Int} (h1 : Wf ah al) (h2 : Wf bh bl) (h : ¬ (ah < bh ∨ ah = bh ∧ al < bl)) (hn : ¬ (ah = bh ∧ al = bl)) : cmp (val ah al) (val bh bl) = 1 := by
  unfold cmp; rw [if_neg (fun e => h ((val_lt h1 h2).1 e)), if_neg (fun e => hn ((val_inj h1 h2).1 e))]
end Go.Proofs.YtpllckgpolhafaaGreatDoor
