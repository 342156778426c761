/- THE LEAVES: sums, differences, order, of numbers of 128 bits: the code's and the document's. Own work of the verifier. -/
import Derived.Test.YtfnohbalkpponaaGreatDoorRows
import Derived.Test.YtfnohbalkpponaaGreatDoorZAC
import Derived.WalkKit
import Derived.WalkSpells
import Derived.RowKit3
import Derived.Below
import Derived.Laws.Externs
import Derived.Shelf.Spec.BitsCarry
import Derived.Outline
import Derived.Deep.QuietTactic
import Derived.BigQuiet
import Derived.Deep.RegionHeld3
import Derived.Laws.Bits64
import Derived.Lib.Zigzag
namespace Go.Proofs.YtfnohbalkpponaaGreatDoor
open Go.RowKit


theorem add64_0 (x y : Int) (hx : 0 ≤ x) (hy : 0 ≤ y) (w : World) : (callFunc 194 #[.int .u64 x, .int .u64 y, .int .u64 0]).run Tryz.prog w =
    .ok (.value (.tuple #[.int .u64 ((x + y) % 18446744073709551616), .int .u64 ((x + y) / 18446744073709551616)])) w := by
  rw [run_callFunc_extern Tryz.func194 (by kernel_rfl) (by kernel_rfl) (by kernel_rfl) (e := add64Entry) (by kernel_rfl), run_add64 x y 0 (by omega) (by omega) (by omega) (by omega)]
  simp [Result.andThen]

theorem add_words {ah al bh bl : Int} (h1 : Wf ah al) (h2 : Wf bh bl) : wrap64 (wrap64 (ah + bh) + (al + bl) / 18446744073709551616) = hiOf (rnd (val ah al + val bh bl)) ∧ (al + bl) % 18446744073709551616 = loOf (rnd (val ah al + val bh bl)) := by
  obtain ⟨_, _, _, _⟩ := h1; obtain ⟨_, _, _, _⟩ := h2
  unfold wrap64 hiOf loOf rnd val; constructor <;> omega

/-- A number as the model holds it. -/
abbrev num (n : Int) : Value := .agg #[.int .i64 (hiOf n), .int .u64 (loOf n)]

theorem num_of {n h l : Int} (e : h = hiOf n ∧ l = loOf n) : num n = .agg #[.int .i64 h, .int .u64 l] := by rw [e.1, e.2]
theorem bel3 (w : World) (o1 o2 o3 : Obj) : Below w.heap.size w (((w.alloc o1).alloc o2).alloc o3) :=
  (((Below.refl _ _).alloc (Nat.le_refl _) _).alloc (by simp) _).alloc (by simp; omega) _
theorem bel2 (w : World) (o1 o2 : Obj) : Below w.heap.size w ((w.alloc o1).alloc o2) :=
  ((Below.refl _ _).alloc (Nat.le_refl _) _).alloc (by simp) _
theorem bel1 (w : World) (o1 : Obj) : Below w.heap.size w (w.alloc o1) := (Below.refl _ _).alloc (Nat.le_refl _) _

set_option maxHeartbeats 400000 in
theorem add_any (ah al bh bl : Int) (h1 : Wf ah al) (h2 : Wf bh bl) (w : World) :
    Calls Tryz.prog 134 #[.agg #[.int .i64 ah, .int .u64 al], .agg #[.int .i64 bh, .int .u64 bl]] w fun e w' =>
      e = .returned (num (rnd (val ah al + val bh bl))) ∧ Below w.heap.size w w' := by
  rw [num_of (add_words h1 h2)]
  obtain ⟨a1, a2, a3, a4⟩ := h1; obtain ⟨b1, b2, b3, b4⟩ := h2
  go_enter Tryz.func134, Tryz.ntmps134
  go_wp2_with (simp only [add64_0 al bl a3 b3])
  simp [bodyPost, results, Tryz.results134, go_sem]
  exact bel3 _ _ _ _

end Go.Proofs.YtfnohbalkpponaaGreatDoor
namespace Go.Proofs.YtfnohbalkpponaaGreatDoor
open Go.RowKit


set_option maxHeartbeats 400000 in
theorem uns_any (n : Int) (h1 : 0 ≤ n) (h2 : n < 18446744073709551616) (w : World) :
    Calls Tryz.prog 263 #[.int .u64 n] w fun e w' => e = .returned (num n) ∧ Below w.heap.size w w' := by
  rw [num_of (h := 0) (l := n) (by unfold hiOf loOf; constructor <;> omega)]
  go_enter Tryz.func263, Tryz.ntmps263
  go_wp2
  simp [bodyPost, results, Tryz.results263, go_sem]
  exact bel1 _ _
end Go.Proofs.YtfnohbalkpponaaGreatDoor
namespace Go.Proofs.YtfnohbalkpponaaGreatDoor
open Go.RowKit
theorem cmp_lt {ah al bh bl : Int} (h1 : Wf ah al) (h2 : Wf bh bl) (h : ah < bh) : cmp (val ah al) (val bh bl) = -1 := by
  unfold cmp; rw [if_pos ((val_lt h1 h2).2 (Or.inl h))]
theorem cmp_lt' {h al bl : Int} (h1 : Wf h al) (h2 : Wf h bl) (hl : al < bl) : cmp (val h al) (val h bl) = -1 := by
  unfold cmp; rw [if_pos ((val_lt h1 h2).2 (Or.inr ⟨rfl, hl⟩))]
theorem cmp_eq {h l : Int} : cmp (val h l) (val h l) = 0 := by unfold cmp; simp
theorem cmp_gt {ah al bh bl : Int} (h1 : Wf ah al) (h2 : Wf bh bl) (h : ¬ (ah < bh ∨ ah = bh ∧ al < bl)) (hn : ¬ (ah = bh ∧ al = bl)) : cmp (val ah al) (val bh bl) = 1 := by
  unfold cmp; rw [if_neg (fun e => h ((val_lt h1 h2).1 e)), if_neg (fun e => hn ((val_inj h1 h2).1 e))]
end Go.Proofs.YtfnohbalkpponaaGreatDoor
