/- THE LEAVES: sums, differences, order, of numbers of 128 bits: the code's and the document's. Own work of the verifier. -/
import Derived.Test.YtaeapikhhbjlnaaGreatDoorRows
import Derived.Test.YtaeapikhhbjlnaaGreatDoorZAC
import Derived.WalkKit
import Derived.WalkSpells
import Derived.RowKit3
import Derived.Below
import Derived.Laws.Externs
import Derived.Shelf.Spec.BitsCarry
import Derived.Outline
import Derived.Deep.QuietTactic
import Derived.BigQuiet
import Derived.Deep.RegionHeld3
import Derived.Laws.Bits64
import Derived.Lib.Zigzag
namespace Go.Proofs.YtaeapikhhbjlnaaGreatDoor
open Go.RowKit


theorem add64_0 (x y : Int) (hx : 0 ≤ x) (hy : 0 ≤ y) (w : World) : (callFunc 174 #[.int .u64 x, .int .u64 y, .int .u64 0]).run Tryz.prog w =
    .ok (.value (.tuple #[.int .u64 ((x + y) % 18446744073709551616), .int .u64 ((x + y) / 18446744073709551616)])) w := by
  rw [run_callFunc_extern Tryz.func174 (by kernel_rfl) (by kernel_rfl) (by kernel_rfl) (e := add64Entry) (by kernel_rfl), run_add64 x y 0 (by omega) (by omega) (by omega) (by omega)]
  simp [Result.andThen]

theorem add_words {ah al bh bl : Int} (h1 : Wf ah al) (h2 : Wf bh bl) : wrap64 (wrap64 (ah + bh) + (al + bl) / 18446744073709551616) = hiOf (rnd (val ah al + val bh bl)) ∧ (al + bl) % 18446744073709551616 = loOf (rnd (val ah al + val bh bl)) := by
  obtain ⟨_, _, _, _⟩ := h1; obtain ⟨_, _, _, _⟩ := h2
  unfold wrap64 hiOf loOf rnd val; constructor <;> omega

/-- A number as the model holds it. -/
abbrev num (n : Int) : Value := .agg #[.int .i64 (hiOf n), .int .u64 (loOf n)]

theorem num_of {n h l : Int} (e : h = hiOf n ∧ l = loOf n) : num n = .agg #[.int .i64 h, .int .u64 l] := by rw [e.1, e.2]
theorem bel3 (w : World) (o1 o2 o3 : Obj) : Below w.heap.size w (((w.alloc o1).alloc o2).alloc o3) :=
  (((Below.refl _ _).alloc (Nat.le_refl _) _).alloc (by simp) _).alloc (by simp; omega) _
theorem bel2 (w : World) (o1 o2 : Obj) : Below w.heap.size w ((w.alloc o1).alloc o2) :=
  ((Below.refl _ _).alloc (Nat.le_refl _) _).alloc (by simp) _
theorem bel1 (w : World) (o1 : Obj) : Below w.heap.size w (w.alloc o1) := (Below.refl _ _).alloc (Nat.le_refl _) _

set_option maxHeartbeats 400000 in
theorem add_any (ah al bh bl : Int) (h1 : Wf ah al) (h2 : Wf bh bl) (w : World) :
    Calls Tryz.prog 127 #[.agg #[.int .i64 ah, .int .u64 al], .agg #[.int .i64 bh, .int .u64 bl]] w fun e w' =>
      e = .returned (num (rnd (val ah al + val bh bl))) ∧ Below w.heap.size w w' := by
  rw [num_of (add_words h1 h2)]
  obtain ⟨a1, a2, a3, a4⟩ := h1; obtain ⟨b1, b2, b3, b4⟩ := h2
  go_enter Tryz.func127, Tryz.ntmps127
  go_wp2_with (simp only [add64_0 al bl a3 b3])
  simp [bodyPost, results, Tryz.results127, go_sem]
  exact bel3 _ _ _ _

end Go.Proofs.YtaeapikhhbjlnaaGreatDoor
namespace Go.Proofs.YtaeapikhhbjlnaaGreatDoor
open Go.RowKit

theorem refadd_lo {ah al bh bl : Int} (h1 : Wf ah al) (h2 : Wf bh bl) (h : IntKind.u64.wrap (al + bl) < al) : wrap64 (IntKind.u64.wrap (IntKind.u64.wrap (IntKind.u64.wrap ah + IntKind.u64.wrap bh) + 1)) = hiOf (rnd (val ah al + val bh bl)) ∧ IntKind.u64.wrap (al + bl) = loOf (rnd (val ah al + val bh bl)) := by
  obtain ⟨_, _, _, _⟩ := h1; obtain ⟨_, _, _, _⟩ := h2
  simp only [IntKind.wrap_u64] at *
  unfold wrap64 hiOf loOf rnd val; constructor <;> omega
theorem refadd_hi {ah al bh bl : Int} (h1 : Wf ah al) (h2 : Wf bh bl) (h : ¬ IntKind.u64.wrap (al + bl) < al) : wrap64 (IntKind.u64.wrap (IntKind.u64.wrap ah + IntKind.u64.wrap bh)) = hiOf (rnd (val ah al + val bh bl)) ∧ IntKind.u64.wrap (al + bl) = loOf (rnd (val ah al + val bh bl)) := by
  obtain ⟨_, _, _, _⟩ := h1; obtain ⟨_, _, _, _⟩ := h2
  simp only [IntKind.wrap_u64] at *
  unfold wrap64 hiOf loOf rnd val; constructor <;> omega
set_option maxHeartbeats 400000 in
theorem refadd_any (ah al bh bl : Int) (h1 : Wf ah al) (h2 : Wf bh bl) (w : World) :
    Calls Tryz.prog 139 #[.agg #[.int .i64 ah, .int .u64 al], .agg #[.int .i64 bh, .int .u64 bl]] w fun e w' =>
      e = .returned (num (rnd (val ah al + val bh bl))) ∧ Below w.heap.size w w' := by
  by_cases hc : IntKind.u64.wrap (al + bl) < al
  · rw [num_of (refadd_lo h1 h2 hc)]
    obtain ⟨a1, a2, a3, a4⟩ := h1; obtain ⟨b1, b2, b3, b4⟩ := h2
    go_enter Tryz.func139, Tryz.ntmps139
    go_wp2
    simp [bodyPost, results, Tryz.results139, go_sem]
    exact bel3 _ _ _ _
  · rw [num_of (refadd_hi h1 h2 hc)]
    obtain ⟨a1, a2, a3, a4⟩ := h1; obtain ⟨b1, b2, b3, b4⟩ := h2
    go_enter Tryz.func139, Tryz.ntmps139
    go_wp2
    simp [bodyPost, results, Tryz.results139, go_sem]
    exact bel3 _ _ _ _

set_option maxHeartbeats 400000 in
theorem uns_any (n : Int) (h1 : 0 ≤ n) (h2 : n < 18446744073709551616) (w : World) :
    Calls Tryz.prog 278 #[.int .u64 n] w fun e w' => e = .returned (num n) ∧ Below w.heap.size w w' := by
  rw [num_of (h := 0) (l := n) (by unfold hiOf loOf; constructor <;> omega)]
  go_enter Tryz.func278, Tryz.ntmps278
  go_wp2
  simp [bodyPost, results, Tryz.results278, go_sem]
  exact bel1 _ _
end Go.Proofs.YtaeapikhhbjlnaaGreatDoor
namespace Go.Proofs.YtaeapikhhbjlnaaGreatDoor
open Go.RowKit
end Go.Proofs.YtaeapikhhbjlnaaGreatDoor
