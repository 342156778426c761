/- MEMORY. Own work of the verifier. -/
import Derived.Test.YtliehacfoiigpaaGreatDoorRows
import Derived.WalkKit
import Derived.WalkSpells
import Derived.RowKit3
import Derived.Below
import Derived.Outline
import Derived.Deep.QuietTactic
import Derived.Deep.Draws
import Derived.BigQuiet
import Derived.Laws.Bits64
import Derived.Laws.BitsAllLaws
import Derived.Laws.ShiftsVarLaws
import Derived.Deep.RegionHeld3
import Derived.Deep.DeepCutAuto
import Derived.Laws.OwnMore
import Derived.OwnWalk
import Derived.Test.YtliehacfoiigpaaGreatDoorShelf
import Derived.WalkLawsBesides
namespace Go.Proofs.YtliehacfoiigpaaGreatDoor.Me
open Go.RowKit

theorem bel1 (w : World) (o1 : Obj) : Below w.heap.size w (w.alloc o1) := (Below.refl _ _).alloc (Nat.le_refl _) _
theorem bt {w W W1 : World} (h : Below w.heap.size w W) (k : Below W.heap.size W W1) : Below w.heap.size w W1 := h.trans (k.mono h.size)
theorem new_1 (w : World) (o : Obj) : (w.alloc o).heap[w.heap.size]? = some o := by
  show (w.heap.push _)[w.heap.size]? = _
  simp
theorem hid_of {p : Prop} (h : p) : Hid p := h
theorem retB {A B : Bool} (h : A = B) : Ending.returned (Value.bool A) = .returned (.bool B) := by rw [h]
theorem heap_other (w : World) (a : Addr) (k : Nat) (u : Value) (h : k ≠ a.block) : (w.setCell a u).heap[k]? = w.heap[k]? := Below.heap_setCell _ _ _ _ h
theorem bel_drewB {B : Nat} {a w : World} (h : Below B a w) : Below B a w.drew := ⟨h.os, h.tape, h.output, h.size, h.block⟩
/-- Rows of unlike types lie in unlike blocks. -/
theorem own_apart {W : World} {B B' : Nat} {e e' : TypeId} {s s' : Nat} {v v' : Value} {n n' : Nat} {xs xs' : List Value} (h : W.ownsRow B e s v n xs) (h' : W.ownsRow B' e' s' v' n' xs') (hne : e ≠ e') : v.ownBlock = none ∨ v.ownBlock ≠ v'.ownBlock := by
  rcases h.2 with ⟨k, _⟩ | ⟨g1, c1, cur, k, _, hg, _⟩
  · left; rw [k]; rfl
  right
  rcases h'.2 with ⟨k', _⟩ | ⟨g2, c2, cur', k', _, hg', _⟩
  · rw [k, k']; simp [Value.ownBlock]
  · rw [k, k']
    intro e1
    simp only [Value.ownBlock, Option.some.injEq] at e1
    subst e1
    rw [hg] at hg'
    cases hg'
    exact hne rfl
theorem grown_bel {a b : World} {row : Option Nat} (h : Below a.heap.size a b) : a.grownBy b row := ⟨h.os, h.tape, h.output, h.size, fun k hk _ => h.block k hk⟩
theorem own_atG {W : World} {B : Nat} {e : TypeId} {s n : Nat} {v : Value} {xs : List Value} (h : W.ownsRow B e s v n xs) : v.ownBlock = none ∨ ∃ g, v.ownBlock = some g ∧ B ≤ g ∧ g < W.heap.size := by
  rcases h.2 with ⟨q, _⟩ | ⟨g, cap, cur, q, hB, hg, _⟩
  · left; rw [q]; rfl
  · right; exact ⟨g, by rw [q]; rfl, hB, (Array.getElem?_eq_some_iff.1 hg).1⟩
theorem own_belG {W W' : World} {B : Nat} {e : TypeId} {s n : Nat} {v : Value} {xs : List Value} (h : W.ownsRow B e s v n xs) (hb : Below W.heap.size W W') : W'.ownsRow B e s v n xs := World.ownsRow.kept (row := none) h (grown_bel hb) (by cases e : v.ownBlock <;> simp)
/-- All but some blocks stay. -/
structure Chg (S : Nat → Prop) (W W' : World) : Prop where
  os : W'.os = W.os
  tape : W'.tape = W.tape
  output : W'.output = W.output
  size : W.heap.size ≤ W'.heap.size
  block : ∀ k, k < W.heap.size → ¬ S k → W'.heap[k]? = W.heap[k]?
theorem Chg.refl (S : Nat → Prop) (W : World) : Chg S W W := ⟨rfl, rfl, rfl, Nat.le_refl _, fun _ _ _ => rfl⟩
theorem Chg.trans {S S' : Nat → Prop} {a b c : World} (h : Chg S a b) (k : Chg S' b c) (hs : ∀ x, S' x → S x ∨ a.heap.size ≤ x) : Chg S a c :=
  ⟨k.os.trans h.os, k.tape.trans h.tape, k.output.trans h.output, Nat.le_trans h.size k.size, fun j hj hn => (k.block j (Nat.lt_of_lt_of_le hj h.size) (fun q => by rcases hs j q with r | r; exact hn r; omega)).trans (h.block j hj hn)⟩
theorem Chg.of_grown {S : Nat → Prop} {a b : World} {row : Option Nat} (h : a.grownBy b row) (hs : ∀ x, row = some x → S x) : Chg S a b :=
  ⟨h.os, h.tape, h.output, h.size, fun k hk hn => h.block k hk (fun e => hn (hs k e.symm))⟩
theorem Chg.of_below {S : Nat → Prop} {a b : World} (h : Below a.heap.size a b) : Chg S a b := ⟨h.os, h.tape, h.output, h.size, fun k hk _ => h.block k hk⟩
theorem Chg.row {S : Nat → Prop} {W W' : World} {B : Nat} {e : TypeId} {s n : Nat} {v : Value} {xs : List Value} (k : Chg S W W') (h : W.ownsRow B e s v n xs) (hS : ∀ x, v.ownBlock = some x → ¬ S x) : W'.ownsRow B e s v n xs := by
  refine ⟨h.1, ?_⟩
  rcases h.2 with hn | ⟨g, cap, cur, rfl, hb, hgg, rest⟩
  · exact .inl hn
  · exact .inr ⟨g, cap, cur, rfl, hb, (k.block g (Array.getElem?_eq_some_iff.1 hgg).1 (hS g rfl)).trans hgg, rest⟩
theorem Chg.at_ {S : Nat → Prop} {W W' : World} {p : Nat} {o : Obj} (k : Chg S W W') (h : W.heap[p]? = some o) (hS : ¬ S p) : W'.heap[p]? = some o := (k.block p (Array.getElem?_eq_some_iff.1 h).1 hS).trans h
theorem Chg.below {S : Nat → Prop} {B : Nat} {a b : World} (k : Chg S a b) (hB : B ≤ a.heap.size) (hS : ∀ x, S x → B ≤ x) : Below B a b := ⟨k.os, k.tape, k.output, k.size, fun j hj => k.block j (by omega) (fun q => by have := hS j q; omega)⟩
end Go.Proofs.YtliehacfoiigpaaGreatDoor.Me
/- THE READER: a text that is read line by line; must, next, behind. Own work of the verifier. -/
namespace Go.Proofs.YtliehacfoiigpaaGreatDoor
open Go.RowKit Me

/-- The reader at block rb: what was not read yet, and the number of the line that was read last; all else is as in w0, but for what is new. -/
structure Rd (u : World) (rb : Nat) (w0 : World) (T : List UInt8) (n : Nat) (W : World) : Prop where
  at_ : W.heap[rb]? = some (.cells #[.string ⟨T.toArray⟩, .int .i64 (n : Int)] 45)
  ch : Chg (fun b => b = rb) w0 W
  lo : u.heap.size ≤ rb
  st : Below u.heap.size u W
/-- What whoever gives up panics with. -/
abbrev flt (e : Int) (n : Nat) : Value := .iface 41 (.agg #[.int .i64 e, .int .i64 (n : Int)])
/-- Whoever gives up. -/
abbrev gaveUp (e : Int) (n : Nat) : Ending := .panicked [{ v := flt e n, recovered := false }]
theorem must_yes (rb : Nat) (w : World) : Calls Tryz.prog 11 #[.pointer (some ⟨rb, 0, none⟩), .bool true] w fun e w' => e = .returned (.tuple #[]) ∧ w' = w := by
  go_enter Tryz.func11, Tryz.ntmps11
  go_wp2_with fail
  go_end0
  exact ⟨rfl, rfl⟩
theorem must_no (u : World) (rb : Nat) (T : List UInt8) (n : Nat) (w0 w : World) (h : Rd u rb w0 T n w) : Calls Tryz.prog 11 #[.pointer (some ⟨rb, 0, none⟩), .bool false] w fun e w' => e = gaveUp 5 n ∧ w' = w := by
  have c1 : w.cell? ⟨rb, 1, none⟩ = some (.int .i64 (n : Int)) := by simp [World.cell?, h.at_]
  clear h
  go_enter Tryz.func11, Tryz.ntmps11
  go_wp2_with fail
  exact ⟨rfl, rfl, rfl⟩
end Go.Proofs.YtliehacfoiigpaaGreatDoor
/- THE READER: next, behind. Own work of the verifier. -/
namespace Go.Proofs.YtliehacfoiigpaaGreatDoor
open Go.RowKit Me

theorem chg_set (W : World) (a : Addr) (v : Value) : Chg (fun b => b = a.block) W (W.setCell a v) := ⟨rfl, rfl, rfl, by simp [World.setCell], fun k _ hk => heap_other _ _ _ _ hk⟩
theorem bel_dn {B : Nat} {a w : World} (h : Below B a w) (n : Nat) : Below B a (w.drewN n) := by
  induction n with
  | zero => exact h
  | succ n ih => exact ⟨ih.os, ih.tape, ih.output, ih.size, ih.block⟩
theorem Rd.below {u : World} {rb : Nat} {w0 W W1 : World} {T : List UInt8} {n : Nat} (h : Rd u rb w0 T n W) (hb : Below W.heap.size W W1) : Rd u rb w0 T n W1 :=
  ⟨(hb.block rb (Array.getElem?_eq_some_iff.1 h.at_).1).trans h.at_, h.ch.trans (Chg.of_below (S := fun b => b = rb) hb) (fun _ hx => Or.inl hx), h.lo, bt h.st hb⟩
theorem Rd.re {u : World} {rb : Nat} {w0 W : World} {T : List UInt8} {n : Nat} (h : Rd u rb w0 T n W) : Rd u rb W T n W := ⟨h.at_, Chg.refl _ _, h.lo, h.st⟩
theorem Rd.then {u : World} {rb : Nat} {w0 W W1 : World} {T T1 : List UInt8} {n n1 : Nat} (h : Rd u rb w0 T n W) (k : Rd u rb W T1 n1 W1) : Rd u rb w0 T1 n1 W1 := ⟨k.at_, h.ch.trans k.ch (fun _ hx => Or.inl hx), h.lo, k.st⟩
theorem Rd.cells {u : World} {rb : Nat} {w0 W : World} {T : List UInt8} {n : Nat} (h : Rd u rb w0 T n W) : W.cell? ⟨rb, 0, none⟩ = some (.string ⟨T.toArray⟩) ∧ W.cell? ⟨rb, 1, none⟩ = some (.int .i64 (n : Int)) ∧ W.frozen? ⟨rb, 0, none⟩ = false ∧ W.frozen? ⟨rb, 1, none⟩ = false := by
  refine ⟨?_, ?_, ?_, ?_⟩ <;> simp [World.cell?, World.frozen?, h.at_]
theorem Rd.lt {u : World} {rb : Nat} {w0 W : World} {T : List UInt8} {n : Nat} (h : Rd u rb w0 T n W) : rb < W.heap.size := (Array.getElem?_eq_some_iff.1 h.at_).1
theorem Rd.set1 {u : World} {rb : Nat} {w0 W : World} {T : List UInt8} {n : Nat} (h : Rd u rb w0 T n W) (m : Nat) : Rd u rb w0 T m (W.setCell ⟨rb, 1, none⟩ (.int .i64 (m : Int))) := by
  refine ⟨?_, h.ch.trans (chg_set W ⟨rb, 1, none⟩ _) (fun _ hx => Or.inl hx), h.lo, h.st.setCell (p := ⟨rb, 1, none⟩) h.lo _⟩
  have := Lib.heap_setCell_same (i := 1) h.at_ (.int .i64 (m : Int))
  simpa using this
theorem Rd.set0 {u : World} {rb : Nat} {w0 W : World} {T : List UInt8} {n : Nat} (h : Rd u rb w0 T n W) (S : List UInt8) : Rd u rb w0 S n (W.setCell ⟨rb, 0, none⟩ (.string ⟨S.toArray⟩)) := by
  refine ⟨?_, h.ch.trans (chg_set W ⟨rb, 0, none⟩ _) (fun _ hx => Or.inl hx), h.lo, h.st.setCell (p := ⟨rb, 0, none⟩) h.lo _⟩
  have := Lib.heap_setCell_same (i := 0) h.at_ (.string ⟨S.toArray⟩)
  simpa using this
/-- The first line of a text, what is behind it, and whether it is ended. -/
abbrev cut10 (T : List UInt8) : List UInt8 × List UInt8 × Bool := Lib.cut T [10]
/-- What next does. -/
def NxR (u : World) (rb : Nat) (w0 : World) (T : List UInt8) (m : Nat) (e : Ending) (W : World) : Prop :=
  ((cut10 T).2.2 = true ∧ e = .returned (.string ⟨(cut10 T).1.toArray⟩) ∧ Rd u rb w0 (cut10 T).2.1 m W) ∨ ((cut10 T).2.2 = false ∧ e = gaveUp 5 m ∧ Rd u rb w0 T m W)
/-- The length that the library's search looks at is there. -/
def Mx (W : World) : Prop := ∃ m, W.cell? ⟨0, 0, none⟩ = some (.int .i64 m)
theorem Mx.below {W W1 : World} (h : Mx W) (hb : Below W.heap.size W W1) : Mx W1 := by
  obtain ⟨m, hm⟩ := h
  exact ⟨m, (hb.cell (World.block_lt_of_cell? W _ hm)).trans hm⟩
set_option maxHeartbeats 1000000 in
theorem next_any (u : World) (rb : Nat) (T : List UInt8) (n : Nat) (w0 w : World) (h : Rd u rb w0 T n w) (hm : Mx u) (hT : T.length ≤ 4194304) (hn : n ≤ 4611686018427387904) :
    Calls Tryz.prog 10 #[.pointer (some ⟨rb, 0, none⟩)] w fun e w' => NxR u rb w0 T (n + 1) e w' := by
  obtain ⟨c0, c1, f0, f1⟩ := h.cells
  obtain ⟨m, hm1⟩ : ∃ m, m = n + 1 := ⟨_, rfl⟩
  rw [← hm1]
  have h1 := h.set1 m
  have hw1 : IntKind.i64.wrap ((n : Int) + 1) = (m : Int) := by rw [IntKind.wrap_i64]; omega
  have HCt : Hid (∀ W, Mx W → Calls Tryz.prog 15 #[.string ⟨T.toArray⟩, .string ⟨#[10]⟩] W fun e w' => e = .returned (.tuple #[.string ⟨(cut10 T).1.toArray⟩, .string ⟨(cut10 T).2.1.toArray⟩, .bool (cut10 T).2.2]) ∧ Below W.heap.size W w') := fun W ⟨m, k⟩ => by
    refine (Tryz.strings_Cut ⟨T.toArray⟩ ⟨#[10]⟩ m W (by show T.toArray.size < _; simp; omega) k).mono ?_
    rintro e w' ⟨rfl, q, rfl⟩
    exact ⟨rfl, bel_dn (Below.refl _ _) _⟩
  have HMx : Hid (∀ W, Rd u rb w0 T m W → Mx W) := fun W k => hm.below k.st
  have HR1 := hid_of h1
  have HNo : Hid (∀ W, Rd u rb w0 T m W → Calls Tryz.prog 11 #[.pointer (some ⟨rb, 0, none⟩), .bool false] W fun e w' => e = gaveUp 5 m ∧ w' = W) := fun W k => must_no u rb T m w0 W k
  have HYes : Hid (∀ W, Calls Tryz.prog 11 #[.pointer (some ⟨rb, 0, none⟩), .bool true] W fun e w' => e = .returned (.tuple #[]) ∧ w' = W) := fun W => must_yes rb W
  have HQ : Hid (∀ e W, ((cut10 T).2.2 = true ∧ e = .returned (.string ⟨(cut10 T).1.toArray⟩) ∧ Rd u rb w0 (cut10 T).2.1 m W) ∨ ((cut10 T).2.2 = false ∧ e = gaveUp 5 m ∧ Rd u rb w0 T m W) → NxR u rb w0 T m e W) := fun e W k => k
  obtain ⟨d0, d1, g0, g1⟩ := h1.cells
  generalize hW1 : w.setCell ⟨rb, 1, none⟩ (.int .i64 (m : Int)) = W1 at *
  clear h h1 hm hm1
  go_enter Tryz.func10, Tryz.ntmps10
  go_upto_region 2 with fail
  clear hW1 c0 c1 f0 f1
  have DC : Hid _ := HCt.out W1 (HMx.out _ HR1.out)
  go_wp2_with fail
  refine Calls.mono DC.out ?_
  rintro e w2 ⟨rfl, hb2⟩
  have HR2 := hid_of (HR1.out.below hb2)
  clear DC HCt hb2 HR1 d0 d1 g0 g1
  cases hE : (cut10 T).2.2
  · have D3 : Hid _ := HNo.out w2 HR2.out
    have HF := hid_of (HQ.out (gaveUp 5 m) w2 (Or.inr ⟨hE, rfl, HR2.out⟩))
    clear hE
    go_wp2_with fail
    refine Calls.mono D3.out ?_
    rintro e w3 ⟨rfl, rfl⟩
    go_wp2_with fail
    exact ⟨rfl, HF.out⟩
  · obtain ⟨d0, d1, g0, g1⟩ := HR2.out.cells
    have HF := hid_of (HQ.out _ _ (Or.inl ⟨hE, rfl, HR2.out.set0 (cut10 T).2.1⟩))
    clear hE
    go_wp2_with fail
    refine Calls.mono (HYes.out _) ?_
    rintro e w3 ⟨rfl, rfl⟩
    go_wp2_with fail
    go_ret
    exact HF.out
/-- What behind does. -/
def BhR (_rb : Nat) (w : World) (S B : List UInt8) (n : Nat) (e : Ending) (W : World) : Prop :=
  W = w ∧ ((Lib.hasPrefix S B = true ∧ e = .returned (.string ⟨(Lib.trimPrefix S B).toArray⟩)) ∨ (Lib.hasPrefix S B = false ∧ e = gaveUp 5 n))
set_option maxHeartbeats 1000000 in
theorem behind_any (u : World) (rb : Nat) (T S B : List UInt8) (n : Nat) (w0 w : World) (h : Rd u rb w0 T n w) :
    Calls Tryz.prog 9 #[.pointer (some ⟨rb, 0, none⟩), .string ⟨S.toArray⟩, .string ⟨B.toArray⟩] w fun e w' => BhR rb w S B n e w' := by
  have HCt : Hid (∀ W, Calls Tryz.prog 14 #[.string ⟨S.toArray⟩, .string ⟨B.toArray⟩] W fun e w' => e = .returned (.tuple #[.string ⟨(Lib.trimPrefix S B).toArray⟩, .bool (Lib.hasPrefix S B)]) ∧ w' = W) := fun W => Tryz.strings_CutPrefix ⟨S.toArray⟩ ⟨B.toArray⟩ W
  have HNo : Hid (Calls Tryz.prog 11 #[.pointer (some ⟨rb, 0, none⟩), .bool false] w fun e w' => e = gaveUp 5 n ∧ w' = w) := must_no u rb T n w0 w h
  have HYes : Hid (∀ W, Calls Tryz.prog 11 #[.pointer (some ⟨rb, 0, none⟩), .bool true] W fun e w' => e = .returned (.tuple #[]) ∧ w' = W) := fun W => must_yes rb W
  have HQ : Hid (∀ e, (Lib.hasPrefix S B = true ∧ e = .returned (.string ⟨(Lib.trimPrefix S B).toArray⟩)) ∨ (Lib.hasPrefix S B = false ∧ e = gaveUp 5 n) → BhR rb w S B n e w) := fun e k => ⟨rfl, k⟩
  clear h
  go_enter Tryz.func9, Tryz.ntmps9
  go_wp2_with fail
  refine Calls.mono (HCt.out _) ?_
  rintro e w2 ⟨rfl, rfl⟩
  cases hE : Lib.hasPrefix S B
  · have HF := hid_of (HQ.out (gaveUp 5 n) (Or.inr ⟨hE, rfl⟩))
    clear hE HCt HYes HQ
    go_wp2_with fail
    refine Calls.mono HNo.out ?_
    rintro e w3 ⟨rfl, rfl⟩
    go_wp2_with fail
    exact ⟨rfl, HF.out⟩
  · have HF := hid_of (HQ.out _ (Or.inl ⟨hE, rfl⟩))
    clear hE HCt HNo HQ
    go_wp2_with fail
    refine Calls.mono (HYes.out _) ?_
    rintro e w3 ⟨rfl, rfl⟩
    go_wp2_with fail
    go_ret
    exact HF.out
end Go.Proofs.YtliehacfoiigpaaGreatDoor
