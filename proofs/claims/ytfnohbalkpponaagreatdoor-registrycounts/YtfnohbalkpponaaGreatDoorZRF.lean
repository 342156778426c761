/- THE REGISTRY in memory: its cells; its lock. Own work of the verifier. -/
import Derived.Test.YtfnohbalkpponaaGreatDoorZAY
import Derived.Laws.ResultCell
import Derived.Test.YtfnohbalkpponaaGreatDoorZRD
import Derived.Maps.OwnSet
import Derived.Test.YtfnohbalkpponaaGreatDoorZBR
namespace Go.Proofs.YtfnohbalkpponaaGreatDoor
open Go.RowKit

/-- The cells of a registry. -/
def rgL (n p k cnt : Nat) (ins : List Value) (nx sv : Int) (mp : Nat) (room : Int) (fb : Nat) (tv : Value) (rf : Int) : List Value :=
  .int .i64 (n : Int) :: .int .i64 (p : Int) :: .pointer (some ⟨k, 0, none⟩) :: .int .i64 (cnt : Int) :: (ins ++ [.int .i64 nx, .int .i64 sv, .map (some mp), .int .i64 room, .pointer (some ⟨fb, 0, none⟩), tv, .int .u64 rf])
section
variable {n p k cnt : Nat} {ins : List Value} {nx sv : Int} {mp : Nat} {room : Int} {fb : Nat} {tv : Value} {rf : Int}
theorem rgL_len (h : ins.length = 1280) : (rgL n p k cnt ins nx sv mp room fb tv rf).length = 1291 := by
  unfold rgL
  simp only [List.length_cons, List.length_append, h, List.length_nil]
theorem rgL_ins (h : ins.length = 1280) (j : Nat) (hj : j < 1280) : (rgL n p k cnt ins nx sv mp room fb tv rf)[4 + j]? = ins[j]? := by
  unfold rgL
  rw [show 4 + j = j + 1 + 1 + 1 + 1 by omega]
  simp only [List.getElem?_cons_succ]
  rw [List.getElem?_append_left (by omega)]
theorem rgL_tl (h : ins.length = 1280) (j : Nat) : (rgL n p k cnt ins nx sv mp room fb tv rf)[1284 + j]? = [Value.int .i64 nx, .int .i64 sv, .map (some mp), .int .i64 room, .pointer (some ⟨fb, 0, none⟩), tv, .int .u64 rf][j]? := by
  unfold rgL
  rw [show 1284 + j = (1280 + j) + 1 + 1 + 1 + 1 by omega]
  simp only [List.getElem?_cons_succ]
  rw [List.getElem?_append_right (by omega), h, Nat.add_sub_cancel_left]
theorem rgL_setI (h : ins.length = 1280) (j : Nat) (hj : j < 1280) (v : Value) : (rgL n p k cnt ins nx sv mp room fb tv rf).set (4 + j) v = rgL n p k cnt (ins.set j v) nx sv mp room fb tv rf := by
  unfold rgL
  rw [show 4 + j = j + 1 + 1 + 1 + 1 by omega]
  simp only [List.set_cons_succ]
  rw [List.set_append_left _ _ (by omega)]
theorem rgL_setT (h : ins.length = 1280) (j : Nat) (v : Value) : (rgL n p k cnt ins nx sv mp room fb tv rf).set (1284 + j) v = .int .i64 (n : Int) :: .int .i64 (p : Int) :: .pointer (some ⟨k, 0, none⟩) :: .int .i64 (cnt : Int) :: (ins ++ [Value.int .i64 nx, .int .i64 sv, .map (some mp), .int .i64 room, .pointer (some ⟨fb, 0, none⟩), tv, .int .u64 rf].set j v) := by
  unfold rgL
  rw [show 1284 + j = (1280 + j) + 1 + 1 + 1 + 1 by omega]
  simp only [List.set_cons_succ]
  rw [List.set_append_right _ _ (by omega), h, Nat.add_sub_cancel_left]
theorem rgL_nx (h : ins.length = 1280) (x : Int) : (rgL n p k cnt ins nx sv mp room fb tv rf).set 1284 (.int .i64 x) = rgL n p k cnt ins x sv mp room fb tv rf := rgL_setT h 0 _
theorem rgL_sv (h : ins.length = 1280) (x : Int) : (rgL n p k cnt ins nx sv mp room fb tv rf).set 1285 (.int .i64 x) = rgL n p k cnt ins nx x mp room fb tv rf := rgL_setT h 1 _
theorem rgL_room (h : ins.length = 1280) (x : Int) : (rgL n p k cnt ins nx sv mp room fb tv rf).set 1287 (.int .i64 x) = rgL n p k cnt ins nx sv mp x fb tv rf := rgL_setT h 3 _
theorem rgL_tv (h : ins.length = 1280) (x : Value) : (rgL n p k cnt ins nx sv mp room fb tv rf).set 1289 x = rgL n p k cnt ins nx sv mp room fb x rf := rgL_setT h 5 _
theorem rgL_rf (h : ins.length = 1280) (x : Int) : (rgL n p k cnt ins nx sv mp room fb tv rf).set 1290 (.int .u64 x) = rgL n p k cnt ins nx sv mp room fb tv x := rgL_setT h 6 _
end
/-- A block of these cells. -/
def RgB (w : World) (b : Nat) (L : List Value) : Prop := w.heap[b]? = some (.cells L.toArray 97 (0, 0))
theorem RgB.cell {w : World} {b : Nat} {L : List Value} (h : RgB w b L) (i : Nat) : w.cell? ⟨b, i, none⟩ = L[i]? := by
  unfold RgB at h; simp [World.cell?, h]
theorem RgB.fr {w : World} {b : Nat} {L : List Value} (h : RgB w b L) (i : Nat) : w.frozen? ⟨b, i, none⟩ = false := by
  unfold RgB at h; simp [World.frozen?, h]
theorem RgB.lt {w : World} {b : Nat} {L : List Value} (h : RgB w b L) : b < w.heap.size := (Array.getElem?_eq_some_iff.1 h).1
theorem RgB.set {w : World} {b : Nat} {L : List Value} (h : RgB w b L) (i : Nat) (v : Value) : RgB (w.setCell ⟨b, i, none⟩ v) b (L.set i v) := by
  unfold RgB at *
  rw [heap_setCell_same w b i _ _ _ h]
  simp
theorem RgB.below {w w' : World} {b : Nat} {L : List Value} (h : RgB w b L) (hb : Below w.heap.size w w') : RgB w' b L := (hb.block b h.lt).trans h
theorem RgB.chg {w w' : World} {b : Nat} {L : List Value} {S : Nat → Prop} (h : RgB w b L) (hc : Chg S w w') (hS : ¬ S b) : RgB w' b L := hc.at_ h hS
/-- An instrument, as it stands in a registry. -/
structure InS where
  kd : Int
  nm : List UInt8
  hp : List UInt8
  lb : Nat
  lo : Nat
  la : Option Addr
  lc : Nat
  D : List (List UInt8 × List UInt8)
  s : Nat
/-- The instruments' cells. -/
def InsAt (ins : List Value) (I : List InS) : Prop := ins.length = 1280 ∧ ∀ i (h : i < I.length), ins[i * 5]? = some (.int .i64 I[i].kd) ∧ ins[i * 5 + 1]? = some (.string ⟨I[i].nm.toArray⟩) ∧ ins[i * 5 + 2]? = some (.string ⟨I[i].hp.toArray⟩) ∧ ins[i * 5 + 3]? = some (.slice I[i].la I[i].D.length I[i].lc) ∧ ins[i * 5 + 4]? = some (.pointer (some ⟨I[i].s, 0, none⟩))
/-- A registry's own block, and what does not change. -/
structure Rg where
  b : Nat
  k : Nat
  ph : Nat
  mp : Nat
  fb : Nat
  n : Nat
  p : Nat
/-- The block, the lock being free; t: how many have held it. -/
def RgH (R : Rg) (I : List InS) (nx sv : Nat) (room : Int) (tv : Value) (rf : Int) (w : World) : Prop := ∃ ins, InsAt ins I ∧ I.length ≤ 256 ∧ RgB w R.b (rgL R.n R.p R.k I.length ins (nx : Int) (sv : Int) R.mp room R.fb tv rf)
section
variable {R : Rg} {I : List InS} {nx sv : Nat} {room : Int} {tv : Value} {rf : Int} {w w' : World}
theorem RgH.lt (h : RgH R I nx sv room tv rf w) : R.b < w.heap.size := let ⟨_, _, _, k⟩ := h; k.lt
theorem RgH.fr (h : RgH R I nx sv room tv rf w) (i : Nat) : w.frozen? ⟨R.b, i, none⟩ = false := let ⟨_, _, _, k⟩ := h; k.fr i
theorem RgH.below (h : RgH R I nx sv room tv rf w) (hb : Below w.heap.size w w') : RgH R I nx sv room tv rf w' := let ⟨_, a, c, k⟩ := h; ⟨_, a, c, k.below hb⟩
theorem RgH.chg {S : Nat → Prop} (h : RgH R I nx sv room tv rf w) (hc : Chg S w w') (hS : ¬ S R.b) : RgH R I nx sv room tv rf w' := let ⟨_, a, c, k⟩ := h; ⟨_, a, c, k.chg hc hS⟩
theorem RgH.ty (h : RgH R I nx sv room tv rf w) : ∃ cs z, w.heap[R.b]? = some (.cells cs 97 z) := let ⟨_, _, _, k⟩ := h; ⟨_, _, k⟩
theorem RgH.len (h : RgH R I nx sv room tv rf w) : I.length ≤ 256 := let ⟨_, _, c, _⟩ := h; c
theorem RgH.c0 (h : RgH R I nx sv room tv rf w) : w.cell? ⟨R.b, 0, none⟩ = some (.int .i64 (R.n : Int)) := let ⟨_, _, _, k⟩ := h; k.cell 0
theorem RgH.c1 (h : RgH R I nx sv room tv rf w) : w.cell? ⟨R.b, 1, none⟩ = some (.int .i64 (R.p : Int)) := let ⟨_, _, _, k⟩ := h; k.cell 1
theorem RgH.c2 (h : RgH R I nx sv room tv rf w) : w.cell? ⟨R.b, 2, none⟩ = some (.pointer (some ⟨R.k, 0, none⟩)) := let ⟨_, _, _, k⟩ := h; k.cell 2
theorem RgH.c3 (h : RgH R I nx sv room tv rf w) : w.cell? ⟨R.b, 3, none⟩ = some (.int .i64 (I.length : Int)) := let ⟨_, _, _, k⟩ := h; k.cell 3
theorem RgH.cNx (h : RgH R I nx sv room tv rf w) : w.cell? ⟨R.b, 1284, none⟩ = some (.int .i64 (nx : Int)) := let ⟨_, a, _, k⟩ := h; (k.cell 1284).trans (rgL_tl a.1 0)
theorem RgH.cSv (h : RgH R I nx sv room tv rf w) : w.cell? ⟨R.b, 1285, none⟩ = some (.int .i64 (sv : Int)) := let ⟨_, a, _, k⟩ := h; (k.cell 1285).trans (rgL_tl a.1 1)
theorem RgH.cMp (h : RgH R I nx sv room tv rf w) : w.cell? ⟨R.b, 1286, none⟩ = some (.map (some R.mp)) := let ⟨_, a, _, k⟩ := h; (k.cell 1286).trans (rgL_tl a.1 2)
theorem RgH.cRoom (h : RgH R I nx sv room tv rf w) : w.cell? ⟨R.b, 1287, none⟩ = some (.int .i64 room) := let ⟨_, a, _, k⟩ := h; (k.cell 1287).trans (rgL_tl a.1 3)
theorem RgH.cFb (h : RgH R I nx sv room tv rf w) : w.cell? ⟨R.b, 1288, none⟩ = some (.pointer (some ⟨R.fb, 0, none⟩)) := let ⟨_, a, _, k⟩ := h; (k.cell 1288).trans (rgL_tl a.1 4)
theorem RgH.cTv (h : RgH R I nx sv room tv rf w) : w.cell? ⟨R.b, 1289, none⟩ = some tv := let ⟨_, a, _, k⟩ := h; (k.cell 1289).trans (rgL_tl a.1 5)
theorem RgH.cRf (h : RgH R I nx sv room tv rf w) : w.cell? ⟨R.b, 1290, none⟩ = some (.int .u64 rf) := let ⟨_, a, _, k⟩ := h; (k.cell 1290).trans (rgL_tl a.1 6)
theorem RgH.setNx (h : RgH R I nx sv room tv rf w) (x : Nat) : RgH R I x sv room tv rf (w.setCell ⟨R.b, 1284, none⟩ (.int .i64 (x : Int))) := let ⟨_, a, c, k⟩ := h; ⟨_, a, c, by have := k.set 1284 (.int .i64 (x : Int)); rw [rgL_nx a.1] at this; exact this⟩
theorem RgH.setSv (h : RgH R I nx sv room tv rf w) (x : Nat) : RgH R I nx x room tv rf (w.setCell ⟨R.b, 1285, none⟩ (.int .i64 (x : Int))) := let ⟨_, a, c, k⟩ := h; ⟨_, a, c, by have := k.set 1285 (.int .i64 (x : Int)); rw [rgL_sv a.1] at this; exact this⟩
theorem RgH.setRoom (h : RgH R I nx sv room tv rf w) (x : Int) : RgH R I nx sv x tv rf (w.setCell ⟨R.b, 1287, none⟩ (.int .i64 x)) := let ⟨_, a, c, k⟩ := h; ⟨_, a, c, by have := k.set 1287 (.int .i64 x); rw [rgL_room a.1] at this; exact this⟩
theorem RgH.setTv (h : RgH R I nx sv room tv rf w) (x : Value) : RgH R I nx sv room x rf (w.setCell ⟨R.b, 1289, none⟩ x) := let ⟨_, a, c, k⟩ := h; ⟨_, a, c, by have := k.set 1289 x; rw [rgL_tv a.1] at this; exact this⟩
theorem RgH.setRf (h : RgH R I nx sv room tv rf w) (x : Int) : RgH R I nx sv room tv x (w.setCell ⟨R.b, 1290, none⟩ (.int .u64 x)) := let ⟨_, a, c, k⟩ := h; ⟨_, a, c, by have := k.set 1290 (.int .u64 x); rw [rgL_rf a.1] at this; exact this⟩
theorem RgH.ins (h : RgH R I nx sv room tv rf w) (i : Nat) (hi : i < I.length) : w.cell? ⟨R.b, 4 + i * 5, none⟩ = some (.int .i64 I[i].kd) ∧ w.cell? ⟨R.b, 4 + i * 5 + 1, none⟩ = some (.string ⟨I[i].nm.toArray⟩) ∧ w.cell? ⟨R.b, 4 + i * 5 + 2, none⟩ = some (.string ⟨I[i].hp.toArray⟩) ∧ w.cell? ⟨R.b, 4 + i * 5 + 3, none⟩ = some (.slice I[i].la I[i].D.length I[i].lc) ∧ w.cell? ⟨R.b, 4 + i * 5 + 4, none⟩ = some (.pointer (some ⟨I[i].s, 0, none⟩)) := by
  obtain ⟨ins, a, c, k⟩ := h
  obtain ⟨h0, h1, h2, h3, h4⟩ := a.2 i hi
  have e : ∀ j, j < 5 → w.cell? ⟨R.b, 4 + i * 5 + j, none⟩ = ins[i * 5 + j]? := fun j hj => by
    rw [k.cell, Nat.add_assoc, rgL_ins a.1 (i * 5 + j) (by omega)]
  exact ⟨(e 0 (by decide)).trans h0, (e 1 (by decide)).trans h1, (e 2 (by decide)).trans h2, (e 3 (by decide)).trans h3, (e 4 (by decide)).trans h4⟩
end
end Go.Proofs.YtfnohbalkpponaaGreatDoor
/- THE REGISTRY's LOCK, its instruments. Own work of the verifier. -/
namespace Go.Proofs.YtfnohbalkpponaaGreatDoor
open Go.RowKit

theorem kp {w W : World} {a : Addr} {u : Value} (h : w.cell? a = some u) (hb : Below w.heap.size w W) : W.cell? a = some u := (hb.cell (lt_of_cell h)).trans h
theorem hidO {p : Prop} (h : p) : Hid p := h
/-- What waits for the lock looks whether it is its turn: it is. -/
theorem ltake1_any (b x0 x1 x2 : Nat) (t : Int) (w : World) (h0 : w.cell? ⟨x0, 0, none⟩ = some (.pointer (some ⟨b, 1284, none⟩))) (h1 : w.cell? ⟨x1, 0, none⟩ = some (.pointer none)) (h2 : w.cell? ⟨x2, 0, none⟩ = some (.int .i64 t)) (hs : w.cell? ⟨b, 1285, none⟩ = some (.int .i64 t)) :
    Calls Tryz.prog 60 #[.pointer (some ⟨x0, 0, none⟩), .pointer (some ⟨x1, 0, none⟩), .pointer (some ⟨x2, 0, none⟩)] w fun e w' => e = .returned (.bool true) ∧ Hid (Below w.heap.size w w') := by
  have HL : Hid (∀ W, W.cell? ⟨b, 1285, none⟩ = some (.int .i64 t) → Calls Tryz.prog 61 #[.pointer (some ⟨b, 1285, none⟩), .pointer none] W fun e w' => e = .returned (.int .i64 t) ∧ w' = W) := fun W h => wload_any b 1285 t W h
  go_enter Tryz.func60, Tryz.ntmps60
  go_upto_region 1 with fail
  go_quiet (first | (go_at_call 61; exact Calls.quiet_of_same (HL.out _ (by assumption))))
  go_wp2_with fail
  go_ret
  exact ⟨rfl, below_drew _ _⟩
theorem box_c {w : World} {x : Nat} {a : Value} {T : TypeId} (h : w.heap[x]? = some (.cells #[a] T (0, 0))) : w.cell? ⟨x, 0, none⟩ = some a := by simp [World.cell?, h]
theorem box_f {w : World} {x : Nat} {a : Value} {T : TypeId} (h : w.heap[x]? = some (.cells #[a] T (0, 0))) : w.frozen? ⟨x, 0, none⟩ = false := by simp [World.frozen?, h]
theorem three_boxes (w : World) (a b c : Value) (ta tb tc : TypeId) :
    (((w.alloc (.cells #[a] ta)).alloc (.cells #[b] tb)).alloc (.cells #[c] tc)).heap[w.heap.size]? = some (.cells #[a] ta (0, 0)) ∧ (((w.alloc (.cells #[a] ta)).alloc (.cells #[b] tb)).alloc (.cells #[c] tc)).heap[w.heap.size + 1]? = some (.cells #[b] tb (0, 0)) ∧ (((w.alloc (.cells #[a] ta)).alloc (.cells #[b] tb)).alloc (.cells #[c] tc)).heap[w.heap.size + 1 + 1]? = some (.cells #[c] tc (0, 0)) ∧ True := by
  refine ⟨?_, ?_, ?_, trivial⟩
  · rw [(bel1 _ _).block _ (by simp; omega), (bel1 _ _).block _ (by simp), new_1]
  · rw [(bel1 _ _).block _ (by simp), show w.heap.size + 1 = (w.alloc (.cells #[a] ta)).heap.size by simp, new_1]
  · rw [show w.heap.size + 1 + 1 = ((w.alloc (.cells #[a] ta)).alloc (.cells #[b] tb)).heap.size by simp, new_1]
theorem load_i64 (g : Nat) (x : Int) (w : World) (c0 : w.cell? ⟨g, 0, none⟩ = some (.int .i64 x)) : (loadVar 2 ⟨g, 0, none⟩).run Tryz.prog w = .ok (.int .i64 x) w := by
  simp [loadVar, go_sem, c0]
theorem ret_take (tmps : Array Value) (g : Nat) (x : Int) (w : World) (hp : tmps.getD 4 undef = .pointer (some ⟨g, 0, none⟩)) (c0 : w.cell? ⟨g, 0, none⟩ = some (.int .i64 x)) :
    (results Tryz.f31 tmps).run Tryz.prog w = .ok (.tuple #[.int .i64 x, tmps.getD 5 undef]) w := by
  rw [results_cell_tmp (p := 4) (u := 5) (ty := 2) rfl, hp]
  simp [asAddr, load_i64 g x w c0, Result.andThen]
/-- The lock is taken, without a gate: nobody holds it. -/
theorem ltake_any {R : Rg} {I : List InS} {t : Nat} {room : Int} {tv : Value} {rf : Int} {w : World} (h : RgH R I t t room tv rf w) (ht : t < 4611686018427387904) :
    Calls Tryz.prog 31 #[.pointer (some ⟨R.b, 1284, none⟩), .pointer none] w fun e w' => e = .returned (.tuple #[.int .i64 (t : Int), .int .i64 0]) ∧ Hid (RgH R I (t + 1) t room tv rf w') ∧ Hid (Chg (fun x => x = R.b) w w') := by
  have hmf : ∀ (fn : Fn) (first cap : Array Value) (w : World), (Instr.makeFunc fn first cap).run Tryz.prog w = .ok (.func fn first cap) w := fun _ _ _ _ => rfl
  go_enter Tryz.func31, Tryz.ntmps31
  go_upto_region 1 with fail
  have HR0 : Hid (RgH R I t t room tv rf (((w.alloc (.cells #[.pointer (some ⟨R.b, 1284, none⟩)] 161)).alloc (.cells #[.pointer none] 122)).alloc (.cells #[.int .i64 0] 2))) := h.below (bel3 _ _ _ _)
  obtain ⟨x0, x1, x2, f2⟩ := three_boxes w (.pointer (some ⟨R.b, 1284, none⟩)) (.pointer none) (.int .i64 0) 161 122 2
  have HB0 := hidO (bel3 w (.cells #[.pointer (some ⟨R.b, 1284, none⟩)] 161) (.cells #[.pointer none] 122) (.cells #[.int .i64 0] 2))
  have hlt := h.lt
  clear h
  generalize ((w.alloc (.cells #[.pointer (some ⟨R.b, 1284, none⟩)] 161)).alloc (.cells #[.pointer none] 122)).alloc (.cells #[.int .i64 0] 2) = w3 at *
  go_cut [] from 7 (fun V => Hid (RgH R I (t + 1) t room tv rf V) ∧ Hid (Chg (fun x => x = R.b) w V) ∧ Hid (V.heap[w.heap.size]? = some (.cells #[.pointer (some ⟨R.b, 1284, none⟩)] 161 (0, 0)) ∧ V.heap[w.heap.size + 1]? = some (.cells #[.pointer none] 122 (0, 0)) ∧ V.heap[w.heap.size + 1 + 1]? = some (.cells #[.int .i64 (t : Int)] 2 (0, 0))))
  case first =>
    have hw : wrap64 ((t : Int) + 1) = ((t + 1 : Nat) : Int) := by unfold wrap64; omega
    have HA : Hid (∀ W, Chg (fun _ => False) w3 W → Calls Tryz.prog 59 #[.pointer (some ⟨R.b, 1284, none⟩), .pointer none, .int .i64 1] W fun e w' => e = .returned (.int .i64 (t : Int)) ∧ Hid (RgH R I (t + 1) t room tv rf w') ∧ Hid (Chg (fun x => x = R.b) w3 w')) := fun W hW => by
      have h := HR0.out.chg hW (fun k => k)
      have := wadd_any R.b 1284 (t : Int) 1 W (by omega) (by omega) h.cNx (h.fr _)
      rw [hw] at this
      refine Calls.mono this ?_
      rintro e w' ⟨rfl, rfl⟩
      exact ⟨rfl, h.setNx (t + 1), (hW.mono (fun x k => k.elim)).trans (Chg.set W ⟨R.b, 1284, none⟩ _) (fun x hx => Or.inl hx)⟩
    clear hw
    have c0 : w3.cell? ⟨w.heap.size, 0, none⟩ = some (.pointer (some ⟨R.b, 1284, none⟩)) := by simp [World.cell?, x0]
    have c1 : w3.cell? ⟨w.heap.size + 1, 0, none⟩ = some (.pointer none) := by simp [World.cell?, x1]
    have X := hidO (And.intro x0 (And.intro x1 x2))
    clear x0 x1 x2 f2
    go_region_with (go_at_call 59; with_reducible refine Calls.mono (HA.out _ (by first | exact Chg.refl _ _ | exact (Chg.refl _ _).drew)) ?_; rintro e w4 ⟨rfl, HR4, HC4⟩; have d2 := box_c (HC4.out.at_ X.out.2.2 (by omega)); have f2 := box_f (HC4.out.at_ X.out.2.2 (by omega)))
    all_goals
      go_wp2_with fail
      go_meet
      have e2 := HC4.out.at_ X.out.2.2 (by omega)
      have hc5 := Chg.set w4 ⟨w.heap.size + 1 + 1, 0, none⟩ (.int .i64 (t : Int))
      refine ⟨HR4.out.chg hc5 (by show ¬ R.b = w.heap.size + 1 + 1; omega), ?_, ?_, ?_, ?_⟩
      · exact ((Chg.of_below (S := fun x => x = R.b) HB0.out).trans HC4.out (fun x hx => Or.inl hx)).trans hc5 (fun x (hx : x = w.heap.size + 1 + 1) => Or.inr (by omega))
      · exact hc5.at_ (HC4.out.at_ X.out.1 (by omega)) (by show ¬ w.heap.size = w.heap.size + 1 + 1; omega)
      · exact hc5.at_ (HC4.out.at_ X.out.2.1 (by omega)) (by show ¬ w.heap.size + 1 = w.heap.size + 1 + 1; omega)
      · rw [heap_setCell_same _ _ 0 _ _ _ e2]; rfl
  case rest =>
    obtain ⟨HR5, HC5, HX5⟩ := hcut
    have c0 := box_c HX5.out.1
    have c1 := box_c HX5.out.2.1
    have c2 := box_c HX5.out.2.2
    have HT : Hid (∀ W, Below wc.heap.size wc W → Calls Tryz.prog 60 #[.pointer (some ⟨w.heap.size, 0, none⟩), .pointer (some ⟨w.heap.size + 1, 0, none⟩), .pointer (some ⟨w.heap.size + 1 + 1, 0, none⟩)] W fun e w' => e = .returned (.bool true) ∧ Hid (Below wc.heap.size wc w')) := fun W hW => by
      refine Calls.mono (ltake1_any R.b w.heap.size (w.heap.size + 1) (w.heap.size + 1 + 1) (t : Int) W (kp c0 hW) (kp c1 hW) (kp c2 hW) (kp HR5.out.cSv hW)) ?_
      rintro e w' ⟨rfl, hb⟩
      exact ⟨rfl, bt hW hb.out⟩
    have HPt : Hid (∀ W, _) := point_nil
    have HX6 : Hid (∀ W, Below wc.heap.size wc W → W.cell? ⟨w.heap.size + 1, 0, none⟩ = some (.pointer none) ∧ W.cell? ⟨w.heap.size + 1 + 1, 0, none⟩ = some (.int .i64 (t : Int)) ∧ W.frozen? ⟨w.heap.size + 1 + 1, 0, none⟩ = false) := fun W hW => ⟨kp c1 hW, kp c2 hW, box_f ((hW.block _ (Array.getElem?_eq_some_iff.1 HX5.out.2.2).1).trans HX5.out.2.2)⟩
    have HR6 : Hid (∀ W, Below wc.heap.size wc W → RgH R I (t + 1) t room tv rf W ∧ Chg (fun x => x = R.b) w W) := fun W hW => ⟨HR5.out.below hW, HC5.out.trans (Chg.of_below (S := fun x => x = R.b) hW) (fun x hx => Or.inl hx)⟩
    clear HX5 HR5 HC5 c0 c1 c2
    go_upto_region 3 with fail
    go_loopw [5] (fun a W => a = .int .i64 0 ∧ W = wc) (fun _ _ => 0)
    case atStart => exact ⟨rfl, rfl⟩
    case round =>
      obtain ⟨rfl, rfl⟩ := hrel
      go_wp2_with (first
        | (go_at_call 60; with_reducible refine Calls.mono (HT.out _ (Below.refl _ _)) ?_; rintro e w6 ⟨rfl, HB6⟩; obtain ⟨y1, y2, g2⟩ := HX6.out _ HB6.out)
        | (go_at_call 64; with_reducible refine Calls.mono (HPt.out _) ?_; rintro e w6 ⟨rfl, rfl⟩))
      have hs := Chg.set w6 ⟨w.heap.size + 1 + 1, 0, none⟩ (.int .i64 (t : Int))
      obtain ⟨r6, h6⟩ := HR6.out _ HB6.out
      refine bodyPost_ret (ret_take _ (w.heap.size + 1 + 1) (t : Int) _ rfl (World.cell?_setCell_same _ _ _ y2)) rfl ?_
      exact ⟨rfl, r6.chg hs (by show ¬ R.b = w.heap.size + 1 + 1; omega), h6.trans hs (fun x (hx : x = w.heap.size + 1 + 1) => Or.inr (by omega))⟩
/-- .. and given, in a deferred call. -/
theorem lgive_any {R : Rg} {I : List InS} {t : Nat} {room : Int} {tv : Value} {rf : Int} {w : World} (u : FrameMode) (h : RgH R I (t + 1) t room tv rf w) (ht : t < 4611686018427387904) :
    CallsD Tryz.prog 32 #[.pointer (some ⟨R.b, 1284, none⟩), .pointer none] u w fun e u' w' => u' = u ∧ (e = .returned (.tuple #[]) ∧ Hid (RgH R I (t + 1) (t + 1) room tv rf w') ∧ Hid (Chg (fun x => x = R.b) w w')) := by
  have hw : wrap64 ((t : Int) + 1) = ((t + 1 : Nat) : Int) := by unfold wrap64; omega
  have HA : Hid (∀ _ : Unit, Calls Tryz.prog 59 #[.pointer (some ⟨R.b, 1285, none⟩), .pointer none, .int .i64 1] w fun e w' => e = .returned (.int .i64 (t : Int)) ∧ w' = w.setCell ⟨R.b, 1285, none⟩ (.int .i64 ((t + 1 : Nat) : Int))) := fun _ => by
    have := wadd_any R.b 1285 (t : Int) 1 w (by omega) (by omega) h.cSv (h.fr _)
    rw [hw] at this
    exact this
  have HQ : Hid (RgH R I (t + 1) (t + 1) room tv rf (w.setCell ⟨R.b, 1285, none⟩ (.int .i64 ((t + 1 : Nat) : Int)))) := h.setSv (t + 1)
  clear h hw
  go_enter_d Tryz.func32, Tryz.ntmps32
  go_wp2_with (go_at_call 59; with_reducible refine Calls.mono (HA.out ()) ?_; rintro e w1 ⟨rfl, rfl⟩)
  go_end0
  exact ⟨rfl, HQ, Chg.set w ⟨R.b, 1285, none⟩ _⟩
/-- The instruments, as a list. -/
theorem all_any {R : Rg} {I : List InS} {nx sv : Nat} {room : Int} {tv : Value} {rf : Int} {w : World} (h : RgH R I nx sv room tv rf w) :
    Calls Tryz.prog 70 #[.pointer (some ⟨R.b, 0, none⟩)] w fun e w' => e = .returned (.slice (some ⟨R.b, 4, none⟩) I.length 256) ∧ Hid (Below w.heap.size w w') := by
  have HL : Hid (∀ W, W.cell? ⟨R.b, 3, none⟩ = some (.int .i64 (I.length : Int)) → Calls Tryz.prog 106 #[.pointer (some ⟨R.b, 3, none⟩)] W fun e w' => e = .returned (.int .i64 (I.length : Int)) ∧ w' = W) := fun W hW => aload_any R.b 3 (I.length : Int) W hW
  have c3 := h.c3
  have hl := h.len
  have hl1 : (I.length : Int) ≤ 256 := by omega
  have hl0 : (0 : Int) ≤ (I.length : Int) := by omega
  clear h
  go_enter Tryz.func70, Tryz.ntmps70
  go_upto_region 1 with fail
  go_quiet (first | (go_at_call 106; exact Calls.quiet_of_same (HL.out _ (by assumption))))
  go_wp2_with fail
  go_ret
  exact ⟨rfl, below_drew _ _⟩
end Go.Proofs.YtfnohbalkpponaaGreatDoor
/- New: a registry without instruments. Own work of the verifier. -/
namespace Go.Proofs.YtfnohbalkpponaaGreatDoor
open Go.RowKit

def zIns : List Value := (List.replicate 256 [Value.int .i64 0, .string ⟨#[]⟩, .string ⟨#[]⟩, .slice none 0 0, .pointer none]).flatten
theorem zIns_len : zIns.length = 1280 := by decide +kernel
def rgZ (n p k mp : Nat) (c : Int) (fb : Nat) : Array Value := (rgL n p k 0 zIns 0 0 mp c fb (.slice none 0 0) 0).toArray
/-- How a map of numbers by texts reads. -/
abbrev MpW (w : World) (b n : Nat) (D : DataW Unit) : Prop := w.ownsMap Tryz.prog 9 (plainElem Tryz.prog 3) b n D
/-- What New makes. -/
structure New15 (R : Rg) (c : Int) (w w' : World) : Prop where
  rg : RgH R [] 0 0 c (.slice none 0 0) 0 w'
  mp : MpW w' R.mp 0 (.map [])
  sh : Sh w' R.k R.ph 0 0 0
  ph : Pq w' R.ph false 0
  cp : Po.CP w' R.fb (List.replicate R.n false)
  bel : Below w.heap.size w w'
  ge : w.heap.size ≤ R.b ∧ w.heap.size ≤ R.k ∧ w.heap.size ≤ R.ph ∧ w.heap.size ≤ R.mp ∧ w.heap.size ≤ R.fb
theorem zset (n p k mp : Nat) (c : Int) (fb : Nat) : ((((((Tryz.zeroCells97.setIfInBounds 0 (Value.int .i64 (n : Int))).setIfInBounds 1 (Value.int .i64 (p : Int))).setIfInBounds 2 (Value.pointer (some ⟨k, 0, none⟩))).setIfInBounds 1286 (Value.map (some mp))).setIfInBounds 1287 (Value.int .i64 c)).setIfInBounds 1288 (Value.pointer (some ⟨fb, 0, none⟩))) = rgZ n p k mp c fb := by kernel_rfl
theorem bel_un {B : Nat} {w w' : World} (h : Below B w.drew w') : Below B w w' := ⟨h.os, h.tape, h.output, h.size, h.block⟩
theorem sh_below {w w' : World} {k p a : Nat} {r0 r1 : Int} (h : Sh w k p a r0 r1) (hb : Below w.heap.size w w') : Sh w' k p a r0 r1 := (hb.block k (Array.getElem?_eq_some_iff.1 h).1).trans h
theorem ph_below {w w' : World} {p : Nat} {s l0 l1 : Int} (h : Ph w p s l0 l1) (hb : Below w.heap.size w w') : Ph w' p s l0 l1 := (hb.block p (Array.getElem?_eq_some_iff.1 h).1).trans h
theorem grown_bel {a b : World} {row : Option Nat} (h : Below a.heap.size a b) : a.grownBy b row := ⟨h.os, h.tape, h.output, h.size, fun k hk _ => h.block k hk⟩
theorem new_fin {w W : World} {n p k ph mp fb : Nat} {c : Int} (hb : Below w.heap.size w W) (hS : Sh W k ph 0 0 0) (hP : Ph W ph 0 0 (-9223372036854775808)) (hC : Po.CP W fb (List.replicate n false)) (hM : MpW W mp 0 (.map [])) (ge : w.heap.size ≤ k ∧ w.heap.size ≤ ph ∧ w.heap.size ≤ mp ∧ w.heap.size ≤ fb) : New15 ⟨W.heap.size, k, ph, mp, fb, n, p⟩ c w (W.alloc (.cells (rgZ n p k mp c fb) 97)) :=
  ⟨⟨zIns, ⟨zIns_len, fun i hi => absurd hi (Nat.not_lt_zero _)⟩, Nat.zero_le _, new_1 _ _⟩, hM.kept (row := none) (grown_bel (bel1 _ _)) (by simp), sh_below hS (bel1 _ _), ⟨_, ph_below hP (bel1 _ _)⟩, hC.bel (bel1 _ _), bt hb (bel1 _ _), ⟨hb.size, ge.1, ge.2.1, ge.2.2.1, ge.2.2.2⟩⟩
abbrev ZB (B : Nat) (n p c : Int) (W : World) : Prop := W.cell? ⟨B, 0, none⟩ = some (.int .i64 n) ∧ W.cell? ⟨B, 1, none⟩ = some (.int .i64 p) ∧ W.cell? ⟨B, 2, none⟩ = some (.int .i64 c)
theorem ZB.kp {B : Nat} {n p c : Int} {W W1 : World} (h : ZB B n p c W) (hb : Hid (Below W.heap.size W W1)) : ZB B n p c W1 := ⟨Go.Proofs.YtfnohbalkpponaaGreatDoor.kp h.1 hb.out, Go.Proofs.YtfnohbalkpponaaGreatDoor.kp h.2.1 hb.out, Go.Proofs.YtfnohbalkpponaaGreatDoor.kp h.2.2 hb.out⟩
theorem ZB.al {B : Nat} {n p c : Int} {W : World} (h : ZB B n p c W) (o : Obj) : ZB B n p c (W.alloc o) := ZB.kp h (bel1 _ _)
set_option maxHeartbeats 2000000 in
theorem new15_ok (n p : Nat) (c : Int) (h1 : 1 ≤ n) (h2 : n ≤ 16) (h3 : 1 ≤ p) (h4 : p ≤ 14) (h5 : 1 ≤ c) (h6 : c ≤ 1048576) (w : World) :
    Calls Tryz.prog 6 #[.agg #[.int .i64 (n : Int), .int .i64 (p : Int), .int .i64 c]] w fun e w' => ∃ R : Rg, e = .returned (.tuple #[.pointer (some ⟨R.b, 0, none⟩), .int .i64 0]) ∧ Hid (R.n = n ∧ R.p = p ∧ New15 R c w w') := by
  have HN : Hid (∀ W, _) := Po.new_ok n h1 h2
  have HK : Hid (∀ W, _) := rnew_any
  have hmm := @run_makeMap Tryz.prog
  have e1 : ¬ (p : Int) < 1 := by omega
  have e2 : ¬ 14 < (p : Int) := by omega
  have e3 : ¬ c < 1 := by omega
  have e4 : ¬ 1048576 < c := by omega
  clear h1 h2 h3 h4 h5 h6
  go_enter Tryz.func6, Tryz.ntmps6
  go_upto_region 6 with (go_at_call 19; with_reducible refine Calls.mono (HN.out _) ?_; rintro e w1 ⟨rfl, HC1, HB1⟩)
  have hz0 : ZB w.heap.size (n : Int) (p : Int) c w1 := by
    have hb := HB1
    have h0 := new_1 w (.cells #[.int .i64 (n : Int), .int .i64 (p : Int), .int .i64 c] 23)
    have h1 := (hb.block w.heap.size (by simp)).trans h0
    exact ⟨by simp [World.cell?, h1], by simp [World.cell?, h1], by simp [World.cell?, h1]⟩
  have HB2 : Hid (Below w.heap.size w w1) := bt (bel1 _ _) HB1
  have hsz : (w.alloc (.cells #[.int .i64 (n : Int), .int .i64 (p : Int), .int .i64 c] 23)).heap.size = w.heap.size + 1 := by simp
  rw [hsz] at HC1
  have HC2 := hidO HC1
  clear HC1 HB1
  go_region_held3 (fun W => ZB w.heap.size (n : Int) (p : Int) c W)
    (first | with_reducible assumption | exact ZB.kp (by with_reducible assumption) (by with_reducible assumption) | exact ZB.al (by with_reducible assumption) _ | exact ZB.al (ZB.kp (by with_reducible assumption) (by with_reducible assumption)) _ | exact hz0)
    (first | (go_at_call 20; with_reducible refine Calls.mono (HK.out _) ?_; rintro e w2 ⟨k, ph, rfl, HS2, HP2, HB2', HG2⟩))
  · go_wp2_with fail
    go_ret2
    have hb2 : Below w1.heap.size w1 w2 := bel_un HB2'.out
    have hbA : Below w.heap.size w (w2.alloc (.map #[] 0)) := bt (bt HB2.out hb2) (bel1 _ _)
    have hlt : w.heap.size + 1 < w1.heap.size := HC2.out.lt
    have hg : w1.heap.size ≤ k ∧ w1.heap.size ≤ ph := HG2.out
    have hs2 := hb2.size
    refine ⟨⟨w2.heap.size + 1, k, ph, w2.heap.size, w.heap.size + 1, n, p⟩, rfl, rfl, rfl, ?_⟩
    have := new_fin (W := w2.alloc (.map #[] 0)) (n := n) (p := p) (k := k) (ph := ph) (mp := w2.heap.size) (fb := w.heap.size + 1) (c := c) hbA (sh_below HS2.out (bel1 _ _)) (ph_below HP2.out (bel1 _ _)) ((HC2.out.bel hb2).bel (bel1 _ _)) (World.ownsMap_made _ _ _ _) ⟨by omega, by omega, by omega, by omega⟩
    rw [zset]
    simpa using this
  · go_wp2_with fail
    go_ret2
    have hb2 : Below (w1.alloc (.map #[] 0)).heap.size (w1.alloc (.map #[] 0)) w2 := bel_un HB2'.out
    have hbA : Below w.heap.size w w2 := bt HB2.out (bt (bel1 _ _) hb2)
    have hlt : w.heap.size + 1 < w1.heap.size := HC2.out.lt
    have hg : (w1.alloc (.map #[] 0)).heap.size ≤ k ∧ (w1.alloc (.map #[] 0)).heap.size ≤ ph := HG2.out
    have hs2 := hb2.size
    have hal : (w1.alloc (.map #[] 0)).heap.size = w1.heap.size + 1 := by simp
    rw [hal] at hg hs2
    refine ⟨⟨w2.heap.size, k, ph, w1.heap.size, w.heap.size + 1, n, p⟩, rfl, rfl, rfl, ?_⟩
    have hM : MpW w2 w1.heap.size 0 (.map []) := (World.ownsMap_made w1 _ _ _).kept (row := none) (grown_bel hb2) (by simp)
    have := new_fin (W := w2) (n := n) (p := p) (k := k) (ph := ph) (mp := w1.heap.size) (fb := w.heap.size + 1) (c := c) hbA HS2.out HP2.out ((HC2.out.bel (bel1 _ _)).bel hb2) hM ⟨by omega, by omega, by omega, by omega⟩
    rw [zset]
    exact this
end Go.Proofs.YtfnohbalkpponaaGreatDoor
/- THE REGISTRY's INSTRUMENTS looked at. Own work of the verifier. -/
namespace Go.Proofs.YtfnohbalkpponaaGreatDoor
open Go.RowKit

section
variable {R : Rg} {I : List InS} {nx sv : Nat} {room : Int} {tv : Value} {rf : Int} {w : World}
/-- The cells of an instrument that is there. -/
theorem cells_in (h : RgH R I nx sv room tv rf w) (id : Nat) (hi : id < I.length) :
    Calls Tryz.prog 46 #[.pointer (some ⟨R.b, 0, none⟩), .int .i64 (id : Int)] w fun e w' => e = .returned (.pointer (some ⟨I[id].s, 0, none⟩)) ∧ Hid (Below w.heap.size w w') := by
  have HA : Hid (∀ _ : Unit, Calls Tryz.prog 70 #[.pointer (some ⟨R.b, 0, none⟩)] w fun e w' => e = .returned (.slice (some ⟨R.b, 4, none⟩) I.length 256) ∧ Hid (Below w.heap.size w w')) := fun _ => all_any h
  have HI : Hid (∀ W, Below w.heap.size w W → W.cell? ⟨R.b, 4 + id * 5 + 4, none⟩ = some (.pointer (some ⟨I[id].s, 0, none⟩))) := fun W hW => kp (h.ins id hi).2.2.2.2 hW
  have h1 : (id : Int) < (I.length : Int) := by omega
  have h2 : ¬ (I.length : Int) ≤ (id : Int) := by omega
  generalize I[id].s = s at *
  clear h hi
  go_enter Tryz.func46, Tryz.ntmps46
  go_wp2_with (go_at_call 70; with_reducible refine Calls.mono (HA.out ()) ?_; rintro e w1 ⟨rfl, HB1⟩; have c4 := HI.out _ HB1.out)
  go_ret
  exact ⟨rfl, HB1⟩
end
/-- Is a description none of the family of an instrument's name? -/
def unF (kd : Int) (nm hp : List UInt8) (x : InS) : Bool := decide (x.nm = nm) && (decide (x.kd ≠ kd) || decide (x.hp ≠ hp))
set_option maxHeartbeats 1000000 in
theorem unl1_any (x : InS) (kd : Int) (nm hp : List UInt8) (v : Value) (g : Nat) (r : Bool) (hr : r = unF kd nm hp x) (w : World) (hg : w.heap[g]? = some (.cells #[.int .i64 kd, .string ⟨nm.toArray⟩, .string ⟨hp.toArray⟩, v] 41 (0, 0))) :
    Calls Tryz.prog 71 #[.agg #[.int .i64 x.kd, .string ⟨x.nm.toArray⟩, .string ⟨x.hp.toArray⟩, .slice x.la x.D.length x.lc, .pointer (some ⟨x.s, 0, none⟩)], .pointer (some ⟨g, 0, none⟩)] w fun e w' => e = .returned (.bool r) ∧ Hid (Below w.heap.size w w') := by
  obtain ⟨xk, xn, xh, lb, lo, la, lc, D, s⟩ := x
  have c0 : ∀ o, (w.alloc o).cell? ⟨g, 0, none⟩ = some (.int .i64 kd) := fun o => kp (by simp [World.cell?, hg]) (bel1 w o)
  have c1 : ∀ o, (w.alloc o).cell? ⟨g, 1, none⟩ = some (.string ⟨nm.toArray⟩) := fun o => kp (by simp [World.cell?, hg]) (bel1 w o)
  have c2 : ∀ o, (w.alloc o).cell? ⟨g, 2, none⟩ = some (.string ⟨hp.toArray⟩) := fun o => kp (by simp [World.cell?, hg]) (bel1 w o)
  clear hg
  unfold unF at hr
  dsimp only at hr ⊢
  by_cases h1 : xn = nm
  · subst h1
    by_cases h2 : xk = kd
    · subst h2
      by_cases h3 : xh = hp
      · subst h3
        simp at hr
        subst hr
        go_enter Tryz.func71, Tryz.ntmps71
        go_wp2
        go_ret
        exact ⟨rfl, bel1 _ _⟩
      · simp [h3] at hr
        subst hr
        go_enter Tryz.func71, Tryz.ntmps71
        go_wp2
        go_ret
        exact ⟨by simp [h3], bel1 _ _⟩
    · simp [h2] at hr
      subst hr
      go_enter Tryz.func71, Tryz.ntmps71
      go_wp2
      go_ret
      exact ⟨rfl, bel1 _ _⟩
  · simp [h1] at hr
    subst hr
    go_enter Tryz.func71, Tryz.ntmps71
    go_wp2
    go_ret
    exact ⟨rfl, bel1 _ _⟩
end Go.Proofs.YtfnohbalkpponaaGreatDoor
/- Recorder and Add: the registry's calls that lay no cells of its own. Own work of the verifier. -/
namespace Go.Proofs.YtfnohbalkpponaaGreatDoor
open Go.RowKit

theorem cp_chg {w w' : World} {b : Nat} {T : List Bool} {S : Nat → Prop} (h : Po.CP w b T) (hc : Chg S w w') (hS : ¬ S b) : Po.CP w' b T := hc.at_ h hS
theorem chg_po {S : Nat → Prop} {w w' : World} (h : Po.Chg S w w') : Chg S w w' := ⟨h.os, h.tape, h.output, h.size, h.block⟩
theorem rg_ne {R : Rg} {I : List InS} {nx sv : Nat} {room : Int} {tv : Value} {rf : Int} {w : World} (h : RgH R I nx sv room tv rf w) {x : Nat} {cs : Array Value} {T : TypeId} {z : Nat × Nat} (hx : w.heap[x]? = some (.cells cs T z)) (hT : T ≠ 97) : x ≠ R.b := fun e => by
  obtain ⟨_, _, hb⟩ := h.ty
  rw [← e, hx] at hb
  injection hb with hb
  injection hb with _ hb
  exact hT hb
section
variable {R : Rg} {I : List InS} {t : Nat} {room : Int} {tv : Value} {rf : Int} {w : World} {T : List Bool}
/-- What Recorder leaves. -/
structure RecQ (R : Rg) (I : List InS) (t : Nat) (room : Int) (tv : Value) (rf : Int) (T : List Bool) (w w' : World) : Prop where
  rg : RgH R I (t + 1) (t + 1) room tv rf w'
  cp : Po.CP w' R.fb (T.set (Po.fst T) true)
  chg : Chg (fun x => x = R.b ∨ x = R.fb) w w'
set_option maxHeartbeats 1000000 in
theorem rec15_ok (h : RgH R I t t room tv rf w) (ht : t < 4611686018427387904) (hC : Po.CP w R.fb T) (hT : T.length ≤ 16) (hf : Po.fst T < T.length) :
    Calls Tryz.prog 10 #[.pointer (some ⟨R.b, 0, none⟩), .pointer none] w fun e w' => ∃ rc, e = .returned (.tuple #[.pointer (some ⟨rc, 0, none⟩), .int .i64 0]) ∧ Hid (RecQ R I t room tv rf T w w' ∧ Rc w' rc R.k (Po.fst T : Int) false ∧ w.heap.size ≤ rc) := by
  have hne : R.fb ≠ R.b := rg_ne h hC (by decide)
  have HT : Hid (∀ _ : Unit, _) := fun _ => ltake_any h ht
  have HP : Hid (∀ W, RgH R I (t + 1) t room tv rf W → Chg (fun x => x = R.b) w W → Calls Tryz.prog 33 #[.pointer (some ⟨R.fb, 0, none⟩)] W fun e w' => e = .returned (.tuple #[.int .i64 (Po.fst T : Int), .int .i64 0]) ∧ Hid (RgH R I (t + 1) t room tv rf w') ∧ Hid (Po.CP w' R.fb (T.set (Po.fst T) true)) ∧ Hid (Chg (fun x => x = R.b ∨ x = R.fb) w w')) := fun W hR hc => by
    refine Calls.mono (Po.take_any R.fb T W (cp_chg hC hc hne) hT) ?_
    rintro e w' ⟨rfl, q1, q2⟩
    have q2' := chg_po q2
    exact ⟨by unfold Po.tk; rw [if_pos hf], hR.chg q2' (fun e => hne e.symm), q1, (hc.mono (fun x e => Or.inl e)).trans q2' (fun x e => Or.inl (Or.inr e))⟩
  have HR : Hid (∀ W, _) := rrec_any R.k (Po.fst T : Int)
  have HG : Hid (∀ W, RgH R I (t + 1) t room tv rf W → _) := fun W hR => lgive_any .returning hR ht
  generalize hi : Po.fst T = i at *
  have HI := hidO hi
  clear hi
  go_enter_defers Tryz.func10, Tryz.ntmps10
  go_wp2_with (first
    | (go_at_call 31; with_reducible refine Calls.mono (HT.out ()) ?_; rintro e w1 ⟨rfl, HR1, HC1⟩; have c8 := HR1.out.cFb)
    | (go_at_call 33; with_reducible refine Calls.mono (HP.out _ HR1.out HC1.out) ?_; rintro e w2 ⟨rfl, HR2, HC2, HH2⟩; have c2 := HR2.out.c2)
    | (go_at_call 34; with_reducible refine Calls.mono (HR.out _) ?_; rintro e w3 ⟨rfl, hw3⟩))
  have HR3 := HR2.out.below (bel1 w2 (.cells #[.pointer (some ⟨R.k, 0, none⟩), .int .i64 (i : Int), .bool false] 151))
  have hr := new_1 w2 (.cells #[.pointer (some ⟨R.k, 0, none⟩), .int .i64 (i : Int), .bool false] 151)
  refine leaves_cons (f := 32) (args := #[.pointer (some ⟨R.b, 1284, none⟩), .pointer none]) (by simp) (by simp [go_sem]) ?_
  refine CallsD.mono (HG.out _ HR3) ?_
  rintro e u' w4 ⟨rfl, rfl, HR4, HC4⟩
  have hlt := HR2.out.lt
  have hch : Chg (fun x => x = R.b ∨ x = R.fb) w w4 := (HH2.out.trans (Chg.of_below (S := fun _ => False) (bel1 w2 _)) (fun x k => k.elim)).trans HC4.out (fun x e => Or.inl (Or.inl e))
  have hi := HI.out
  subst hi
  exact ⟨_, results_tmp2 rfl _ _ _, w2.heap.size, rfl, ⟨HR4.out, cp_chg (HC2.out.bel (bel1 _ _)) HC4.out hne, hch⟩, HC4.out.at_ hr (by show ¬ w2.heap.size = R.b; omega), HH2.out.size⟩
/-- .. and of one that is: what the recorder's record does, does this. -/
theorem add15_in {nx sv : Nat} (h : RgH R I nx sv room tv rf w) (x : Value) (id : Nat) (n er : Int) (hi : id < I.length) (Q : World → Prop)
    (HA : ∀ W, Below w.heap.size w W → Calls Tryz.prog 47 #[x, .pointer none, .pointer (some ⟨I[id].s, 0, none⟩), .int .i64 n] W fun e w' => e = .returned (.int .i64 er) ∧ Hid (Q w')) :
    Calls Tryz.prog 18 #[.pointer (some ⟨R.b, 0, none⟩), .pointer none, x, .int .i64 (id : Int), .int .i64 n] w fun e w' => e = .returned (.int .i64 er) ∧ Hid (Q w') := by
  have HC : Hid (∀ _ : Unit, _) := fun _ => cells_in h id hi
  have HA := hidO HA
  clear h
  generalize I[id].s = s at *
  clear hi
  go_enter Tryz.func18, Tryz.ntmps18
  go_wp2_with (first
    | (go_at_call 46; with_reducible refine Calls.mono (HC.out ()) ?_; rintro e w1 ⟨rfl, HB1⟩)
    | (go_at_call 47; with_reducible refine Calls.mono (HA.out _ HB1.out) ?_; rintro e w2 ⟨rfl, HQ2⟩))
  go_ret
  exact ⟨rfl, HQ2⟩
end
end Go.Proofs.YtfnohbalkpponaaGreatDoor
/- lay: a new instrument. Own work of the verifier. -/
namespace Go.Proofs.YtfnohbalkpponaaGreatDoor
open Go.RowKit Go.Maps

theorem chg_row {S : Nat → Prop} {W W' : World} {B : Nat} {e : TypeId} {s n : Nat} {v : Value} {xs : List Value} (k : Chg S W W') (h : W.ownsRow B e s v n xs) (hS : ∀ x, v.ownBlock = some x → ¬ S x) : W'.ownsRow B e s v n xs := by
  rcases h.2 with ⟨h1, h2⟩ | ⟨g, cap, cur, h1, hb, hg, h3, h4, h5, h6⟩
  · exact ⟨h.1, Or.inl ⟨h1, h2⟩⟩
  · exact ⟨h.1, Or.inr ⟨g, cap, cur, h1, hb, k.at_ hg (hS g (by rw [h1]; rfl)), h3, h4, h5, h6⟩⟩
/-- A part with the list of its counts. -/
structure PV where
  P : Pt
  v : Value
def pvC (x : PV) : List Value := [.int .i64 x.P.hi, .int .u64 x.P.lo, x.v, .int .u64 (x.P.n : Int), .complex .f64 x.P.s x.P.c, .float .f64 x.P.mn, .float .f64 x.P.mx]
def flP : List PV → List Value
  | [] => []
  | x :: L => pvC x ++ flP L
theorem flP_len (L : List PV) : (flP L).length = L.length * 7 := by
  induction L with
  | nil => rfl
  | cons x L ih => simp only [flP, List.length_append, List.length_cons, ih, pvC, List.length_nil]; omega
theorem flP_app (A B : List PV) : flP (A ++ B) = flP A ++ flP B := by
  induction A with
  | nil => rfl
  | cons x A ih => simp only [List.cons_append, flP, ih, List.append_assoc]
/-- A list of parts. -/
abbrev TvW (w : World) (tv : Value) (L : List PV) : Prop := w.ownsRow 0 184 7 tv L.length (flP L)
def PV.nil : PV := ⟨Pt.nil, .slice none 0 0⟩
theorem law15 : Keyed Tryz.prog 9 := string_keyed Tryz.underlying9
theorem infoPart : (Tryz.prog.info? 184).map (fun i => (i.zero, i.size, i.bytes)) = some (some (.agg (pvC PV.nil).toArray), 7, 80) := by kernel_rfl
/-- The cells of a new instrument are stored. -/
theorem ins_set {ins : List Value} {I : List InS} (h : InsAt ins I) (hl : I.length < 256) (x : InS) :
    InsAt (((((ins.set (I.length * 5) (.int .i64 x.kd)).set (I.length * 5 + 1) (.string ⟨x.nm.toArray⟩)).set (I.length * 5 + 2) (.string ⟨x.hp.toArray⟩)).set (I.length * 5 + 3) (.slice x.la x.D.length x.lc)).set (I.length * 5 + 4) (.pointer (some ⟨x.s, 0, none⟩))) (I ++ [x]) := by
  refine ⟨by simp [h.1], fun i hi => ?_⟩
  have hlen := h.1
  rw [List.length_append, List.length_singleton] at hi
  by_cases e : i < I.length
  · rw [List.getElem_append_left e]
    have := h.2 i e
    simp only [List.getElem?_set]
    rw [if_neg (by omega), if_neg (by omega), if_neg (by omega), if_neg (by omega), if_neg (by omega), if_neg (by omega), if_neg (by omega), if_neg (by omega), if_neg (by omega), if_neg (by omega), if_neg (by omega), if_neg (by omega), if_neg (by omega), if_neg (by omega), if_neg (by omega), if_neg (by omega), if_neg (by omega), if_neg (by omega), if_neg (by omega), if_neg (by omega), if_neg (by omega), if_neg (by omega), if_neg (by omega), if_neg (by omega), if_neg (by omega)]
    exact this
  · obtain rfl : i = I.length := by omega
    rw [List.getElem_append_right (Nat.le_refl _)]
    simp only [Nat.sub_self, List.getElem_singleton, List.getElem?_set, List.length_set]
    refine ⟨?_, ?_, ?_, ?_, ?_⟩ <;> simp <;> omega
end Go.Proofs.YtfnohbalkpponaaGreatDoor
