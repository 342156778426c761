/- RULES: WHAT PRINT WRITES; writeMeasure. Own work of the verifier. -/
import Derived.Test.YtoaaijohmfaphaaGreatDoorSBI
import Derived.Test.YtoaaijohmfaphaaGreatDoorSAV
import Derived.Deep.RegionHeld3
import Derived.Lib.AppendStr
import Derived.Lib.BufferKept
namespace Go.Proofs.YtoaaijohmfaphaaGreatDoor.Ru
open Go.RowKit Go.Sort Me

def msT (q : Nat × List UInt8) (nm : List UInt8) (lb : List La.Lb) (w n d : Int) : List UInt8 :=
  q.2 ++ [40] ++ (if q.1 = 3 then Lib.itoa n ++ [47] ++ Lib.itoa d ++ [44, 32] else []) ++ (La.printT nm lb ++ [44, 32] ++ Lib.itoa w ++ [41])
theorem ibF_below {B b : Nat} {bs : List Value} {W W' : World} (h : Lib.IsBuilderF 54 5 B b bs W) (hb : Below W.heap.size W W') : Lib.IsBuilderF 54 5 B b bs W' := by
  have key : ∀ p, Lib.BuilderAtF 54 5 B b p bs W → Lib.BuilderAtF 54 5 B b p bs W' := fun p h => by
    have hlt := h.lt
    obtain ⟨hB, v, hv, hown, hne⟩ := h
    exact ⟨hB, v, (hb.block b hlt).trans hv, hown.kept (row := none) ⟨hb.os, hb.tape, hb.output, hb.size, fun k hk _ => hb.block k hk⟩ (Classical.em _), hne⟩
  exact h.elim (fun x => .inl (key _ x)) (fun x => .inr (key _ x))
theorem bs_below {B k : Nat} {w0 W W1 : World} {l : List UInt8} (h : La.BS B k w0 l W) (hb : Below W.heap.size W W1) : La.BS B k w0 l W1 :=
  ⟨ibF_below h.ib hb, h.bl.trans (hb.mono h.sz), fun g o hg h1 h2 => (hb.block g (Array.getElem?_eq_some_iff.1 (h.ok g o hg h1 h2)).1).trans (h.ok g o hg h1 h2), by have := h.sz; have := hb.size; omega⟩
structure Wm (u w0 : World) (kb gk gr : Nat) (q : Nat × List UInt8) (c : Array Value) (l : List UInt8) (W : World) : Prop where
  bs : La.BS u.heap.size kb w0 l W
  st : Below u.heap.size u W
  kd : W.heap[gk]? = some (.cells #[.int .i64 (q.1 : Int), .string ⟨q.2.toArray⟩] 75)
  rl : W.heap[gr]? = some (.cells c 26)
  n1 : gk ≠ kb
  n2 : gr ≠ kb
theorem Wm.below {u w0 : World} {kb gk gr : Nat} {q : Nat × List UInt8} {c : Array Value} {l : List UInt8} {W W1 : World} (h : Wm u w0 kb gk gr q c l W) (hb : Below W.heap.size W W1) : Wm u w0 kb gk gr q c l W1 :=
  ⟨bs_below h.bs hb, bt h.st hb, (hb.block gk (Array.getElem?_eq_some_iff.1 h.kd).1).trans h.kd, (hb.block gr (Array.getElem?_eq_some_iff.1 h.rl).1).trans h.rl, h.n1, h.n2⟩
theorem Wm.then {u w0 : World} {kb gk gr : Nat} {q : Nat × List UInt8} {c : Array Value} {l l1 : List UInt8} {W W1 : World} (h : Wm u w0 kb gk gr q c l W) (k : La.BS u.heap.size kb W l1 W1) : Wm u w0 kb gk gr q c l1 W1 :=
  ⟨h.bs.then k, h.st.trans k.bl, k.cells h.kd h.n1 (by decide), k.cells h.rl h.n2 (by decide), h.n1, h.n2⟩
theorem Wm.ws {u w0 : World} {kb gk gr : Nat} {q : Nat × List UInt8} {c : Array Value} {l : List UInt8} {W : World} (h : Wm u w0 kb gk gr q c l W) (s : List UInt8) (hl : l.length + s.length ≤ 140737488355328) :
    Calls Tryz.prog 30 #[.pointer (some ⟨kb, 0, none⟩), .string ⟨s.toArray⟩] W fun e w' => e = .returned (.tuple #[.int .i64 (s.length : Int), .nilIface]) ∧ Wm u w0 kb gk gr q c (l ++ s) w' :=
  (La.ws_any s h.bs.re hl).mono (by rintro e w' ⟨rfl, k⟩; exact ⟨rfl, h.then k⟩)
theorem kd_cells {W : World} {g a : Nat} {b : List UInt8} (h : W.heap[g]? = some (.cells #[.int .i64 (a : Int), .string ⟨b.toArray⟩] 75)) : W.cell? ⟨g, 0, none⟩ = some (.int .i64 (a : Int)) ∧ W.cell? ⟨g, 1, none⟩ = some (.string ⟨b.toArray⟩) := by
  constructor <;> simp [World.cell?, h]
theorem belN' {a w : World} (o : Obj) (h : Below a.heap.size a w) : Below a.heap.size a (w.alloc o) := bt h (bel1 _ _)
theorem belD' {a w : World} (h : Below a.heap.size a w) : Below a.heap.size a w.drew := bel_drewB h
set_option maxHeartbeats 4000000 in
set_option maxRecDepth 100000 in
theorem measure_any (u w0 : World) (he : Env u) (kb : Nat) (pre : List UInt8) (q : Nat × List UInt8) (k : Int) (x : Nat) (nm : List UInt8) (lb : List La.Lb) (wi n d : Int) (lv : Value) (aa : Option Addr) (an ac : Nat) (w : World)
    (hu : Below u.heap.size u w) (h : La.BS u.heap.size kb w0 pre w) (hl : LbV 0 u lv lb) (hz : ∀ a ∈ lb, a.2.length ≤ 9223372036854775807)
    (hw : -9223372036854775808 ≤ wi ∧ wi ≤ 9223372036854775807) (hn : -9223372036854775808 ≤ n ∧ n ≤ 9223372036854775807) (hd : -9223372036854775808 ≤ d ∧ d ≤ 9223372036854775807)
    (hT : pre.length + (msT q nm lb wi n d).length ≤ 140737488355328) :
    Calls Tryz.prog 32 #[.pointer (some ⟨kb, 0, none⟩), kx q, rx k x nm lv wi n d (.slice aa an ac)] w fun e w' => e = .returned (.tuple #[]) ∧ La.BS u.heap.size kb w0 (pre ++ msT q nm lb wi n d) w' := by
  obtain ⟨la, b, o, lc, rfl, h1, h2, h3, h4⟩ := hl
  obtain ⟨q1, q2⟩ := q
  unfold msT at hT ⊢
  dsimp only at hT ⊢
  obtain ⟨W0, hW0⟩ : ∃ W0, W0 = (w.alloc (.cells #[.int .i64 (q1 : Int), .string ⟨q2.toArray⟩] 75)).alloc (.cells (rc k x nm (.slice la lb.length lc) wi n d (.slice aa an ac)) 26) := ⟨_, rfl⟩
  have hk := h.lt
  have hM0 : Wm u w0 kb w.heap.size (w.heap.size + 1) (q1, q2) (rc k x nm (.slice la lb.length lc) wi n d (.slice aa an ac)) pre W0 := by
    rw [hW0]
    exact ⟨(h.alloc _).alloc _, bt hu (La.bel2 w _ _), ((bel1 (w.alloc (.cells #[.int .i64 (q1 : Int), .string ⟨q2.toArray⟩] 75)) (.cells (rc k x nm (.slice la lb.length lc) wi n d (.slice aa an ac)) 26)).block w.heap.size (by simp)).trans (new_1 w _), by have := new_1 (w.alloc (.cells #[.int .i64 (q1 : Int), .string ⟨q2.toArray⟩] 75)) (.cells (rc k x nm (.slice la lb.length lc) wi n d (.slice aa an ac)) 26); simpa using this, by omega, by omega⟩
  have HDg : Hid (∀ m : Int, -9223372036854775808 ≤ m → m ≤ 9223372036854775807 → ∀ W, Below u.heap.size u W → Calls Tryz.prog 45 #[.int .i64 m] W fun e w' => e = .returned (.string ⟨(Lib.itoa m).toArray⟩) ∧ Below W.heap.size W w') := fun m a b W hb => dig_any m a b W (he.below hb)
  have hpl : (La.printT nm lb).length ≤ 140737488355328 := by simp at hT; omega
  have HPr : Hid (∀ W, Below u.heap.size u W → Calls Tryz.prog 46 #[.string ⟨nm.toArray⟩, .slice la lb.length lc] W fun e w' => e = .returned (.string ⟨(La.printT nm lb).toArray⟩) ∧ Below W.heap.size W w') := fun W hb => La.cprint_any nm la b o lc lb (fun e => (h1 e).1) (by omega) hz hpl W (h4.below hb)
  have HD1 := hid_of (HDg.out n hn.1 hn.2)
  have HD2 := hid_of (HDg.out d hd.1 hd.2)
  have HD3 := hid_of (HDg.out wi hw.1 hw.2)
  have hfl := fldK
  have HM0 := hid_of hM0
  have HW0 := hid_of hW0
  clear hu he h h1 h2 h3 h4 hz hw hn hd HDg hk hM0 hW0
  generalize La.printT nm lb = P at *
  generalize Lib.itoa n = I1 at *
  generalize Lib.itoa d = I2 at *
  generalize Lib.itoa wi = I3 at *
  obtain ⟨z0, hz0⟩ : ∃ z, z = q2 ++ [40] := ⟨_, rfl⟩
  obtain ⟨z1, hz1⟩ : ∃ z, z = I1 ++ [47] := ⟨_, rfl⟩
  obtain ⟨z2, hz2⟩ : ∃ z, z = z1 ++ I2 := ⟨_, rfl⟩
  obtain ⟨z3, hz3⟩ : ∃ z, z = z2 ++ [44, 32] := ⟨_, rfl⟩
  obtain ⟨y1, hy1⟩ : ∃ z, z = P ++ [44, 32] := ⟨_, rfl⟩
  obtain ⟨y2, hy2⟩ : ∃ z, z = y1 ++ I3 := ⟨_, rfl⟩
  obtain ⟨y3, hy3⟩ : ∃ z, z = y2 ++ [41] := ⟨_, rfl⟩
  have hTx : pre.length + z0.length + (if q1 = 3 then z3.length else 0) + y3.length ≤ 140737488355328 := by
    rw [hy3, hy2, hy1, hz3, hz2, hz1, hz0]
    by_cases g : q1 = 3
    · rw [if_pos g] at hT ⊢; simp at hT ⊢; omega
    · rw [if_neg g] at hT ⊢; simp at hT ⊢; omega
  have HF : Hid (pre ++ (q2 ++ [40] ++ (if q1 = 3 then I1 ++ [47] ++ I2 ++ [44, 32] else []) ++ (P ++ [44, 32] ++ I3 ++ [41])) = pre ++ z0 ++ (if q1 = 3 then z3 else []) ++ y3) := by
    show _ = _
    rw [hy3, hy2, hy1, hz3, hz2, hz1, hz0]
    simp
  have ly : y3.length ≤ 140737488355328 := by omega
  have s0 : ∀ W, (Op.stringOp .add ⟨q2.toArray⟩ ⟨#[40]⟩).run Tryz.prog W = .ok (.string ⟨z0.toArray⟩) W := fun W => by rw [hz0]; exact La.sadd q2 [40] (by rw [hz0] at hTx; simp at hTx ⊢; omega) W
  have t1 : ∀ W, (Op.stringOp .add ⟨P.toArray⟩ ⟨#[44, 32]⟩).run Tryz.prog W = .ok (.string ⟨y1.toArray⟩) W := fun W => by rw [hy1]; exact La.sadd P [44, 32] (by simp; omega) W
  have t2 : ∀ W, (Op.stringOp .add ⟨y1.toArray⟩ ⟨I3.toArray⟩).run Tryz.prog W = .ok (.string ⟨y2.toArray⟩) W := fun W => by rw [hy2]; exact La.sadd y1 I3 (by rw [hy3, hy2] at ly; simp at ly; omega) W
  have t3 : ∀ W, (Op.stringOp .add ⟨y2.toArray⟩ ⟨#[41]⟩).run Tryz.prog W = .ok (.string ⟨y3.toArray⟩) W := fun W => by rw [hy3]; exact La.sadd y2 [41] (by rw [hy3] at ly; simp at ly ⊢; omega) W
  rw [HF.out]
  obtain ⟨R, hR⟩ : ∃ R, R = pre ++ z0 ++ (if q1 = 3 then z3 else []) ++ y3 := ⟨_, rfl⟩
  rw [← hR]
  have HR3 : Hid (q1 = 3 → R = pre ++ z0 ++ z3 ++ y3) := fun g => by rw [hR, if_pos g]
  have HR0 : Hid (q1 ≠ 3 → R = pre ++ z0 ++ y3) := fun g => by rw [hR, if_neg g, List.append_nil]
  clear hR
  obtain ⟨c, hc⟩ : ∃ c, c = rc k x nm (.slice la lb.length lc) wi n d (.slice aa an ac) := ⟨_, rfl⟩
  have HWa : Hid (∀ W, Wm u w0 kb w.heap.size (w.heap.size + 1) (q1, q2) (rc k x nm (.slice la lb.length lc) wi n d (.slice aa an ac)) pre W → Calls Tryz.prog 30 #[.pointer (some ⟨kb, 0, none⟩), .string ⟨z0.toArray⟩] W fun e w' => e = .returned (.tuple #[.int .i64 (z0.length : Int), .nilIface]) ∧ Wm u w0 kb w.heap.size (w.heap.size + 1) (q1, q2) (rc k x nm (.slice la lb.length lc) wi n d (.slice aa an ac)) (pre ++ z0) w') := fun W h => h.ws z0 (by omega)
  have HWc : Hid (∀ l W, l.length + y3.length ≤ 140737488355328 → Wm u w0 kb w.heap.size (w.heap.size + 1) (q1, q2) (rc k x nm (.slice la lb.length lc) wi n d (.slice aa an ac)) l W → Calls Tryz.prog 30 #[.pointer (some ⟨kb, 0, none⟩), .string ⟨y3.toArray⟩] W fun e w' => e = .returned (.tuple #[.int .i64 (y3.length : Int), .nilIface]) ∧ Wm u w0 kb w.heap.size (w.heap.size + 1) (q1, q2) (rc k x nm (.slice la lb.length lc) wi n d (.slice aa an ac)) (l ++ y3) w') := fun l W hl h => h.ws y3 hl
  have HWb : Hid (∀ W, q1 = 3 → Wm u w0 kb w.heap.size (w.heap.size + 1) (q1, q2) (rc k x nm (.slice la lb.length lc) wi n d (.slice aa an ac)) (pre ++ z0) W → Calls Tryz.prog 30 #[.pointer (some ⟨kb, 0, none⟩), .string ⟨z3.toArray⟩] W fun e w' => e = .returned (.tuple #[.int .i64 (z3.length : Int), .nilIface]) ∧ Wm u w0 kb w.heap.size (w.heap.size + 1) (q1, q2) (rc k x nm (.slice la lb.length lc) wi n d (.slice aa an ac)) (pre ++ z0 ++ z3) w') := fun W g h => h.ws z3 (by rw [if_pos g] at hTx; simp only [List.length_append]; omega)
  have lz : q1 = 3 → z3.length ≤ 140737488355328 := fun g => by rw [if_pos g] at hTx; omega
  clear HF hT hy1 hy2 hy3 hz0 ly hpl hc
  obtain ⟨c0, c1⟩ := kd_cells HM0.out.kd
  go_enter Tryz.func32, Tryz.ntmps32
  go_upto_region 1 with fail
  rw [← HW0.out]
  go_wp2_with fail
  refine Calls.mono (HWa.out _ HM0.out) ?_
  rintro e w1 ⟨rfl, hm1⟩
  have HM1 := hid_of hm1
  clear hm1 HWa c0 c1 s0
  obtain ⟨c0, c1⟩ := kd_cells HM1.out.kd
  by_cases g : q1 = 3
  · have hg : ((q1 : Int) == 3) = true := by rw [beq_iff_eq]; omega
    rw [if_pos g] at hTx
    have HE := hid_of (HR3.out g)
    clear HR3 HR0
    have l3 := lz g
    have s1 : ∀ W, (Op.stringOp .add ⟨I1.toArray⟩ ⟨#[47]⟩).run Tryz.prog W = .ok (.string ⟨z1.toArray⟩) W := fun W => by rw [hz1]; exact La.sadd I1 [47] (by rw [hz3, hz2, hz1] at l3; simp at l3 ⊢; omega) W
    have s2 : ∀ W, (Op.stringOp .add ⟨z1.toArray⟩ ⟨I2.toArray⟩).run Tryz.prog W = .ok (.string ⟨z2.toArray⟩) W := fun W => by rw [hz2]; exact La.sadd z1 I2 (by rw [hz3, hz2] at l3; simp at l3; omega) W
    have s3 : ∀ W, (Op.stringOp .add ⟨z2.toArray⟩ ⟨#[44, 32]⟩).run Tryz.prog W = .ok (.string ⟨z3.toArray⟩) W := fun W => by rw [hz3]; exact La.sadd z2 [44, 32] (by rw [hz3] at l3; simp at l3 ⊢; omega) W
    have HKq : Hid (∀ l W1, Wm u w0 kb w.heap.size (w.heap.size + 1) (q1, q2) (rc k x nm (.slice la lb.length lc) wi n d (.slice aa an ac)) l W1 → (fun W => W.cell? ⟨w.heap.size + 1, 5, none⟩ = some (.int .i64 n) ∧ W.cell? ⟨w.heap.size + 1, 6, none⟩ = some (.int .i64 d)) W1) := fun l W1 k => by obtain ⟨u0, u1, u2, u3, u4, u5, u6, u7⟩ := eight k.rl; exact ⟨u5, u6⟩
    have HKp : Hid (∀ W1, Below w1.heap.size w1 W1 → (fun W => W.cell? ⟨w.heap.size + 1, 5, none⟩ = some (.int .i64 n) ∧ W.cell? ⟨w.heap.size + 1, 6, none⟩ = some (.int .i64 d)) W1) := fun W1 hb => HKq.out _ _ (HM1.out.below hb)
    have HX1 : Hid (∀ W, Below w1.heap.size w1 W → Calls Tryz.prog 45 #[.int .i64 n] W fun e w' => e = .returned (.string ⟨I1.toArray⟩) ∧ Below W.heap.size W w') := fun W hb => HD1.out W (bt HM1.out.st hb)
    have HX2 : Hid (∀ W, Below w1.heap.size w1 W → Calls Tryz.prog 45 #[.int .i64 d] W fun e w' => e = .returned (.string ⟨I2.toArray⟩) ∧ Below W.heap.size W w') := fun W hb => HD2.out W (bt HM1.out.st hb)
    have HXW : Hid (∀ W, Below w1.heap.size w1 W → Calls Tryz.prog 30 #[.pointer (some ⟨kb, 0, none⟩), .string ⟨z3.toArray⟩] W fun e w' => e = .returned (.tuple #[.int .i64 (z3.length : Int), .nilIface]) ∧ Wm u w0 kb w.heap.size (w.heap.size + 1) (q1, q2) (rc k x nm (.slice la lb.length lc) wi n d (.slice aa an ac)) (pre ++ z0 ++ z3) w') := fun W hb => HWb.out W g (HM1.out.below hb)
    clear g lz hz1 hz2 hz3 l3
    go_upto_region 3 with fail
    go_region_held3 (fun W => W.cell? ⟨w.heap.size + 1, 5, none⟩ = some (.int .i64 n) ∧ W.cell? ⟨w.heap.size + 1, 6, none⟩ = some (.int .i64 d))
        (first | (with_reducible exact HKq.out _ _ hPz) | ((with_reducible refine HKp.out _ ?_); repeat (first | with_reducible exact hB9 | with_reducible exact Below.refl _ _ | with_reducible refine belD' ?_ | with_reducible refine belN' _ ?_)))
        (first
          | (go_at_call 45; (first | (with_reducible refine Calls.mono (HX1.out _ (by repeat (first | with_reducible exact hB9 | with_reducible exact Below.refl _ _ | with_reducible refine belD' ?_ | with_reducible refine belN' _ ?_))) ?_) | (with_reducible refine Calls.mono (HX2.out _ (by repeat (first | with_reducible exact hB9 | with_reducible exact Below.refl _ _ | with_reducible refine belD' ?_ | with_reducible refine belN' _ ?_))) ?_)); rintro e w9 ⟨rfl, hb9⟩; have hB9 : Below w1.heap.size w1 w9 := bt (by repeat (first | with_reducible exact hB9 | with_reducible exact Below.refl _ _ | with_reducible refine belD' ?_ | with_reducible refine belN' _ ?_)) hb9)
          | (go_at_call 30; (with_reducible refine Calls.mono (HXW.out _ (by repeat (first | with_reducible exact hB9 | with_reducible exact Below.refl _ _ | with_reducible refine belD' ?_ | with_reducible refine belN' _ ?_))) ?_); rintro e wz ⟨rfl, hPz⟩))
    all_goals
      have HM2 := hid_of hPz
      clear hPz
      have HKq : Hid (∀ l W1, Wm u w0 kb w.heap.size (w.heap.size + 1) (q1, q2) (rc k x nm (.slice la lb.length lc) wi n d (.slice aa an ac)) l W1 → (fun W => W.cell? ⟨w.heap.size + 1, 2, none⟩ = some (.string ⟨nm.toArray⟩) ∧ W.cell? ⟨w.heap.size + 1, 3, none⟩ = some (.slice la lb.length lc) ∧ W.cell? ⟨w.heap.size + 1, 4, none⟩ = some (.int .i64 wi)) W1) := fun l W1 k => by obtain ⟨u0, u1, u2, u3, u4, u5, u6, u7⟩ := eight k.rl; exact ⟨u2, u3, u4⟩
      have HKp : Hid (∀ W1, Below wz.heap.size wz W1 → (fun W => W.cell? ⟨w.heap.size + 1, 2, none⟩ = some (.string ⟨nm.toArray⟩) ∧ W.cell? ⟨w.heap.size + 1, 3, none⟩ = some (.slice la lb.length lc) ∧ W.cell? ⟨w.heap.size + 1, 4, none⟩ = some (.int .i64 wi)) W1) := fun W1 hb => HKq.out _ _ (HM2.out.below hb)
      have HX3 : Hid (∀ W, Below wz.heap.size wz W → Calls Tryz.prog 45 #[.int .i64 wi] W fun e w' => e = .returned (.string ⟨I3.toArray⟩) ∧ Below W.heap.size W w') := fun W hb => HD3.out W (bt HM2.out.st hb)
      have HXP : Hid (∀ W, Below wz.heap.size wz W → Calls Tryz.prog 46 #[.string ⟨nm.toArray⟩, .slice la lb.length lc] W fun e w' => e = .returned (.string ⟨P.toArray⟩) ∧ Below W.heap.size W w') := fun W hb => HPr.out W (bt HM2.out.st hb)
      have HXW : Hid (∀ W, Below wz.heap.size wz W → Calls Tryz.prog 30 #[.pointer (some ⟨kb, 0, none⟩), .string ⟨y3.toArray⟩] W fun e w' => e = .returned (.tuple #[.int .i64 (y3.length : Int), .nilIface]) ∧ Wm u w0 kb w.heap.size (w.heap.size + 1) (q1, q2) (rc k x nm (.slice la lb.length lc) wi n d (.slice aa an ac)) ((pre ++ z0 ++ z3) ++ y3) w') := fun W hb => HWc.out _ W (by simp only [List.length_append]; omega) (HM2.out.below hb)
      clear HWc HWb HD1 HD2 HD3 HPr HM0 HW0
      go_upto_region 4 with fail
      go_region_held3 (fun W => W.cell? ⟨w.heap.size + 1, 2, none⟩ = some (.string ⟨nm.toArray⟩) ∧ W.cell? ⟨w.heap.size + 1, 3, none⟩ = some (.slice la lb.length lc) ∧ W.cell? ⟨w.heap.size + 1, 4, none⟩ = some (.int .i64 wi))
          (first | (with_reducible exact HKq.out _ _ hPz) | ((with_reducible refine HKp.out _ ?_); repeat (first | with_reducible exact hB9 | with_reducible exact Below.refl _ _ | with_reducible refine belD' ?_ | with_reducible refine belN' _ ?_)))
          (first
            | (go_at_call 45; (with_reducible refine Calls.mono (HX3.out _ (by repeat (first | with_reducible exact hB9 | with_reducible exact Below.refl _ _ | with_reducible refine belD' ?_ | with_reducible refine belN' _ ?_))) ?_); rintro e w9 ⟨rfl, hb9⟩; have hB9 : Below wz.heap.size wz w9 := bt (by repeat (first | with_reducible exact hB9 | with_reducible exact Below.refl _ _ | with_reducible refine belD' ?_ | with_reducible refine belN' _ ?_)) hb9)
            | (go_at_call 46; (with_reducible refine Calls.mono (HXP.out _ (by repeat (first | with_reducible exact hB9 | with_reducible exact Below.refl _ _ | with_reducible refine belD' ?_ | with_reducible refine belN' _ ?_))) ?_); rintro e w9 ⟨rfl, hb9⟩; have hB9 : Below wz.heap.size wz w9 := bt (by repeat (first | with_reducible exact hB9 | with_reducible exact Below.refl _ _ | with_reducible refine belD' ?_ | with_reducible refine belN' _ ?_)) hb9)
            | (go_at_call 30; (with_reducible refine Calls.mono (HXW.out _ (by repeat (first | with_reducible exact hB9 | with_reducible exact Below.refl _ _ | with_reducible refine belD' ?_ | with_reducible refine belN' _ ?_))) ?_); rintro e wz ⟨rfl, hPz⟩))
      all_goals
          go_wp2_with fail
          go_end0
          exact ⟨rfl, by rw [HE.out]; exact hPz.bs⟩
  · have hg : ((q1 : Int) == 3) = false := by rw [beq_eq_false_iff_ne]; omega
    rw [if_neg g] at hTx
    have HE := hid_of (HR0.out g)
    clear HR3 HR0
    clear g lz hz1 hz2 hz3
    have HKq : Hid (∀ l W1, Wm u w0 kb w.heap.size (w.heap.size + 1) (q1, q2) (rc k x nm (.slice la lb.length lc) wi n d (.slice aa an ac)) l W1 → (fun W => W.cell? ⟨w.heap.size + 1, 2, none⟩ = some (.string ⟨nm.toArray⟩) ∧ W.cell? ⟨w.heap.size + 1, 3, none⟩ = some (.slice la lb.length lc) ∧ W.cell? ⟨w.heap.size + 1, 4, none⟩ = some (.int .i64 wi)) W1) := fun l W1 k => by obtain ⟨u0, u1, u2, u3, u4, u5, u6, u7⟩ := eight k.rl; exact ⟨u2, u3, u4⟩
    have HKp : Hid (∀ W1, Below w1.heap.size w1 W1 → (fun W => W.cell? ⟨w.heap.size + 1, 2, none⟩ = some (.string ⟨nm.toArray⟩) ∧ W.cell? ⟨w.heap.size + 1, 3, none⟩ = some (.slice la lb.length lc) ∧ W.cell? ⟨w.heap.size + 1, 4, none⟩ = some (.int .i64 wi)) W1) := fun W1 hb => HKq.out _ _ (HM1.out.below hb)
    have HX3 : Hid (∀ W, Below w1.heap.size w1 W → Calls Tryz.prog 45 #[.int .i64 wi] W fun e w' => e = .returned (.string ⟨I3.toArray⟩) ∧ Below W.heap.size W w') := fun W hb => HD3.out W (bt HM1.out.st hb)
    have HXP : Hid (∀ W, Below w1.heap.size w1 W → Calls Tryz.prog 46 #[.string ⟨nm.toArray⟩, .slice la lb.length lc] W fun e w' => e = .returned (.string ⟨P.toArray⟩) ∧ Below W.heap.size W w') := fun W hb => HPr.out W (bt HM1.out.st hb)
    have HXW : Hid (∀ W, Below w1.heap.size w1 W → Calls Tryz.prog 30 #[.pointer (some ⟨kb, 0, none⟩), .string ⟨y3.toArray⟩] W fun e w' => e = .returned (.tuple #[.int .i64 (y3.length : Int), .nilIface]) ∧ Wm u w0 kb w.heap.size (w.heap.size + 1) (q1, q2) (rc k x nm (.slice la lb.length lc) wi n d (.slice aa an ac)) ((pre ++ z0) ++ y3) w') := fun W hb => HWc.out _ W (by simp only [List.length_append]; omega) (HM1.out.below hb)
    clear HWc HWb HD1 HD2 HD3 HPr HM0 HW0
    go_upto_region 4 with fail
    go_region_held3 (fun W => W.cell? ⟨w.heap.size + 1, 2, none⟩ = some (.string ⟨nm.toArray⟩) ∧ W.cell? ⟨w.heap.size + 1, 3, none⟩ = some (.slice la lb.length lc) ∧ W.cell? ⟨w.heap.size + 1, 4, none⟩ = some (.int .i64 wi))
        (first | (with_reducible exact HKq.out _ _ hPz) | ((with_reducible refine HKp.out _ ?_); repeat (first | with_reducible exact hB9 | with_reducible exact Below.refl _ _ | with_reducible refine belD' ?_ | with_reducible refine belN' _ ?_)))
        (first
          | (go_at_call 45; (with_reducible refine Calls.mono (HX3.out _ (by repeat (first | with_reducible exact hB9 | with_reducible exact Below.refl _ _ | with_reducible refine belD' ?_ | with_reducible refine belN' _ ?_))) ?_); rintro e w9 ⟨rfl, hb9⟩; have hB9 : Below w1.heap.size w1 w9 := bt (by repeat (first | with_reducible exact hB9 | with_reducible exact Below.refl _ _ | with_reducible refine belD' ?_ | with_reducible refine belN' _ ?_)) hb9)
          | (go_at_call 46; (with_reducible refine Calls.mono (HXP.out _ (by repeat (first | with_reducible exact hB9 | with_reducible exact Below.refl _ _ | with_reducible refine belD' ?_ | with_reducible refine belN' _ ?_))) ?_); rintro e w9 ⟨rfl, hb9⟩; have hB9 : Below w1.heap.size w1 w9 := bt (by repeat (first | with_reducible exact hB9 | with_reducible exact Below.refl _ _ | with_reducible refine belD' ?_ | with_reducible refine belN' _ ?_)) hb9)
          | (go_at_call 30; (with_reducible refine Calls.mono (HXW.out _ (by repeat (first | with_reducible exact hB9 | with_reducible exact Below.refl _ _ | with_reducible refine belD' ?_ | with_reducible refine belN' _ ?_))) ?_); rintro e wz ⟨rfl, hPz⟩))
    all_goals
        go_wp2_with fail
        go_end0
        exact ⟨rfl, by rw [HE.out]; exact hPz.bs⟩
end Go.Proofs.YtoaaijohmfaphaaGreatDoor.Ru
/- RULES: write. Own work of the verifier. -/
namespace Go.Proofs.YtoaaijohmfaphaaGreatDoor.Ru
open Go.RowKit Go.Sort Me

mutual
noncomputable def wrT : RT → List UInt8
  | .mk k x nm lb w n d ar =>
    if shp k = 1 then Rl.pText x
    else if shp k = 2 ∨ shp k = 3 then msT (kwI k) nm lb w n d
    else if shp k = 7 then (kwI k).2 ++ [40] ++ (wrTs ar).getD 0 [] ++ [41]
    else [40] ++ (wrTs ar).getD 0 [] ++ ([32] ++ (kwI k).2 ++ [32]) ++ (wrTs ar).getD 1 [] ++ [41]
noncomputable def wrTs : List RT → List (List UInt8)
  | [] => []
  | t :: ar => wrT t :: wrTs ar
end
theorem wrTs_get : ∀ (ar : List RT) (i : Nat) (h : i < ar.length), (wrTs ar).getD i [] = wrT ar[i]
  | [], i, h => by simp at h
  | t :: ar, 0, _ => by rw [wrTs]; rfl
  | t :: ar, i + 1, h => by
    rw [wrTs]
    exact wrTs_get ar i (by simpa using h)
def szI : RT → Prop
  | .mk _ _ _ _ w n d _ => (-9223372036854775808 ≤ w ∧ w ≤ 9223372036854775807) ∧ (-9223372036854775808 ≤ n ∧ n ≤ 9223372036854775807) ∧ (-9223372036854775808 ≤ d ∧ d ≤ 9223372036854775807)
def okP (s : RT) : Prop := okN s = 0 ∧ szN s ∧ szI s
theorem kw_len (k : Int) : (kwI k).2.length ≤ 8 := by
  unfold kwI
  split
  · rename_i h
    obtain ⟨i, rfl⟩ := Int.eq_ofNat_of_zero_le (a := k) (by omega)
    have hi : i < 22 := by omega
    show (kwA i).2.length ≤ 8
    rcases i with _ | _ | _ | _ | _ | _ | _ | _ | _ | _ | _ | _ | _ | _ | _ | _ | _ | _ | _ | _ | _ | _ | i
    all_goals first | omega | decide
  · decide
set_option maxHeartbeats 4000000 in
set_option maxRecDepth 100000 in
theorem write_any (u : World) (he : Env u) (kb : Nat) : ∀ (t : RT) (v : Value) (w0 w : World) (pre : List UInt8), RV 0 u t v → (∀ s ∈ nds t, okP s) → Below u.heap.size u w → La.BS u.heap.size kb w0 pre w → pre.length + (wrT t).length ≤ 140737488355328 →
    Calls Tryz.prog 17 #[.pointer (some ⟨kb, 0, none⟩), v] w fun e w' => e = .returned (.tuple #[]) ∧ La.BS u.heap.size kb w0 (pre ++ wrT t) w' := by
  refine RT.ind ?_
  intro k x nm lb wi n d ar ih v w0 w pre hv hok hu hB hT
  obtain ⟨hself, ⟨hx, hds⟩, hsw, hsn, hsd⟩ := hok _ (nds_self _)
  have hch : ∀ i (hi : i < ar.length), ∀ s ∈ nds ar[i], okP s := fun i hi s hs => hok s (by
    unfold nds
    exact List.mem_cons_of_mem _ (ndsL_mem (List.getElem_mem hi) hs))
  obtain ⟨hl0, hl2, hl1, hl3⟩ := okN_len hself
  have hsh := kwI_le k
  have hkl := kw_len k
  unfold RV at hv
  obtain ⟨lv, aa, ab, ao, ac, rfl, hl, haa, hac, hac2, hrs⟩ := hv
  obtain ⟨la, lb0, lo, lc, rfl, hlr⟩ := hl
  obtain ⟨W0, hW0⟩ : ∃ W0, W0 = w.alloc (.cells (rc k x nm (.slice la lb.length lc) wi n d (.slice aa ar.length ac)) 26) := ⟨_, rfl⟩
  have hb0 : Below w.heap.size w W0 := by rw [hW0]; exact bel1 w _
  have hn0 : W0.heap[w.heap.size]? = some (.cells (rc k x nm (.slice la lb.length lc) wi n d (.slice aa ar.length ac)) 26) := by rw [hW0]; exact new_1 w _
  have HK : Hid (∀ W, Below u.heap.size u W → Calls Tryz.prog 29 #[rx k x nm (.slice la lb.length lc) wi n d (.slice aa ar.length ac)] W fun e w' => e = .returned (kx (kwI k)) ∧ Below W.heap.size W w') := fun W hb => kind_any k x nm _ wi n d _ ⟨_, _, _, rfl⟩ ⟨_, _, _, rfl⟩ W (he.kd.below hb)
  have HP : Hid (∀ W, Below u.heap.size u W → Calls Tryz.prog 31 #[.float .f64 x] W fun e w' => e = .returned (.string ⟨(Rl.pText x).toArray⟩) ∧ Below W.heap.size W w') := fun W hb => Rl.print_all x hx W (he.gl.below hb)
  have hkw : kwI k = (shp k, (kwI k).2) := rfl
  have HMs : Hid (∀ (l : List UInt8) W, Below u.heap.size u W → La.BS u.heap.size kb w0 l W → l.length + (msT (kwI k) nm lb wi n d).length ≤ 140737488355328 → Calls Tryz.prog 32 #[.pointer (some ⟨kb, 0, none⟩), kx (kwI k), rx k x nm (.slice la lb.length lc) wi n d (.slice aa ar.length ac)] W fun e w' => e = .returned (.tuple #[]) ∧ La.BS u.heap.size kb w0 (l ++ msT (kwI k) nm lb wi n d) w') := fun l W hb hs hl => measure_any u w0 he kb l (kwI k) k x nm lb wi n d _ aa _ ac W hb hs ⟨la, lb0, lo, lc, rfl, hlr⟩ (fun a ha => by have := (hds.2.2 a ha).2; omega) hsw hsn hsd hl
  have HC : Hid (∀ i (hi : i < ar.length), ∃ c : Array Value, (∃ k x nm la ln lc w n d aa an ac, c = rc k x nm (.slice la ln lc) w n d (.slice aa an ac)) ∧ (∀ W, Below u.heap.size u W → ∀ j (hj : j < c.size), W.cell? ⟨ab, ao + i * 8 + j, none⟩ = some c[j]) ∧ ∀ w0 W pre, Below u.heap.size u W → La.BS u.heap.size kb w0 pre W → pre.length + (wrT ar[i]).length ≤ 140737488355328 → Calls Tryz.prog 17 #[.pointer (some ⟨kb, 0, none⟩), .agg c] W fun e w' => e = .returned (.tuple #[]) ∧ La.BS u.heap.size kb w0 (pre ++ wrT ar[i]) w') := fun i hi => by
    obtain ⟨c, h1, h2, h3⟩ := hrs.at_ i hi
    refine ⟨c, ?_, fun W hb j hj => cellH' hb (h3 j hj), fun w0 W pre hb hs hl => ih ar[i] (List.getElem_mem hi) (.agg c) w0 W pre h1 (hch i hi) hb hs hl⟩
    obtain ⟨k', x', nm', la', ln', lc', w', n', d', aa', an', ac', e⟩ := h1.form
    exact ⟨k', x', nm', la', ln', lc', w', n', d', aa', an', ac', by cases e; rfl⟩
  have hT' := hT
  unfold wrT at hT' ⊢
  rw [hkw] at HK HMs hT' ⊢
  dsimp only at hT' ⊢
  have hfl := fldK
  have sF := store_f
  have HB0 : Hid (Below u.heap.size u W0) := bt hu hb0
  have hS0 : La.BS u.heap.size kb w0 pre W0 := by rw [hW0]; exact hB.alloc _
  have hkb : kb < w.heap.size := hB.lt
  have HS0 := hid_of hS0
  have HN0 := hid_of hn0
  have HW0 := hid_of hW0
  have HA := hid_of haa
  have hac' : ar.length ≤ 9223372036854775807 := by omega
  have H0 := hid_of hl0
  have H1 := hid_of hl1
  have H2 := hid_of hl2
  have HL : Hid (shp k ≤ 7) := hsh
  have HG : Hid (∀ i (hi : i < ar.length), (wrTs ar).getD i [] = wrT ar[i]) := fun i hi => wrTs_get ar i hi
  clear he hu hB hT hself hx hds hsw hsn hsd hch hok hl0 hl2 hl1 hl3 hsh hlr haa hrs hb0 hn0 hW0 ih hkw hac2 hac hS0
  generalize (kwI k).2 = wd at *
  generalize shp k = sh at *
  generalize Rl.pText x = PT at *
  generalize msT (sh, wd) nm lb wi n d = MT at *
  generalize wrTs ar = TS at *
  obtain ⟨X, hX⟩ : ∃ X, X = (if sh = 1 then PT else if sh = 2 ∨ sh = 3 then MT else if sh = 7 then wd ++ [40] ++ TS.getD 0 [] ++ [41] else [40] ++ TS.getD 0 [] ++ ([32] ++ wd ++ [32]) ++ TS.getD 1 [] ++ [41]) := ⟨_, rfl⟩
  rw [← hX] at hT' ⊢
  have HX0 := hid_of hX
  clear hX
  obtain ⟨c0, hc0⟩ : ∃ c0, c0 = (rc k x nm (.slice la lb.length lc) wi n d (.slice aa ar.length ac)) := ⟨_, rfl⟩
  go_enter Tryz.func17, Tryz.ntmps17
  go_upto_region 1 with fail
  rw [← HW0.out]
  obtain ⟨y0, y1, y2, y3, y4, y5, y6, y7⟩ := eight HN0.out
  go_wp2_with fail
  refine Calls.mono (HK.out _ HB0.out) ?_
  rintro e w1 ⟨rfl, hb1⟩
  have hM1 : Wm u w0 kb w1.heap.size w.heap.size (sh, wd) (rc k x nm (.slice la lb.length lc) wi n d (.slice aa ar.length ac)) pre (w1.alloc (.cells #[.int .i64 (sh : Int), .string ⟨wd.toArray⟩] 75)) :=
    ⟨(bs_below HS0.out hb1).alloc _, bt (bt HB0.out hb1) (bel1 _ _), new_1 _ _, ((bel1 w1 (.cells #[.int .i64 (sh : Int), .string ⟨wd.toArray⟩] 75)).block _ (by have := hb1.size; have := (Array.getElem?_eq_some_iff.1 HN0.out).1; omega)).trans ((hb1.block _ (Array.getElem?_eq_some_iff.1 HN0.out).1).trans HN0.out), by have := hb1.size; have := (Array.getElem?_eq_some_iff.1 HN0.out).1; omega, by omega⟩
  have HM1 := hid_of hM1
  clear hM1 hb1 HK HS0 HB0 HW0 HN0 y0 y1 y2 y3 y4 y5 y6 y7 hkb
  go_upto_region 2 with fail
  generalize w1.alloc (.cells #[.int .i64 (sh : Int), .string ⟨wd.toArray⟩] 75) = W2 at *
  generalize w1.heap.size = gk at *
  generalize w.heap.size = gr at *
  rw [← hc0] at HM1
  have HE8 : Hid (∀ l W, Wm u w0 kb gk gr (sh, wd) c0 l W → (W.cell? ⟨gk, 0, none⟩ = some (.int .i64 (sh : Int)) ∧ W.cell? ⟨gk, 1, none⟩ = some (.string ⟨wd.toArray⟩)) ∧ W.cell? ⟨gr, 0, none⟩ = some (.int .i64 k) ∧ W.cell? ⟨gr, 1, none⟩ = some (.float .f64 x) ∧ W.cell? ⟨gr, 2, none⟩ = some (.string ⟨nm.toArray⟩) ∧ W.cell? ⟨gr, 3, none⟩ = some (.slice la lb.length lc) ∧ W.cell? ⟨gr, 4, none⟩ = some (.int .i64 wi) ∧ W.cell? ⟨gr, 5, none⟩ = some (.int .i64 n) ∧ W.cell? ⟨gr, 6, none⟩ = some (.int .i64 d) ∧ W.cell? ⟨gr, 7, none⟩ = some (.slice aa ar.length ac)) := fun l W h => ⟨kd_cells h.kd, eight (t := 26) (by have := h.rl; rw [hc0] at this; exact this)⟩
  clear hc0
  obtain ⟨⟨k0, k1⟩, y0, y1, y2, y3, y4, y5, y6, y7⟩ := HE8.out _ _ HM1.out
  by_cases s1 : sh = 1
  · have g1 : ((sh : Int) == 1) = true := by rw [beq_iff_eq]; omega
    have e := HX0.out
    rw [if_pos s1] at e
    subst e
    have HX := hid_of (HP.out W2 HM1.out.st)
    clear HP HMs HC H0 H1 H2 HL HG HA s1 k1 y0 y2 y3 y4 y5 y6 y7 HX0
    go_wp2_with fail
    refine Calls.mono HX.out ?_
    rintro e w3 ⟨rfl, hb3⟩
    have HM3 := hid_of (HM1.out.below hb3)
    have D : La.HidC _ _ _ _ _ := HM3.out.ws X hT'
    clear HX hb3 HM1 HE8 k0 y1
    go_wp2_with fail
    refine Calls.mono D.out ?_
    rintro e w4 ⟨rfl, hm4⟩
    go_wp2_with fail
    go_end0
    exact ⟨rfl, hm4.bs⟩
  have g1 : ((sh : Int) == 1) = false := by rw [beq_eq_false_iff_ne]; omega
  have e := HX0.out
  rw [if_neg s1] at e
  have HX1 := hid_of e
  clear e HX0
  clear HP
  by_cases s2 : sh = 2 ∨ sh = 3
  · have e := HX1.out
    rw [if_pos s2] at e
    subst e
    have D : La.HidC _ _ _ _ _ := HMs.out pre W2 HM1.out.st HM1.out.bs hT'
    clear HMs HC H0 H1 H2 HL HG HA HE8 HM1
    rcases s2 with s2 | s2
    · have g2 : ((sh : Int) == 2) = true := by rw [beq_iff_eq]; omega
      clear s1 s2
      go_wp2_with fail
      refine Calls.mono D.out ?_
      rintro e w4 ⟨rfl, hm4⟩
      go_wp2_with fail
      go_end0
      exact ⟨rfl, hm4⟩
    · have g2 : ((sh : Int) == 2) = false := by rw [beq_eq_false_iff_ne]; omega
      have g3 : ((sh : Int) == 3) = true := by rw [beq_iff_eq]; omega
      clear s1 s2
      go_wp2_with fail
      refine Calls.mono D.out ?_
      rintro e w4 ⟨rfl, hm4⟩
      go_wp2_with fail
      go_end0
      exact ⟨rfl, hm4⟩
  have g2 : ((sh : Int) == 2) = false := by rw [beq_eq_false_iff_ne]; omega
  have g3 : ((sh : Int) == 3) = false := by rw [beq_eq_false_iff_ne]; omega
  have e := HX1.out
  rw [if_neg s2] at e
  have HX2 := hid_of e
  clear e HX1
  clear HMs
  by_cases s7 : sh = 7
  · have g7 : ((sh : Int) == 7) = true := by rw [beq_iff_eq]; omega
    have e := HX2.out
    rw [if_pos s7] at e
    have h1 := H1.out s7
    have hlt0 : 0 < ar.length := by omega
    rw [HG.out 0 hlt0] at e
    rw [e] at hT'
    have HF0 := hid_of e
    clear e HX2
    obtain ⟨haa, -⟩ := HA.out (fun e => by rw [e] at hlt0; simp at hlt0)
    subst haa
    obtain ⟨c0, ⟨k0', x0', nm0', la0', ln0', lc0', w0', n0', d0', aa0', an0', ac0', rfl⟩, hcs0, hcl0⟩ := HC.out 0 hlt0
    have HW0 := hid_of hcl0
    have HQ0 := hid_of hcs0
    clear hcs0 hcl0
    have hix0 : ∀ W, (Instr.indexAt 24 (.slice (some ⟨ab, ao, none⟩) ar.length ac) (.int .i64 0)).run Tryz.prog W = .ok (.pointer (some ⟨ab, ao, none⟩)) W := fun W => by simpa using index_rl ab ao ar.length ac 0 0 rfl hlt0 W
    clear HC H0 H1 H2 HL HG HA h1 s7 s1 s2
    generalize wrT ar[0] = T0 at *
    obtain ⟨z0, hz0⟩ : ∃ z, z = wd ++ [40] := ⟨_, rfl⟩
    have hz0l : z0.length = wd.length + 1 := by rw [hz0]; simp
    have hTl : pre.length + z0.length + T0.length + 1 ≤ 140737488355328 := by rw [hz0l]; simp at hT'; omega
    have HF : Hid (pre ++ X = pre ++ z0 ++ T0 ++ [41]) := by show _ = _; rw [HF0.out, hz0]; simp
    have q0 : ∀ W, (Op.stringOp .add ⟨wd.toArray⟩ ⟨#[40]⟩).run Tryz.prog W = .ok (.string ⟨z0.toArray⟩) W := fun W => by rw [hz0]; exact La.sadd wd [40] (by simp; omega) W
    have D : La.HidC _ _ _ _ _ := HM1.out.ws z0 (by omega)
    clear HF0 hz0 hz0l hT' hlt0
    go_wp2_with fail
    refine Calls.mono D.out ?_
    rintro e w3 ⟨rfl, hm3⟩
    have HM3 := hid_of hm3
    clear D HM1 hm3 q0 k0 k1 y0 y1 y2 y3 y4 y5 y6 y7
    have cs := HQ0.out w3 HM3.out.st
    have x0 := cs 0 (by show 0 < 8; decide)
    have x1 := cs 1 (by show 1 < 8; decide)
    have x2 := cs 2 (by show 2 < 8; decide)
    have x3 := cs 3 (by show 3 < 8; decide)
    have x4 := cs 4 (by show 4 < 8; decide)
    have x5 := cs 5 (by show 5 < 8; decide)
    have x6 := cs 6 (by show 6 < 8; decide)
    have x7 := cs 7 (by show 7 < 8; decide)
    simp only [Nat.zero_mul, Nat.add_zero] at x0 x1 x2 x3 x4 x5 x6 x7
    clear cs
    obtain ⟨⟨k0, k1⟩, y0, y1, y2, y3, y4, y5, y6, y7⟩ := HE8.out _ _ HM3.out
    have D : La.HidC _ _ _ _ _ := HW0.out w3 w3 (pre ++ z0) HM3.out.st HM3.out.bs.re (by simp only [List.length_append]; omega)
    clear HW0 HQ0 HE8
    go_wp2_with fail
    refine Calls.mono D.out ?_
    rintro e w4 ⟨rfl, hm4⟩
    have HM4 := hid_of (HM3.out.then hm4)
    have D2 : La.HidC _ _ _ _ _ := HM4.out.ws [41] (by simp only [List.length_append, List.length_cons, List.length_nil]; omega)
    clear D HM3 hm4 k0 k1 y0 y1 y2 y3 y4 y5 y6 y7 x0 x1 x2 x3 x4 x5 x6 x7 hix0
    go_wp2_with fail
    refine Calls.mono D2.out ?_
    rintro e w5 ⟨rfl, hm5⟩
    go_wp2_with fail
    go_end0
    exact ⟨rfl, by rw [HF.out]; exact hm5.bs⟩
  have g7 : ((sh : Int) == 7) = false := by rw [beq_eq_false_iff_ne]; omega
  have e := HX2.out
  rw [if_neg s7] at e
  have h2 := H2.out (by have := HL.out; have := H0.out; omega)
  have hlt0 : 0 < ar.length := by omega
  have hlt1 : 1 < ar.length := by omega
  rw [HG.out 0 hlt0, HG.out 1 hlt1] at e
  rw [e] at hT'
  have HF0 := hid_of e
  clear e HX2
  obtain ⟨haa, -⟩ := HA.out (fun e => by rw [e] at hlt0; simp at hlt0)
  subst haa
  obtain ⟨c0, ⟨k0', x0', nm0', la0', ln0', lc0', w0', n0', d0', aa0', an0', ac0', rfl⟩, hcs0, hcl0⟩ := HC.out 0 hlt0
  have HW0 := hid_of hcl0
  have HQ0 := hid_of hcs0
  clear hcs0 hcl0
  obtain ⟨c1, ⟨k1', x1', nm1', la1', ln1', lc1', w1', n1', d1', aa1', an1', ac1', rfl⟩, hcs1, hcl1⟩ := HC.out 1 hlt1
  have HW1 := hid_of hcl1
  have HQ1 := hid_of hcs1
  clear hcs1 hcl1
  obtain ⟨o1, ho1⟩ : ∃ o1, o1 = ao + 1 * 8 := ⟨_, rfl⟩
  have HO : Hid (ao + 1 * 8 = o1) := ho1.symm
  have hix0 : ∀ W, (Instr.indexAt 24 (.slice (some ⟨ab, ao, none⟩) ar.length ac) (.int .i64 0)).run Tryz.prog W = .ok (.pointer (some ⟨ab, ao, none⟩)) W := fun W => by simpa using index_rl ab ao ar.length ac 0 0 rfl hlt0 W
  have hix1 : ∀ W, (Instr.indexAt 24 (.slice (some ⟨ab, ao, none⟩) ar.length ac) (.int .i64 1)).run Tryz.prog W = .ok (.pointer (some ⟨ab, o1, none⟩)) W := fun W => by rw [ho1]; exact index_rl ab ao ar.length ac 1 1 rfl hlt1 W
  clear HC H0 H1 H2 HL HG HA h2 s7 s1 s2 ho1
  generalize wrT ar[0] = T0 at *
  generalize wrT ar[1] = T1 at *
  obtain ⟨z0, hz0⟩ : ∃ z : List UInt8, z = [32] ++ wd := ⟨_, rfl⟩
  obtain ⟨z1, hz1⟩ : ∃ z, z = z0 ++ [32] := ⟨_, rfl⟩
  have hz1l : z1.length = wd.length + 2 := by rw [hz1, hz0]; simp
  have hz0l : z0.length = wd.length + 1 := by rw [hz0]; simp
  have hTl : pre.length + 1 + T0.length + z1.length + T1.length + 1 ≤ 140737488355328 := by rw [hz1l]; simp at hT'; omega
  have HF : Hid (pre ++ X = pre ++ [40] ++ T0 ++ z1 ++ T1 ++ [41]) := by show _ = _; rw [HF0.out, hz1, hz0]; simp
  have q0 : ∀ W, (Op.stringOp .add ⟨#[32]⟩ ⟨wd.toArray⟩).run Tryz.prog W = .ok (.string ⟨z0.toArray⟩) W := fun W => by rw [hz0]; exact La.sadd [32] wd (by simp; omega) W
  have q1 : ∀ W, (Op.stringOp .add ⟨z0.toArray⟩ ⟨#[32]⟩).run Tryz.prog W = .ok (.string ⟨z1.toArray⟩) W := fun W => by rw [hz1]; exact La.sadd z0 [32] (by simp; omega) W
  have D : La.HidC _ _ _ _ _ := HM1.out.ws [40] (by simp only [List.length_cons, List.length_nil]; omega)
  clear HF0 hz0 hz1 hz0l hz1l hT' hlt0 hlt1
  go_wp2_with fail
  refine Calls.mono D.out ?_
  rintro e w3 ⟨rfl, hm3⟩
  have HM3 := hid_of hm3
  clear D HM1 hm3 k0 k1 y0 y1 y2 y3 y4 y5 y6 y7
  have cs := HQ0.out w3 HM3.out.st
  have x0 := cs 0 (by show 0 < 8; decide)
  have x1 := cs 1 (by show 1 < 8; decide)
  have x2 := cs 2 (by show 2 < 8; decide)
  have x3 := cs 3 (by show 3 < 8; decide)
  have x4 := cs 4 (by show 4 < 8; decide)
  have x5 := cs 5 (by show 5 < 8; decide)
  have x6 := cs 6 (by show 6 < 8; decide)
  have x7 := cs 7 (by show 7 < 8; decide)
  simp only [Nat.zero_mul, Nat.add_zero] at x0 x1 x2 x3 x4 x5 x6 x7
  clear cs
  obtain ⟨⟨k0, k1⟩, y0, y1, y2, y3, y4, y5, y6, y7⟩ := HE8.out _ _ HM3.out
  have D : La.HidC _ _ _ _ _ := HW0.out w3 w3 (pre ++ [40]) HM3.out.st HM3.out.bs.re (by simp only [List.length_append, List.length_cons, List.length_nil]; omega)
  clear HW0 HQ0
  go_wp2_with fail
  refine Calls.mono D.out ?_
  rintro e w4 ⟨rfl, hm4⟩
  have HM4 := hid_of (HM3.out.then hm4)
  have D2 : La.HidC _ _ _ _ _ := HM4.out.ws z1 (by simp only [List.length_append, List.length_cons, List.length_nil]; omega)
  clear D HM3 hm4 k0 k1 y0 y1 y2 y3 y4 y5 y6 y7 x0 x1 x2 x3 x4 x5 x6 x7 hix0
  obtain ⟨⟨k0, k1⟩, y0, y1, y2, y3, y4, y5, y6, y7⟩ := HE8.out _ _ HM4.out
  go_wp2_with fail
  refine Calls.mono D2.out ?_
  rintro e w5 ⟨rfl, hm5⟩
  have HM5 := hid_of hm5
  clear D2 HM4 hm5 q0 q1 k0 k1 y0 y1 y2 y3 y4 y5 y6 y7
  have cs := HQ1.out w5 HM5.out.st
  have x0 := cs 0 (by show 0 < 8; decide)
  have x1 := cs 1 (by show 1 < 8; decide)
  have x2 := cs 2 (by show 2 < 8; decide)
  have x3 := cs 3 (by show 3 < 8; decide)
  have x4 := cs 4 (by show 4 < 8; decide)
  have x5 := cs 5 (by show 5 < 8; decide)
  have x6 := cs 6 (by show 6 < 8; decide)
  have x7 := cs 7 (by show 7 < 8; decide)
  rw [HO.out] at x0 x1 x2 x3 x4 x5 x6 x7
  try simp only [Nat.add_zero] at x0
  clear cs
  obtain ⟨⟨k0, k1⟩, y0, y1, y2, y3, y4, y5, y6, y7⟩ := HE8.out _ _ HM5.out
  have D : La.HidC _ _ _ _ _ := HW1.out w5 w5 _ HM5.out.st HM5.out.bs.re (by simp only [List.length_append, List.length_cons, List.length_nil]; omega)
  clear HW1 HQ1 HE8
  go_wp2_with fail
  refine Calls.mono D.out ?_
  rintro e w6 ⟨rfl, hm6⟩
  have HM6 := hid_of (HM5.out.then hm6)
  have D2 : La.HidC _ _ _ _ _ := HM6.out.ws [41] (by simp only [List.length_append, List.length_cons, List.length_nil]; omega)
  clear D HM5 hm6 k0 k1 y0 y1 y2 y3 y4 y5 y6 y7 x0 x1 x2 x3 x4 x5 x6 x7 hix1
  go_wp2_with fail
  refine Calls.mono D2.out ?_
  rintro e w7 ⟨rfl, hm7⟩
  go_wp2_with fail
  go_end0
  exact ⟨rfl, by rw [HF.out]; exact hm7.bs⟩
end Go.Proofs.YtoaaijohmfaphaaGreatDoor.Ru
/- RULES: THE DOCUMENT'S TEXT OF ANY RULE THAT MAY BE. Own work of the verifier. -/
namespace Go.Proofs.YtoaaijohmfaphaaGreatDoor.Ru
open Go.RowKit Me

theorem ok_hld {k : Int} {x : Nat} {nm : List UInt8} {lb : List La.Lb} {w n d : Int} {ar : List RT} (h : okN (.mk k x nm lb w n d ar) = 0) : hldB (shp k) x w n d ar.length = true := by
  have h' : ndE (shp k) x nm lb w n d ar.length = 0 := h
  unfold ndE at h'
  cases hh : hldB (shp k) x w n d ar.length
  · rw [hh] at h'
    split at h'
    · exact absurd h' (by decide)
    · split at h'
      · exact absurd h' (by decide)
      · simp at h'
  · rfl
theorem ok_chk {k : Int} {x : Nat} {nm : List UInt8} {lb : List La.Lb} {w n d : Int} {ar : List RT} (h : okN (.mk k x nm lb w n d ar) = 0) (hs : shp k = 2 ∨ shp k = 3) : La.chkD ⟨1, nm, [], lb⟩ = 0 := by
  have h' : ndE (shp k) x nm lb w n d ar.length = 0 := h
  unfold ndE at h'
  split at h'
  · exact absurd h' (by decide)
  · split at h'
    · exact absurd h' (by decide)
    · split at h'
      · exact absurd h' (by decide)
      · first
          | exact h'
          | (rw [if_pos hs] at h'; exact h')
end Go.Proofs.YtoaaijohmfaphaaGreatDoor.Ru
