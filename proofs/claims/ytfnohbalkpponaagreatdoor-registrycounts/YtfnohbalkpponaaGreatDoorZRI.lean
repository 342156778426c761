/- SNAPSHOTS: values in memory, sorted by their series. Own work of the verifier. -/
import Derived.Test.YtfnohbalkpponaaGreatDoorZRC
import Derived.Test.YtfnohbalkpponaaGreatDoorZRG
import Derived.Test.YtfnohbalkpponaaGreatDoorShelf3
import Derived.Test.YtfnohbalkpponaaGreatDoorZRH
import Derived.Deep.AppendLies
namespace Go.Proofs.YtfnohbalkpponaaGreatDoor.La
theorem ordE_flip (a b : List UInt8) : ordE b a = -ordE a b := by
  unfold ordE bltB
  by_cases h1 : a < b
  · have h2 : ¬ b < a := fun h => List.lt_irrefl _ (List.lt_trans h1 h)
    simp [h1, h2]
  · by_cases h2 : b < a
    · simp [h1, h2]
    · simp [h1, h2]
theorem ordL_flip : ∀ A B : List Lb, ordL B A = -ordL A B
  | [], [] => rfl
  | [], _ :: _ => rfl
  | _ :: _, [] => rfl
  | a :: A, b :: B => by
    rw [ordL, ordL, ordE_flip a.1 b.1, ordE_flip a.2 b.2, ordL_flip A B]
    by_cases h1 : ordE a.1 b.1 = 0
    · simp only [h1, Int.neg_zero, ne_eq, not_true_eq_false, if_false]
      by_cases h2 : ordE a.2 b.2 = 0
      · simp only [h2, Int.neg_zero, not_true_eq_false, if_false]
      · have h3 : ¬ -ordE a.2 b.2 = 0 := by omega
        simp only [h2, h3, not_false_eq_true, if_true]
    · have h3 : ¬ -ordE a.1 b.1 = 0 := by omega
      simp only [ne_eq, h1, h3, not_false_eq_true, if_true]
theorem ordD_flip (d e : Ds) : ordD e d = -ordD d e := by
  unfold ordD
  rw [ordE_flip d.name e.name, ordL_flip d.labels e.labels]
  by_cases h1 : ordE d.name e.name = 0
  · simp only [h1, Int.neg_zero, ne_eq, not_true_eq_false, if_false]
  · have h3 : ¬ -ordE d.name e.name = 0 := by omega
    simp only [ne_eq, h1, h3, not_false_eq_true, if_true]
end Go.Proofs.YtfnohbalkpponaaGreatDoor.La
namespace Go.Proofs.YtfnohbalkpponaaGreatDoor
open Go.RowKit Go.Shelf Go.Lib
open Go.Sort (SWO PermIn SortedIn HoldsK flatK size_flatK get_flatK putRowK putRow grow ahead mapBlock holdsK_grow holdsK_ahead holdsK_putRowK alloc_eq_grow grow_grow)

/-- A value: its description, the list of its labels, what it came to. -/
structure VV where
  d : La.Ds
  lv : Value
  hi : Int
  lo : Int
  cv : Value
  A : List Cn
  n : Nat
  r : Nat
  mn : Nat
  mx : Nat
def vvC (x : VV) : List Value := [.int .i64 x.d.kind, .string ⟨x.d.name.toArray⟩, .string ⟨x.d.help.toArray⟩, x.lv, .int .i64 x.hi, .int .u64 x.lo, x.cv, .int .u64 (x.n : Int), .float .f64 x.r, .float .f64 x.mn, .float .f64 x.mx]
/-- Its labels are its own; its counts are a list. -/
def VV.Rd (w : World) (x : VV) : Prop := Va.OwnL 0 x.lv x.d.labels w ∧ ∃ a m c, x.cv = .slice a m c
theorem VV.ds {w : World} {x : VV} (h : VV.Rd w x) : La.DsC w x.d (.agg #[.int .i64 x.d.kind, .string ⟨x.d.name.toArray⟩, .string ⟨x.d.help.toArray⟩, x.lv]) := by
  obtain ⟨ao, b, o, cap, e, h1, h2, h3, h4, _⟩ := ownL_ds h.1
  exact ⟨ao, b, o, cap, by rw [e], h1, h2, h3, h4⟩
theorem gw_grow {W W' : World} (h : La.Gw W W') : ∃ q os, W' = grow (W.drewN q) os := by
  obtain ⟨q, hq⟩ := Nat.le.dest h.dr
  refine ⟨q, W'.heap.extract W.heap.size W'.heap.size, ?_⟩
  have hdn : ∀ (n : Nat) (V : World), V.drewN n = { V with drawn := V.drawn + n } := fun _ _ => rfl
  have hh : W'.heap = W.heap ++ W'.heap.extract W.heap.size W'.heap.size := by
    have hs := h.bel.size
    apply Array.ext
    · simp; omega
    · intro k h1 h2
      by_cases hk : k < W.heap.size
      · rw [Array.getElem_append_left hk]
        have := h.bel.block k hk
        rw [Array.getElem?_eq_getElem h1, Array.getElem?_eq_getElem hk] at this
        exact Option.some.inj this
      · rw [Array.getElem_append_right (by omega)]
        simp
        congr 1
        omega
  rw [hdn]
  unfold grow
  obtain ⟨hp, tp, dr, os, out⟩ := W'
  have e1 : tp = W.tape := h.bel.tape
  have e2 : os = W.os := h.bel.os
  have e3 : out = W.output := h.bel.output
  have e4 : dr = W.drawn + q := hq.symm
  subst e1 e2 e3 e4
  dsimp only at hh ⊢
  rw [← hh]
set_option maxHeartbeats 1000000 in
set_option maxRecDepth 100000 in
theorem snap1_any (x y : VV) (W : World) (hx : VV.Rd W x) (hy : VV.Rd W y) : Calls Tryz.prog 83 #[.agg (vvC x).toArray, .agg (vvC y).toArray] W fun e w' => e = .returned (.int .i64 (La.ordD x.d y.d)) ∧ Hid (La.Gw W w') := by
  have HD : Hid (∀ o1 o2 : Obj, Calls Tryz.prog 84 #[.agg #[.int .i64 x.d.kind, .string ⟨x.d.name.toArray⟩, .string ⟨x.d.help.toArray⟩, x.lv], .agg #[.int .i64 y.d.kind, .string ⟨y.d.name.toArray⟩, .string ⟨y.d.help.toArray⟩, y.lv]] ((W.alloc o1).alloc o2) fun e w' => e = .returned (.int .i64 (La.ordD x.d y.d)) ∧ Hid (La.Gw W w')) := fun o1 o2 => by
    have hb := (La.gw2 W o1 o2)
    refine Calls.mono (La.ccompare_gw x.d y.d _ _ _ ((VV.ds hx).below hb.bel) ((VV.ds hy).below hb.bel)) ?_
    rintro e w' ⟨rfl, hg⟩
    exact ⟨rfl, hb.trans hg⟩
  obtain ⟨xa, xm, xc, ex⟩ := own_sl hx.1
  obtain ⟨ya, ym, yc, ey⟩ := own_sl hy.1
  obtain ⟨xa', xm', xc', ex'⟩ := hx.2
  obtain ⟨ya', ym', yc', ey'⟩ := hy.2
  clear hx hy
  obtain ⟨⟨k1, n1, h1, D1⟩, lv1, hi1, lo1, cv1, A1, m1, r1, mn1, mx1⟩ := x
  obtain ⟨⟨k2, n2, h2, D2⟩, lv2, hi2, lo2, cv2, A2, m2, r2, mn2, mx2⟩ := y
  dsimp only at *
  subst ex ey ex' ey'
  unfold vvC
  dsimp only
  generalize La.ordD ⟨k1, n1, h1, D1⟩ ⟨k2, n2, h2, D2⟩ = z at *
  go_enter Tryz.func83, Tryz.ntmps83
  go_wp2_with (go_at_call 84; with_reducible refine Calls.mono (HD.out _ _) ?_; rintro e w1 ⟨rfl, HG⟩)
  go_ret
  exact ⟨rfl, HG⟩
theorem ltD {w : World} (x y : {x : VV // VV.Rd w x}) : ltOf (fun x y : {x : VV // VV.Rd w x} => La.ordD x.1.d y.1.d) x y = decide (La.ordD x.1.d y.1.d < 0) := rfl
theorem swoD {w : World} : SWO (ltOf fun x y : {x : VV // VV.Rd w x} => La.ordD x.1.d y.1.d) where
  irrefl x := by rw [ltD, (La.ordD_zero x.1.d x.1.d).2 ⟨rfl, rfl⟩]; rfl
  trans x y z h1 h2 := by
    rw [ltD] at *
    have a := of_decide_eq_true h1
    have b := of_decide_eq_true h2
    obtain ⟨c, d⟩ := La.T3.ordD x.1.d y.1.d z.1.d (by omega) (by omega)
    refine decide_eq_true ?_
    by_cases e : La.ordD x.1.d z.1.d = 0
    · have := (d.1 e).1; omega
    · omega
  ntrans x y z h1 h2 := by
    rw [ltD] at *
    have a := of_decide_eq_false h1
    have b := of_decide_eq_false h2
    have f1 := La.ordD_flip x.1.d y.1.d
    have f2 := La.ordD_flip y.1.d z.1.d
    have f3 := La.ordD_flip x.1.d z.1.d
    obtain ⟨c, d⟩ := La.T3.ordD z.1.d y.1.d x.1.d (by omega) (by omega)
    exact decide_eq_false (by omega)
end Go.Proofs.YtfnohbalkpponaaGreatDoor
/- SNAPSHOTS: the sort. Own work of the verifier. -/
namespace Go.Proofs.YtfnohbalkpponaaGreatDoor
open Go.RowKit Go.Shelf Go.Lib
open Go.Sort (SWO PermIn SortedIn HoldsK flatK size_flatK get_flatK putRowK putRow grow ahead mapBlock holdsK_grow holdsK_ahead holdsK_putRowK alloc_eq_grow grow_grow)

def flV : List VV → List Value
  | [] => []
  | x :: L => vvC x ++ flV L
theorem vvC_len (x : VV) : (vvC x).length = 11 := rfl
theorem flV_len (L : List VV) : (flV L).length = L.length * 11 := by
  induction L with
  | nil => rfl
  | cons x L ih => simp only [flV, List.length_append, List.length_cons, ih, vvC_len]; omega
theorem flV_app (A B : List VV) : flV (A ++ B) = flV A ++ flV B := by
  induction A with
  | nil => rfl
  | cons x A ih => simp only [List.cons_append, flV, ih, List.append_assoc]
theorem flV_get (L : List VV) (i : Nat) (h : i < L.length) (j : Nat) (hj : j < 11) : (flV L)[i * 11 + j]? = (vvC L[i])[j]? := by
  induction L generalizing i with
  | nil => simp at h
  | cons x L ih =>
    cases i with
    | zero =>
      show (vvC x ++ flV L)[0 * 11 + j]? = (vvC x)[j]?
      rw [List.getElem?_append_left (by rw [vvC_len]; omega)]
      congr 1
      omega
    | succ i =>
      have h' : i < L.length := by simpa using h
      show (vvC x ++ flV L)[(i + 1) * 11 + j]? = (vvC L[i])[j]?
      rw [List.getElem?_append_right (by rw [vvC_len]; omega), ← ih i h', vvC_len]
      congr 1
      omega
/-- Values in memory of one's own. -/
structure VsW (w : World) (B : Nat) (v : Value) (L : List VV) : Prop where
  row : w.ownsRow B 73 11 v L.length (flV L)
  lab : ∀ x ∈ L, Va.OwnL B x.lv x.d.labels w
  cnt : ∀ x ∈ L, Va.OwnC B x.cv x.A w
theorem VsW.nil (w : World) (B : Nat) : VsW w B (.slice none 0 0) [] := ⟨World.ownsRow_nil _ _ _ _, fun _ hx => (by cases hx), fun _ hx => (by cases hx)⟩
theorem VsW.chg {S : Nat → Prop} {w w' : World} {B : Nat} {v : Value} {L : List VV} (h : VsW w B v L) (hc : Chg S w w') (hS : ∀ x, S x → x < B) : VsW w' B v L :=
  ⟨chg_row hc h.row (fun x hx k => by have := own_ge h.row hx; have := hS x k; omega), fun x hx => chg_row hc (h.lab x hx) (fun y hy k => by have := own_ge (h.lab x hx) hy; have := hS y k; omega), fun x hx => chg_row hc (h.cnt x hx) (fun y hy k => by have := own_ge (h.cnt x hx) hy; have := hS y k; omega)⟩
theorem VsW.below {w w' : World} {B : Nat} {v : Value} {L : List VV} (h : VsW w B v L) (hb : Below w.heap.size w w') : VsW w' B v L := h.chg (Chg.of_below (S := fun _ => False) hb) (fun _ k => k.elim)
theorem chg_sortK {α : Type} [Inhabited α] {enc : α → List Value} {k : Nat} {w : World} {g n off : Nat} {d : Array α} {os : Array Obj} : Chg (fun y => y = g) w (sortWorldK enc k w g off n d os) := by
  refine ⟨rfl, rfl, rfl, ?_, fun j hj hn => ?_⟩
  · show w.heap.size ≤ ((w.heap.modify g _) ++ os).size
    simp
  · show ((w.heap.modify g _) ++ os)[j]? = w.heap[j]?
    rw [Array.getElem?_append_left (by rw [Array.size_modify]; omega), Array.getElem?_modify, if_neg (fun e => hn e.symm)]
def vv0 : VV := ⟨⟨0, [], [], []⟩, .slice none 0 0, 0, 0, .slice none 0 0, [], 0, 0, 0, 0⟩
theorem rd_vv0 (w : World) : VV.Rd w vv0 := ⟨World.ownsRow_nil _ _ _ _, ⟨_, _, _, rfl⟩⟩
theorem vv_one (x : VV) (w : World) (h : VV.Rd w x) : ∀ v ∈ vvC x, v.oneCell' = true := fun v hv => by
  obtain ⟨a, m, c, e⟩ := own_sl h.1
  obtain ⟨a', m', c', e'⟩ := h.2
  simp [vvC, e, e'] at hv
  rcases hv with rfl | rfl | rfl | rfl | rfl | rfl | rfl | rfl | rfl | rfl | rfl <;> rfl
/-- What a row of values holds behind the sort. -/
theorem sort_own {w : World} {B g cap n : Nat} {L : List VV} {os : Array Obj} [Inhabited {x : VV // VV.Rd w x}] (row : w.ownsRow B 73 11 (.slice (some ⟨g, 0, none⟩) L.length cap) L.length (flV L)) (d : Array {x : VV // VV.Rd w x}) (hs : d.size = L.length) :
    (sortWorldK (fun x : {x : VV // VV.Rd w x} => vvC x.1) 11 w g 0 n d os).ownsRow B 73 11 (.slice (some ⟨g, 0, none⟩) L.length cap) L.length (flV (d.toList.map Subtype.val)) := by
  rcases row.2 with ⟨k, _⟩ | ⟨g', cap', cur, k, hb, hg, h3, h4, h5, h6⟩
  · cases k
  · injection k with k1 k2 k3
    injection k1 with k1
    injection k1 with k1
    subst k1 k3
    have hlt : g < w.heap.size := (Array.getElem?_eq_some_iff.1 hg).1
    refine ⟨by rw [flV_len]; simp [hs], Or.inr ⟨g, cap, Sort.putCells id 0 (flatK (fun x : {x : VV // VV.Rd w x} => vvC x.1) 11 d) cur, rfl, hb, ?_, h3, h4, by simp [Sort.putCells, h5], ?_⟩⟩
    · show ((w.heap.modify g _) ++ os)[g]? = _
      rw [Array.getElem?_append_left (by rw [Array.size_modify]; exact hlt), Array.getElem?_modify, if_pos rfl, hg]
      rfl
    · have hsz : (flatK (fun x : {x : VV // VV.Rd w x} => vvC x.1) 11 d).size = L.length * 11 := by rw [size_flatK, hs]
      have hcs : cur.size = cap * 11 := h5
      apply List.ext_getElem?
      intro j
      by_cases hj : j < L.length * 11
      · rw [List.getElem?_take, if_pos hj]
        have hi : j / 11 < (d.toList.map Subtype.val).length := by simp; omega
        have e1 := flV_get (d.toList.map Subtype.val) (j / 11) hi (j % 11) (Nat.mod_lt _ (by decide))
        rw [show j / 11 * 11 + j % 11 = j by omega] at e1
        rw [e1]
        have hjc : j < cur.size := by omega
        have hid : j / 11 < d.size := by omega
        rw [Array.getElem?_toList]
        unfold Sort.putCells
        rw [Array.getElem?_mapIdx, Array.getElem?_eq_getElem hjc]
        simp only [Option.map_some]
        rw [if_pos ⟨Nat.zero_le _, by rw [hsz]; omega⟩, Nat.sub_zero]
        show some (id _) = _
        rw [id, get_flatK _ _ _ _ (by rw [hs]; omega)]
        have e2 : d[j / 11]! = d[j / 11] := getElem!_pos d (j / 11) hid
        have e3 : (d.toList.map Subtype.val)[j / 11] = (d[j / 11]).1 := by simp
        rw [e2, e3, List.getElem?_eq_getElem (by rw [vvC_len]; omega), getElem!_pos _ _ (by rw [vvC_len]; omega)]
      · rw [List.getElem?_take, if_neg hj, List.getElem?_eq_none (by rw [flV_len]; simp; omega)]
theorem holdsV {w : World} {B g cap : Nat} {L : List VV} [Inhabited {x : VV // VV.Rd w x}] (row : w.ownsRow B 73 11 (.slice (some ⟨g, 0, none⟩) L.length cap) L.length (flV L)) (d : Array {x : VV // VV.Rd w x}) (hd : d.toList.map Subtype.val = L) : HoldsK (fun x : {x : VV // VV.Rd w x} => vvC x.1) 11 w g 0 d := by
  intro j hj
  rw [size_flatK] at hj
  have hs : d.size = L.length := by rw [← hd]; simp
  rcases row.2 with ⟨k, _⟩ | ⟨g', cap', cur, k, hb, hg, h3, h4, h5, h6⟩
  · cases k
  · injection k with k1 k2 k3
    injection k1 with k1
    injection k1 with k1
    subst k1 k3
    refine ⟨?_, by simp [World.frozen?, hg]⟩
    have hi : j / 11 < L.length := by omega
    have hid : j / 11 < d.size := by omega
    rw [get_flatK _ _ _ _ hj]
    have e1 := flV_get L (j / 11) hi (j % 11) (Nat.mod_lt _ (by decide))
    rw [show j / 11 * 11 + j % 11 = j by omega, ← h6, List.getElem?_take, if_pos (by omega), Array.getElem?_toList] at e1
    have e2 : d[j / 11]! = d[j / 11] := getElem!_pos d (j / 11) hid
    have e3 : L[j / 11] = (d[j / 11]).1 := by subst hd; simp
    unfold World.cell?
    simp only [hg]
    rw [Nat.zero_add]
    show cur[j]? = some (id _)
    have hx : j % 11 < (vvC (d[j / 11]).1).length := by rw [vvC_len]; omega
    rw [e1, e2, e3, List.getElem?_eq_getElem hx, getElem!_pos (vvC (d[j / 11]).1) (j % 11) hx]
    rfl
/-- Values in the order of their series. -/
def SrtV (S : List VV) : Prop := S.Pairwise fun a b => La.ordD a.d b.d ≤ 0
set_option maxHeartbeats 1000000 in
theorem sortV_any {B : Nat} {w : World} {v : Value} {L : List VV} (h : VsW w B v L) (hl : L.length ≤ 256) (hB : B ≤ w.heap.size) :
    Calls Tryz.prog 82 #[v, .func (.func 83) #[] #[]] w fun e w' => e = .returned (.tuple #[]) ∧ ∃ S, Hid (SrtV S ∧ S.Perm L ∧ VsW w' B v S ∧ Below B w w') := by
  by_cases hne : L = []
  · subst hne
    have hv : ∃ p cap, v = .slice p 0 cap := by
      rcases h.row.2 with ⟨k, _⟩ | ⟨g, cap, cur, k, _⟩
      · exact ⟨_, _, k⟩
      · exact ⟨_, _, k⟩
    obtain ⟨p, cap, rfl⟩ := hv
    refine (AnyF.slices_SortFunc_none Tryz.sortV p cap _ w).mono ?_
    rintro e w' ⟨rfl, rfl⟩
    exact ⟨rfl, [], List.Pairwise.nil, List.Perm.refl _, h, Below.refl _ _⟩
  · obtain ⟨g, cap, rfl⟩ : ∃ g cap, v = .slice (some ⟨g, 0, none⟩) L.length cap := by
      rcases h.row.2 with ⟨_, k⟩ | ⟨g, cap, cur, k, _⟩
      · exact absurd (List.length_eq_zero_iff.1 k) hne
      · exact ⟨g, cap, k⟩
    obtain ⟨cur, hg⟩ := own_blk h.row (x := g) rfl
    have hlt : g < w.heap.size := (Array.getElem?_eq_some_iff.1 hg).1
    have hgB : B ≤ g := own_ge h.row rfl
    haveI : Inhabited {x : VV // VV.Rd w x} := ⟨⟨vv0, rd_vv0 w⟩⟩
    have hrd : ∀ x ∈ L, VV.Rd w x := fun x hx => ⟨own_leT (h.lab x hx) (Nat.zero_le _), own_sl (h.cnt x hx)⟩
    obtain ⟨d, hd⟩ : ∃ d : Array {x : VV // VV.Rd w x}, d.toList.map Subtype.val = L := ⟨(L.attach.map fun x => (⟨x.1, hrd x.1 x.2⟩ : {x : VV // VV.Rd w x})).toArray, by simp⟩
    have hs : d.size = L.length := by rw [← hd]; simp
    have eg : ∀ args w, (callFunc 83 args).run Tryz.prog w = .ok (.enter 83 args) w := enters_of Tryz.func83 (by kernel_rfl) rfl
    have hcmp : CmpLays Tryz.prog 83 #[] (fun x : {x : VV // VV.Rd w x} => vvC x.1) 11 (fun x y : {x : VV // VV.Rd w x} => La.ordD x.1.d y.1.d) g 0 d.size w := fun m os dk _ x y => by
      have hc : Chg (fun y => y = g) w (sortWorldK (fun x : {x : VV // VV.Rd w x} => vvC x.1) 11 w g 0 m dk os) := chg_sortK
      have hk : ∀ z : {x : VV // VV.Rd w x}, VV.Rd (sortWorldK (fun x : {x : VV // VV.Rd w x} => vvC x.1) 11 w g 0 m dk os) z.1 := fun z => ⟨chg_row hc z.2.1 (fun q hq e => by
        subst e
        exact ownNe z.2.1 h.row (by decide) hq rfl), z.2.2⟩
      refine Calls.mono (snap1_any x.1 y.1 _ (hk x) (hk y)) ?_
      rintro e w' ⟨rfl, hgw⟩
      exact ⟨rfl, gw_grow hgw.out⟩
    have hcon := AnyQ.slices_SortFunc Tryz.sortV 11 Tryz.isAgg73 Tryz.sizeOf73 (fun x : {x : VV // VV.Rd w x} => vvC x.1) (fun x => vvC_len x.1) (fun x v hv => vv_one x.1 w x.2 v hv) (fun x y : {x : VV // VV.Rd w x} => La.ordD x.1.d y.1.d) swoD 83 #[] g 0 cap d w eg hcmp (holdsV h.row d hd) hlt (by omega)
    rw [hs] at hcon
    refine hcon.mono ?_
    rintro e w' ⟨rfl, d', n, os, hp, hsr, rfl⟩
    have hds : d'.size = L.length := by have := hp.1; omega
    have hpm : (d'.toList.map Subtype.val).Perm L := by
      have := hp.2.2
      rw [Array.extract_eq_self_of_le (by omega), Array.extract_eq_self_of_le (by omega)] at this
      rw [← hd]
      exact (by simpa using this : d'.toList.Perm d.toList).map _
    have hc : Chg (fun y => y = g) w (sortWorldK (fun x : {x : VV // VV.Rd w x} => vvC x.1) 11 w g 0 n d' os) := chg_sortK
    refine ⟨rfl, d'.toList.map Subtype.val, ?_, hpm, ⟨?_, fun x hx => ?_, fun x hx => ?_⟩, hc.below hB (fun x hx => by have : x = g := hx; omega)⟩
    · refine List.pairwise_iff_getElem.2 fun i j hi hj hij => ?_
      have hi' : i < d'.size := by simpa using hi
      have hj' : j < d'.size := by simpa using hj
      have h1 := hsr i j (Nat.zero_le _) hij (by omega)
      rw [ltD, getElem!_pos d' i hi', getElem!_pos d' j hj'] at h1
      have := of_decide_eq_false h1
      have f := La.ordD_flip (d'[i]).1.d (d'[j]).1.d
      simp
      omega
    · have := sort_own (n := n) (os := os) h.row d' hds
      rw [hpm.length_eq]
      exact this
    · exact chg_row hc (h.lab x (hpm.mem_iff.1 hx)) (fun q hq e => by subst e; exact ownNe (h.lab x (hpm.mem_iff.1 hx)) h.row (by decide) hq rfl)
    · exact chg_row hc (h.cnt x (hpm.mem_iff.1 hx)) (fun q hq e => by subst e; exact ownNe (h.cnt x (hpm.mem_iff.1 hx)) h.row (by decide) hq rfl)
end Go.Proofs.YtfnohbalkpponaaGreatDoor
/- snapshot: the walk. Own work of the verifier. -/
namespace Go.Proofs.YtfnohbalkpponaaGreatDoor
open Go.RowKit Go.Maps

/-- What slab.Value tells of an instrument and a part. -/
structure ValOf (x : InS) (P : Pt) (y : VV) : Prop where
  d : y.d = ⟨x.kd, x.nm, x.hp, x.D⟩
  hi : y.hi = Va.gT x.kd P.hi
  lo : y.lo = Va.gT x.kd P.lo
  A : y.A = Va.gC x.kd P.L
  n : y.n = Va.gN x.kd P.n
  r : y.r < 18446744073709551616 ∧ Soft.one y.r = Va.gF x.kd (Soft.fa P.s P.c)
  mn : y.mn = Va.gF x.kd P.mn
  mx : y.mx = Va.gF x.kd P.mx
theorem VsW.push {B : Nat} {v : Value} {L : List VV} {x : VV} {W W1 W2 : World} {g cap : Nat} (h : VsW W B v L) (h1 : Va.OwnL B x.lv x.d.labels W) (h2 : Va.OwnC B x.cv x.A W) (hb : Below W.heap.size W W1) (row : W2.ownsRow B 73 11 (.slice (some ⟨g, 0, none⟩) (L.length + 1) cap) (L.length + 1) (flV L ++ vvC x)) (hgr : W1.grownBy W2 v.ownBlock) :
    VsW W2 B (.slice (some ⟨g, 0, none⟩) (L.length + 1) cap) (L ++ [x]) ∧ Chg (fun y => v.ownBlock = some y) W W2 := by
  have e : flV (L ++ [x]) = flV L ++ vvC x := by rw [flV_app]; simp [flV]
  have hc : Chg (fun y => v.ownBlock = some y) W W2 := (Chg.of_below (S := fun y => v.ownBlock = some y) hb).trans (chg_grown hgr (fun y hy => hy)) (fun y hy => Or.inl hy)
  refine ⟨⟨by rw [e]; simpa using row, fun y hy => ?_, fun y hy => ?_⟩, hc⟩
  · rcases List.mem_append.1 hy with hy | hy
    · exact chg_row hc (h.lab y hy) (fun z hz k => ownNe (h.lab y hy) h.row (by decide) hz k)
    · rw [List.mem_singleton.1 hy]
      exact chg_row hc h1 (fun z hz k => ownNe h1 h.row (by decide) hz k)
  · rcases List.mem_append.1 hy with hy | hy
    · exact chg_row hc (h.cnt y hy) (fun z hz k => ownNe (h.cnt y hy) h.row (by decide) hz k)
    · rw [List.mem_singleton.1 hy]
      exact chg_row hc h2 (fun z hz k => ownNe h2 h.row (by decide) hz k)
/-- slab.Value of an instrument and a part. -/
theorem value15 (x : InS) (P : Pt) (u : Value) (W : World) (hD : Va.SLb W (.slice x.la x.D.length x.lc) x.D) (hlD : x.D.length ≤ 1048576) (hu : SN W u P.L) (hO : P.Ok 1048576) :
    Calls Tryz.prog 81 #[.agg #[.int .i64 x.kd, .string ⟨x.nm.toArray⟩, .string ⟨x.hp.toArray⟩, .slice x.la x.D.length x.lc], .agg #[.int .i64 P.hi, .int .u64 P.lo, u, .int .u64 (P.n : Int), .complex .f64 P.s P.c, .float .f64 P.mn, .float .f64 P.mx]] W fun e w' => ∃ y : VV, e = .returned (.agg (vvC y).toArray) ∧ Hid (ValOf x P y ∧ Va.OwnL W.heap.size y.lv y.d.labels w' ∧ Va.OwnC W.heap.size y.cv y.A w' ∧ Below W.heap.size W w') := by
  have hl : P.L.length ≤ 1048576 := hO.len
  obtain ⟨ca, cc, rfl⟩ : ∃ ca cc, u = .slice ca P.L.length cc := by
    rcases hu with ⟨k, e⟩ | ⟨b, o, cap, k, _⟩
    · exact ⟨none, 0, by rw [k, e]; rfl⟩
    · exact ⟨_, _, k⟩
  refine Calls.mono (Va.cval_any x.kd P.hi P.lo ⟨x.nm.toArray⟩ ⟨x.hp.toArray⟩ x.la x.lc x.D ca cc P.n P.s P.c P.mn P.mx P.L W hD hu hlD hl hO.hs hO.hc) ?_
  rintro e w' ⟨la, lm, lc, ca', cm, cc', r, rfl, q1, q2, q3, q4⟩
  exact ⟨⟨⟨x.kd, x.nm, x.hp, x.D⟩, .slice la lm lc, Va.gT x.kd P.hi, Va.gT x.kd P.lo, .slice ca' cm cc', Va.gC x.kd P.L, Va.gN x.kd P.n, r, Va.gF x.kd P.mn, Va.gF x.kd P.mx⟩, rfl, ⟨rfl, rfl, rfl, rfl, rfl, q4.out, rfl, rfl⟩, q1.out, q2.out, q3.out⟩
theorem five_c {W : World} {g : Nat} {a b c d e : Value} {T : TypeId} (h : W.heap[g]? = some (.cells #[a, b, c, d, e] T (0, 0))) : W.cell? ⟨g, 0, none⟩ = some a ∧ W.cell? ⟨g, 1, none⟩ = some b ∧ W.cell? ⟨g, 2, none⟩ = some c ∧ W.cell? ⟨g, 3, none⟩ = some d := by
  simp [World.cell?, h]
theorem vs_le {w : World} {B B' : Nat} {v : Value} {L : List VV} (h : VsW w B v L) (hb : B' ≤ B) : VsW w B' v L := ⟨own_leT h.row hb, fun x hx => own_leT (h.lab x hx) hb, fun x hx => own_leT (h.cnt x hx) hb⟩
theorem three_c {W : World} {g : Nat} {a b c : Value} {T : TypeId} (h : W.heap[g]? = some (.cells #[a, b, c] T (0, 0))) : W.cell? ⟨g, 0, none⟩ = some a ∧ W.cell? ⟨g, 1, none⟩ = some b ∧ W.cell? ⟨g, 2, none⟩ = some c := by
  simp [World.cell?, h]
theorem three_f {W : World} {g : Nat} {a b c : Value} {T : TypeId} (h : W.heap[g]? = some (.cells #[a, b, c] T (0, 0))) : W.frozen? ⟨g, 0, none⟩ = false ∧ W.frozen? ⟨g, 1, none⟩ = false ∧ W.frozen? ⟨g, 2, none⟩ = false := by
  simp [World.frozen?, h]
theorem vv_oneX (d : La.Ds) (a : Option Addr) (m c : Nat) (hi lo : Int) (a' : Option Addr) (m' c' : Nat) (A : List Cn) (n r mn mx : Nat) : ∀ v ∈ vvC ⟨d, .slice a m c, hi, lo, .slice a' m' c', A, n, r, mn, mx⟩, v.oneCell' = true := fun v hv => by
  simp [vvC] at hv
  rcases hv with rfl | rfl | rfl | rfl | rfl | rfl | rfl | rfl | rfl | rfl | rfl <;> rfl
/-- How far the values are. -/
structure SpI (I : List InS) (TP : List PV) (i : Nat) (w0 : World) (v : Value) (L : List VV) (W : World) : Prop where
  vs : VsW W w0.heap.size v L
  len : L.length = i
  val : ∀ j (h1 : j < I.length) (h2 : j < TP.length) (h3 : j < L.length), ValOf I[j] TP[j].P L[j]
  bel : Below w0.heap.size w0 W
/-- What snapshot tells. -/
structure SnQ (I : List InS) (TP : List PV) (v : Value) (S : List VV) (w w' : World) : Prop where
  vs : VsW w' w.heap.size v S
  srt : SrtV S
  perm : ∃ L : List VV, L.length = I.length ∧ (∀ j (h1 : j < I.length) (h2 : j < TP.length) (h3 : j < L.length), ValOf I[j] TP[j].P L[j]) ∧ S.Perm L
  bel : Below w.heap.size w w'
theorem infoValue : (Tryz.prog.info? 73).map (fun i => (i.zero, i.size, i.bytes)) = some (some (.agg (vvC vv0).toArray), 11, 136) := by kernel_rfl
section
variable {R : Rg} {I : List InS} {nx sv : Nat} {room : Int} {tv v : Value} {rf ru : Int} {TP : List PV} {B : Nat} {w : World}
set_option maxHeartbeats 4000000 in
set_option maxRecDepth 100000 in
theorem snap15 (h : RgH R I nx sv room tv rf w) (hT : PsW w B v TP) (hO : ∀ x ∈ TP, x.P.Ok 1048576) (hln : TP.length = I.length) (hlb : ∀ i (hi : i < I.length), Va.SLb w (.slice I[i].la I[i].D.length I[i].lc) I[i].D ∧ I[i].D.length ≤ 1048576) :
    Calls Tryz.prog 43 #[.pointer (some ⟨R.b, 0, none⟩), .agg #[v, .int .u64 ru]] w fun e w' => ∃ (u : Value) (S : List VV), e = .returned (.agg #[.int .i64 (R.p : Int), u, .int .u64 ru]) ∧ Hid (SnQ I TP u S w w') := by
  have hvl : ∃ a c, v = .slice a TP.length c := by
    rcases hT.row.2 with ⟨k, k2⟩ | ⟨g, cap, cur, k, _⟩
    · exact ⟨none, 0, by rw [k, k2]⟩
    · exact ⟨_, _, k⟩
  obtain ⟨va, vc, rfl⟩ := hvl
  have HLn := hidO hln
  clear hln
  have hl256 := h.len
  have hb2 := fun o1 o2 => bel2 w o1 o2
  have HA : Hid (∀ o1 o2 : Obj, Calls Tryz.prog 70 #[.pointer (some ⟨R.b, 0, none⟩)] ((w.alloc o1).alloc o2) fun e w' => e = .returned (.slice (some ⟨R.b, 4, none⟩) I.length 256) ∧ Hid (Below ((w.alloc o1).alloc o2).heap.size ((w.alloc o1).alloc o2) w')) := fun o1 o2 => all_any (h.below (hb2 o1 o2))
  go_enter Tryz.func43, Tryz.ntmps43
  go_upto_region 1 with fail
  have HB0 := hidO (hb2 (.cells #[.slice va TP.length vc, .int .u64 ru] 95) (.cells #[.int .i64 0, .slice none 0 0, .int .u64 0] 62))
  have HX0 : Hid (((w.alloc (.cells #[.slice va TP.length vc, .int .u64 ru] 95)).alloc (.cells #[.int .i64 0, .slice none 0 0, .int .u64 0] 62)).heap[w.heap.size]? = some (.cells #[.slice va TP.length vc, .int .u64 ru] 95 (0, 0))) := by
    unfold Hid
    rw [(bel1 _ _).block _ (by simp), new_1]
  have HY0 : Hid (((w.alloc (.cells #[.slice va TP.length vc, .int .u64 ru] 95)).alloc (.cells #[.int .i64 0, .slice none 0 0, .int .u64 0] 62)).heap[w.heap.size + 1]? = some (.cells #[.int .i64 0, .slice none 0 0, .int .u64 0] 62 (0, 0))) := by
    unfold Hid
    rw [show w.heap.size + 1 = (w.alloc (.cells #[.slice va TP.length vc, .int .u64 ru] 95)).heap.size by simp, new_1]
  have HA0 := hidO (HA.out (.cells #[.slice va TP.length vc, .int .u64 ru] 95) (.cells #[.int .i64 0, .slice none 0 0, .int .u64 0] 62))
  clear HA hb2
  generalize (w.alloc (.cells #[.slice va TP.length vc, .int .u64 ru] 95)).alloc (.cells #[.int .i64 0, .slice none 0 0, .int .u64 0] 62) = w0 at *
  go_upto_region 3 with (go_at_call 70; with_reducible refine Calls.mono HA0.out ?_; rintro e w1 ⟨rfl, HB1⟩)
  have HB01 := hidO (bt HB0.out HB1.out)
  have HX1 := hidO ((HB1.out.block _ (Array.getElem?_eq_some_iff.1 HX0.out).1).trans HX0.out)
  have HY1 := hidO ((HB1.out.block _ (Array.getElem?_eq_some_iff.1 HY0.out).1).trans HY0.out)
  clear HA0 HX0 HY0 HB0 HB1
  go_loopw [5, 11] (fun v c W => ∃ (i : Nat) (L : List VV), i ≤ I.length ∧ c = .int .i64 (i : Int) ∧ (∃ x m k, v = .slice x m k) ∧ Hid (SpI I TP i w1 v L W)) (fun _ c _ => I.length - (intOf c).toNat)
  case atStart => exact ⟨0, [], by omega, rfl, ⟨none, 0, 0, rfl⟩, ⟨VsW.nil _ _, rfl, (fun j _ _ h3 => absurd h3 (Nat.not_lt_zero _)), Below.refl _ _⟩⟩
  case round =>
    obtain ⟨i, L, hi, rfl, ⟨vx, vm, vk, rfl⟩, HJ⟩ := hrel
    have hbr : Below w.heap.size w wr := bt HB01.out HJ.out.bel
    have hRr := h.below hbr
    by_cases hlt : i < I.length
    · have hlt' : (i : Int) < (I.length : Int) := by omega
      have hiT : i < TP.length := by have := HLn.out; omega
      have hTr := hT.below hbr
      obtain ⟨gt, ct, et⟩ := ps_some hTr (by omega)
      injection et with et1 et2 et3
      subst et1 et3
      obtain ⟨c0, c1, c2, c3, c4⟩ := hRr.ins i hlt
      obtain ⟨⟨t0, t1, t2, t3, t4, t5, t6⟩, tf⟩ := own_cells7 hTr.row i hiT
      have hTi : TP[i] ∈ TP := List.getElem_mem hiT
      have hxr := (HJ.out.bel.block _ (Array.getElem?_eq_some_iff.1 HX1.out).1).trans HX1.out
      obtain ⟨x0, x1⟩ := two_c hxr
      have HV : Hid (∀ W, Below wr.heap.size wr W → Calls Tryz.prog 81 #[.agg #[.int .i64 I[i].kd, .string ⟨I[i].nm.toArray⟩, .string ⟨I[i].hp.toArray⟩, .slice I[i].la I[i].D.length I[i].lc], .agg #[.int .i64 TP[i].P.hi, .int .u64 TP[i].P.lo, TP[i].v, .int .u64 (TP[i].P.n : Int), .complex .f64 TP[i].P.s TP[i].P.c, .float .f64 TP[i].P.mn, .float .f64 TP[i].P.mx]] W fun e w' => ∃ (yk : Int) (yn yh : List UInt8) (yl : List (List UInt8 × List UInt8)) (la : Option Addr) (lm lc : Nat) (hi lo : Int) (ca : Option Addr) (cm cc : Nat) (A : List Cn) (n r mn mx : Nat), e = .returned (.agg #[.int .i64 yk, .string ⟨yn.toArray⟩, .string ⟨yh.toArray⟩, .slice la lm lc, .int .i64 hi, .int .u64 lo, .slice ca cm cc, .int .u64 (n : Int), .float .f64 r, .float .f64 mn, .float .f64 mx]) ∧ Hid (ValOf I[i] TP[i].P ⟨⟨yk, yn, yh, yl⟩, .slice la lm lc, hi, lo, .slice ca cm cc, A, n, r, mn, mx⟩ ∧ Va.OwnL w1.heap.size (.slice la lm lc) yl w' ∧ Va.OwnC w1.heap.size (.slice ca cm cc) A w' ∧ Below wr.heap.size wr w')) := fun W hW => by
        have hs1 := HJ.out.bel.size
        refine Calls.mono (value15 I[i] TP[i].P TP[i].v W ((hlb i hlt).1.below (bt hbr hW)) (hlb i hlt).2 (own_snB ((hTr.below hW).cnt _ hTi)) (hO _ hTi)) ?_
        rintro e w' ⟨y, rfl, q⟩
        have hs2 := hW.size
        obtain ⟨⟨yk, yn, yh, yl⟩, lv, hi, lo, cv, A, n, r, mn, mx⟩ := y
        obtain ⟨q1, q2, q3, q4⟩ := q.out
        dsimp only at q2 q3
        obtain ⟨la, lm, lc, e1⟩ := own_sl q2
        obtain ⟨ca, cm, cc, e2⟩ := own_sl q3
        subst e1 e2
        exact ⟨yk, yn, yh, yl, la, lm, lc, hi, lo, ca, cm, cc, A, n, r, mn, mx, rfl, q1, own_leT q2 (by omega), own_leT q3 (by omega), bt hW q4⟩
      obtain ⟨la, lm, lc, elv⟩ := own_sl (hTr.cnt _ hTi)
      rw [elv] at t2 HV
      clear hTi elv hxr
      generalize hIi : I[i] = x at *
      generalize hPi : TP[i].P = PP at *
      have HIi := hidO hIi
      have HPi := hidO hPi
      clear hIi hPi
      go_upto_region 5 with fail
      have HbA : Hid (Below wr.heap.size wr (wr.alloc (.cells #[.int .i64 x.kd, .string ⟨x.nm.toArray⟩, .string ⟨x.hp.toArray⟩, .slice x.la x.D.length x.lc, .pointer (some ⟨x.s, 0, none⟩)] 87))) := bel1 _ _
      have HN := hidO (new_1 wr (.cells #[.int .i64 x.kd, .string ⟨x.nm.toArray⟩, .string ⟨x.hp.toArray⟩, .slice x.la x.D.length x.lc, .pointer (some ⟨x.s, 0, none⟩)] 87))
      have t0 := kp t0 HbA.out
      have t1 := kp t1 HbA.out
      have t2 := kp t2 HbA.out
      have t3 := kp t3 HbA.out
      have t4 := kp t4 HbA.out
      have t5 := kp t5 HbA.out
      have t6 := kp t6 HbA.out
      have x0 := kp x0 HbA.out
      generalize wr.alloc (.cells #[.int .i64 x.kd, .string ⟨x.nm.toArray⟩, .string ⟨x.hp.toArray⟩, .slice x.la x.D.length x.lc, .pointer (some ⟨x.s, 0, none⟩)] 87) = wa at *
      obtain ⟨p0, p1, p2, p3⟩ := five_c HN.out
      obtain ⟨i0, hi0, hz0, hz1, hz2⟩ := info_parts infoValue
      have HLl : Hid (L.length ≤ 256) := by have := HJ.out.len; unfold Hid; omega
      clear c0 c1 c2 c3 c4 tf x1
      go_region_law
        (first
          | (rw [if_pos (by simp [Region.wanted])]; go_simp; with_reducible refine Calls.mono (HV.out _ (by first | exact HbA.out | exact bel_dr HbA.out)) ?_; rintro e w3 ⟨yk, yn, yh, yl, ya, ym, yc, yhi, ylo, za, zm, zc, yA, yN, yr, ymn, ymx, rfl, H3⟩; have HVs := hidO (HJ.out.vs.below H3.out.2.2.2); simp only [])
          | (refine step_append_lies _ (by rfl) _ _ 59 (by rfl) w1.heap.size 73 i0 (.agg (vvC vv0).toArray) 11 136 Tryz.underlying59 hi0 hz0 hz1 hz2 rfl (by decide) (.slice vx vm vk) L.length (flV L) (by rfl) (HVs.out.below (bel1 _ _)).row ⟨w3.heap.size, 0, none⟩ 1 1 (vvC ⟨⟨yk, yn, yh, yl⟩, .slice ya ym yc, yhi, ylo, .slice za zm zc, yA, yN, yr, ymn, ymx⟩) (by rfl) rfl (World.news_of_block (new_1 w3 _)) (vv_oneX _ _ _ _ _ _ _ _ _ _ _ _ _ _) (by decide) (by have := HLl.out; unfold maxLen; omega) (by have := HLl.out; omega) (by have := H3.out.2.2.2.size; have := HJ.out.bel.size; have := HbA.out.size; simp; omega) (w3.heap.size + 1) (by simp) ?_; intro g6 k6 w6 hown hgr hat hgl; have HP6 := hidO (HVs.out.push H3.out.2.1 H3.out.2.2.1 (bel1 _ _) hown hgr)))
      all_goals
        go_wp2_with fail
        have hII := HIi.out
        have hPI := HPi.out
        have hb6 : Below w1.heap.size w1 w6 := (HJ.out.bel.trans (H3.out.2.2.2.mono HJ.out.bel.size)).trans (HP6.out.2.below (Nat.le_trans HJ.out.bel.size H3.out.2.2.2.size) (fun y hy => own_ge HJ.out.vs.row hy))
        refine ⟨⟨i + 1, L ++ [⟨⟨yk, yn, yh, yl⟩, .slice ya ym yc, yhi, ylo, .slice za zm zc, yA, yN, yr, ymn, ymx⟩], by omega, congrArg (Value.int .i64) (by omega), ⟨_, _, _, rfl⟩, ⟨HP6.out.1, by have := HJ.out.len; simp; omega, fun j h1 h2 h3 => ?_, hb6⟩⟩, by simp [intOf]; omega⟩
        have hLl := HJ.out.len
        by_cases e : j < L.length
        · rw [List.getElem_append_left e]
          exact HJ.out.val j h1 h2 e
        · have hji : j = i := by
            rw [List.length_append, List.length_singleton] at h3
            omega
          subst hji
          rw [List.getElem_append_right (by omega)]
          simp only [hLl, Nat.sub_self, List.getElem_singleton]
          rw [hII, hPI]
          exact H3.out.1
    · have hi' : i = I.length := by omega
      have hlt' : ¬ (i : Int) < (I.length : Int) := by omega
      have HSo : Hid (∀ _ : Unit, _) := fun _ => sortV_any HJ.out.vs (by have := HJ.out.len; omega) HJ.out.bel.size
      have hw01 : w.heap.size + 1 < w1.heap.size := (Array.getElem?_eq_some_iff.1 HY1.out).1
      have HK : Hid (∀ W, Below w1.heap.size wr W → W.cell? ⟨R.b, 1, none⟩ = some (.int .i64 (R.p : Int)) ∧ W.heap[w.heap.size]? = some (.cells #[.slice va TP.length vc, .int .u64 ru] 95 (0, 0)) ∧ W.heap[w.heap.size + 1]? = some (.cells #[.int .i64 0, .slice none 0 0, .int .u64 0] 62 (0, 0))) := fun W hW => by
        have hb : Below w1.heap.size w1 W := HJ.out.bel.trans hW
        exact ⟨kp h.c1 (HB01.out.trans (hb.mono (by have := HB01.out.size; omega))), (hb.block _ (by omega)).trans HX1.out, (hb.block _ (by omega)).trans HY1.out⟩
      clear hRr
      go_upto_region 8 with (go_at_call 82; with_reducible refine Calls.mono (HSo.out ()) ?_; rintro e w3 ⟨rfl, S, H3⟩; obtain ⟨c1, hx3, hy3⟩ := HK.out _ H3.out.2.2.2; obtain ⟨x0, x1⟩ := two_c hx3; have HY3 := hidO hy3; obtain ⟨y0, y1, y2⟩ := three_c hy3; obtain ⟨f0, f1, f2⟩ := three_f hy3; clear hx3 hy3)
      go_region
      all_goals
        go_wp2_with fail
        have hw2 : (((w3.setCell ⟨w.heap.size + 1, 0, none⟩ (.int .i64 (R.p : Int))).setCell ⟨w.heap.size + 1, 1, none⟩ (.slice vx vm vk)).setCell ⟨w.heap.size + 1, 2, none⟩ (.int .u64 ru)).drew.heap[w.heap.size + 1]? = some (.cells #[.int .i64 (R.p : Int), .slice vx vm vk, .int .u64 ru] 62 (0, 0)) := by
          show (((w3.setCell ⟨w.heap.size + 1, 0, none⟩ (.int .i64 (R.p : Int))).setCell ⟨w.heap.size + 1, 1, none⟩ (.slice vx vm vk)).setCell ⟨w.heap.size + 1, 2, none⟩ (.int .u64 ru)).heap[w.heap.size + 1]? = _
          rw [heap_setCell_same _ _ 2 _ _ _ (heap_setCell_same _ _ 1 _ _ _ (heap_setCell_same _ _ 0 _ _ _ HY3.out))]
          rfl
        have hc8 : Chg (fun x => x = w.heap.size + 1) w3 (((w3.setCell ⟨w.heap.size + 1, 0, none⟩ (.int .i64 (R.p : Int))).setCell ⟨w.heap.size + 1, 1, none⟩ (.slice vx vm vk)).setCell ⟨w.heap.size + 1, 2, none⟩ (.int .u64 ru)).drew := (chg_s (chg_s (chg_s (Chg.refl _ _) _ _) _ _) _ _).drew
        generalize (((w3.setCell ⟨w.heap.size + 1, 0, none⟩ (.int .i64 (R.p : Int))).setCell ⟨w.heap.size + 1, 1, none⟩ (.slice vx vm vk)).setCell ⟨w.heap.size + 1, 2, none⟩ (.int .u64 ru)).drew = w8 at *
        refine bodyPost_ret (results_cell_row (P := Tryz.prog) rfl _ _ (w.heap.size + 1) 62 _ (0, 0) _ rfl hw2 Tryz.underlying62 rfl (by kernel_rfl)) rfl ?_
        obtain ⟨s1, s2, s3, s4⟩ := H3.out
        have hb3 : Below w1.heap.size w1 w3 := HJ.out.bel.trans s4
        have hs1 := HB01.out.size
        refine ⟨.slice vx vm vk, S, rfl, ⟨vs_le (s3.chg hc8 (fun x (e : x = w.heap.size + 1) => by omega)) hs1, s1, ⟨L, by have := HJ.out.len; omega, HJ.out.val, s2⟩, ?_⟩⟩
        exact (HB01.out.trans (hb3.mono hs1)).trans (hc8.below (by have := hb3.size; omega) (fun x (e : x = w.heap.size + 1) => by omega))
end
end Go.Proofs.YtfnohbalkpponaaGreatDoor
