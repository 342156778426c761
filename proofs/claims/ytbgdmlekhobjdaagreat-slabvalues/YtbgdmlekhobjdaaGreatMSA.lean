/- SlabMerges: what lies in memory. Own work of the verifier. -/
import Derived.Test.YtbgdmlekhobjdaaGreatV3
import Derived.Test.YtbgdmlekhobjdaaGreatV4
import Derived.Test.YtbgdmlekhobjdaaGreatV7
import Derived.Test.YtbgdmlekhobjdaaGreatME1
namespace Go.Proofs.YtbgdmlekhobjdaaGreat
open Go.RowKit

/-- A raw part, its counts as they are handed in. -/
structure Rq where
  hi : Int
  lo : Int
  ao : Option Addr
  cap : Nat
  n : Nat
  s : Nat
  c : Nat
  mn : Nat
  mx : Nat
  L : List Cn
structure Rq.Ok (X : Rq) : Prop where
  wf : Wf X.hi X.lo
  hs : X.s < 18446744073709551616
  hc : X.c < 18446744073709551616
  h1 : X.mn < 18446744073709551616
  h2 : X.mx < 18446744073709551616
  hl : X.L.length ≤ 349525
  wc : Wc X.L
def t1 (X Y : Rq) : Int := hiOf (rnd (val X.hi X.lo + val Y.hi Y.lo))
def t0 (X Y : Rq) : Int := loOf (rnd (val X.hi X.lo + val Y.hi Y.lo))
def tn (X Y : Rq) : Nat := (X.n + Y.n) % 18446744073709551616
def te0 (X Y : Rq) : Nat := endF X.n Y.n X.mn Y.mn (-1)
def te1 (X Y : Rq) : Nat := endF X.n Y.n X.mx Y.mx 1
def tr (X Y : Rq) : Nat := Soft.fa X.s Y.s
def tq (X Y : Rq) : Nat := Soft.fa (Soft.fa X.c Y.c) (Soft.fl X.s Y.s)
/-- The raw part's box. -/
def Px (k : Nat) (X : Rq) (W : World) : Prop := W.heap[k]? = some (.cells #[.int .i64 X.hi, .int .u64 X.lo, .slice X.ao X.L.length X.cap, .int .u64 (X.n : Int), .int .u64 (X.s : Int), .int .u64 (X.c : Int), .int .u64 (X.mn : Int), .int .u64 (X.mx : Int)] 27 (0, 0))
/-- The part's box. -/
def Ax (k g : Nat) (X : Rq) (W : World) : Prop := W.heap[k]? = some (.cells #[.int .i64 X.hi, .int .u64 X.lo, .slice (some ⟨g, 0, none⟩) X.L.length (X.L.length + 2), .int .u64 (X.n : Int), .complex .f64 X.s X.c, .float .f64 X.mn, .float .f64 X.mx] 32 (0, 0))
def Gx (g : Nat) (L : List Cn) (W : World) : Prop := W.heap[g]? = some (.cells (fl (L ++ [(91, 0), (92, 0)])).toArray 45 (0, 0))
/-- Both parts, and all that was there. -/
structure SA (w : World) (N : Nat) (X Y : Rq) (La : List Cn) (kx ky ka ga kb gb : Nat) (W : World) : Prop where
  px : Px kx X W
  py : Px ky Y W
  ax : Ax ka ga X W
  ay : Ax kb gb Y W
  gx : Gx ga La W
  gy : Gx gb Y.L W
  bel : Below w.heap.size w W
  a1 : w.heap.size ≤ ga
  b1 : w.heap.size ≤ gb
  a2 : ga < N
  nz : N ≤ W.heap.size
  ne : gb ≠ ga
  sum : X.L.length + Y.L.length ≤ 600000
theorem hk {k : Nat} {o : Obj} {W W' : World} (h : W.heap[k]? = some o) (hb : Below W.heap.size W W') : W'.heap[k]? = some o := (hb.block k (Array.getElem?_eq_some_iff.1 h).1).trans h
theorem SA.kept {w : World} {N : Nat} {X Y : Rq} {La : List Cn} {kx ky ka ga kb gb : Nat} {W W' : World} (h : SA w N X Y La kx ky ka ga kb gb W) (hb : Below W.heap.size W W') : SA w N X Y La kx ky ka ga kb gb W' :=
  ⟨hk h.px hb, hk h.py hb, hk h.ax hb, hk h.ay hb, hk h.gx hb, hk h.gy hb, bt h.bel hb, h.a1, h.b1, h.a2, Nat.le_trans h.nz hb.size, h.ne, h.sum⟩
/-- What the document's Merge told, in its box. -/
structure Dv where
  k : Nat
  ao : Option Addr
  m : Nat
  cap : Nat
  O : List Cn
structure Dv.At (D : Dv) (X Y : Rq) (A : List Cn) (N : Nat) (W : World) : Prop where
  box : W.heap[D.k]? = some (.cells #[.int .i64 (t1 X Y), .int .u64 (t0 X Y), .slice D.ao D.m D.cap, .int .u64 (tn X Y : Int), .int .u64 (tr X Y : Int), .int .u64 (tq X Y : Int), .int .u64 (te0 X Y : Int), .int .u64 (te1 X Y : Int)] 37 (0, 0))
  own : OwnC N (.slice D.ao D.m D.cap) D.O W
  mrg : IsMerge D.O (A ++ Y.L)
theorem Dv.At.kept {D : Dv} {X Y : Rq} {A : List Cn} {N : Nat} {W W' : World} (h : D.At X Y A N W) (hb : Below W.heap.size W W') : D.At X Y A N W' := ⟨hk h.box hb, h.own.bel hb, h.mrg⟩
/-- What the code's Merge told, in its box. -/
structure Cv where
  k : Nat
  ao : Option Addr
  m : Nat
  cap : Nat
  O : List Cn
  r : Nat
  q : Nat
structure Cv.At (C : Cv) (X Y : Rq) (A : List Cn) (N : Nat) (W : World) : Prop where
  box : W.heap[C.k]? = some (.cells #[.int .i64 (t1 X Y), .int .u64 (t0 X Y), .slice C.ao C.m C.cap, .int .u64 (tn X Y : Int), .complex .f64 C.r C.q, .float .f64 (te0 X Y), .float .f64 (te1 X Y)] 32 (0, 0))
  own : OwnC N (.slice C.ao C.m C.cap) C.O W
  mrg : IsMerge C.O (A ++ Y.L)
  hr : C.r < 18446744073709551616
  hq : C.q < 18446744073709551616
  er : Soft.one C.r = tr X Y
  eq : Soft.one C.q = tq X Y
theorem Cv.At.kept {C : Cv} {X Y : Rq} {A : List Cn} {N : Nat} {W W' : World} (h : C.At X Y A N W) (hb : Below W.heap.size W W') : C.At X Y A N W' := ⟨hk h.box hb, h.own.bel hb, h.mrg, h.hr, h.hq, h.er, h.eq⟩
theorem Cv.At.pb {C : Cv} {X Y : Rq} {A : List Cn} {N : Nat} {W : World} (h : C.At X Y A N W) : PB C.k (.slice C.ao C.m C.cap) W := ⟨_, _, _, _, _, _, h.box⟩
theorem Gx.sn {g : Nat} {L : List Cn} {W : World} {m : Nat} (h : Gx g L W) (hm : L.length = m) : SN W (.slice (some ⟨g, 0, none⟩) m (m + 2)) L := by
  subst hm
  exact Or.inr ⟨g, 0, L.length + 2, rfl, by omega, row_head (row_fl h)⟩
theorem OwnC.snB {B : Nat} {v : Value} {L : List Cn} {W : World} (h : OwnC B v L W) : SN W v L := by
  rcases h.2 with ⟨q, q2⟩ | ⟨g, cap, cur, q, hB, hg, hc, hm, hs, ht⟩
  · exact Or.inl ⟨q, List.length_eq_zero_iff.1 q2⟩
  · subst q
    refine Or.inr ⟨g, 0, cap, rfl, hc, fun i hi => ?_⟩
    obtain ⟨g1, g2⟩ := fl_get L i hi
    rw [Nat.zero_add]
    have h' : W.ownsRow B 45 2 (.slice (some ⟨g, 0, none⟩) L.length cap) L.length (fl L) := h
    rw [h'.cellAt (i * 2) (by omega), h'.cellAt (i * 2 + 1) (by omega)]
    exact ⟨g1, g2⟩
/-- The code's Merge, of both parts. -/
def CmQ (X Y : Rq) (A : List Cn) (W : World) (e : Ending) (w' : World) : Prop := ∃ ao m cap O r q, e = .returned (part (t1 X Y) (t0 X Y) (.slice ao m cap) (tn X Y) r q (te0 X Y) (te1 X Y)) ∧ Hid (OwnC W.heap.size (.slice ao m cap) O w' ∧ IsMerge O (A ++ Y.L) ∧ r < 18446744073709551616 ∧ q < 18446744073709551616 ∧ Soft.one r = tr X Y ∧ Soft.one q = tq X Y) ∧ Hid (Below W.heap.size W w')
theorem wc_app {A C : List Cn} (h : Wc A) (k : Wc C) : Wc (A ++ C) := fun c hc => by
  rcases List.mem_append.1 hc with q | q
  · exact h c q
  · exact k c q
theorem SA.cmerge {w : World} {N : Nat} {X Y : Rq} {La : List Cn} {kx ky ka ga kb gb : Nat} {W : World} (h : SA w N X Y La kx ky ka ga kb gb W) (oX : X.Ok) (oY : Y.Ok) (hl : La.length = X.L.length) (wl : Wc La) :
    Calls Tryz.prog 9 #[part X.hi X.lo (.slice (some ⟨ga, 0, none⟩) X.L.length (X.L.length + 2)) X.n X.s X.c X.mn X.mx, part Y.hi Y.lo (.slice (some ⟨gb, 0, none⟩) Y.L.length (Y.L.length + 2)) Y.n Y.s Y.c Y.mn Y.mx] W fun e w' => CmQ X Y La W e w' := by
  have l1 := oX.hl
  have l2 := oY.hl
  refine (cpmerge_any X.hi X.lo Y.hi Y.lo _ _ X.n Y.n X.s X.c Y.s Y.c X.mn X.mx Y.mn Y.mx La Y.L W oX.wf oY.wf (h.gx.sn hl) (h.gy.sn rfl) (wc_app wl oY.wc) (by omega) (by omega) oX.hs oX.hc oY.hs oY.hc oX.h1 oX.h2 oY.h1 oY.h2).mono fun e w' q => ?_
  obtain ⟨v, O, r, q', e1, e2, e3, e4, e5, e6, e7⟩ := q
  obtain ⟨ao, m, cap, rfl⟩ := gc_form e3
  exact ⟨ao, m, cap, O, r, q', e1, ⟨e3.own, e2, e4, e5, e6, e7⟩, e3.below⟩
/-- The document's. -/
def DmQ (X Y : Rq) (A : List Cn) (W : World) (e : Ending) (w' : World) : Prop := ∃ ao m cap O, e = .returned (rpart (t1 X Y) (t0 X Y) (.slice ao m cap) (tn X Y) (tr X Y) (tq X Y) (te0 X Y) (te1 X Y)) ∧ Hid (OwnC W.heap.size (.slice ao m cap) O w' ∧ IsMerge O (A ++ Y.L)) ∧ Hid (Below W.heap.size W w')
theorem dmerge {X Y : Rq} {A : List Cn} {W : World} {a1 : Option Addr} {m1 c1 : Nat} (hA : SN W (.slice a1 m1 c1) A) (hC : SN W (.slice Y.ao Y.L.length Y.cap) Y.L) (oX : X.Ok) (oY : Y.Ok) (hl : A.length = X.L.length) (wl : Wc A) :
    Calls Tryz.prog 7 #[rpart X.hi X.lo (.slice a1 m1 c1) X.n X.s X.c X.mn X.mx, rpart Y.hi Y.lo (.slice Y.ao Y.L.length Y.cap) Y.n Y.s Y.c Y.mn Y.mx] W fun e w' => DmQ X Y A W e w' := by
  have l1 := oX.hl
  have l2 := oY.hl
  refine (rpmerge_any X.hi X.lo Y.hi Y.lo a1 Y.ao m1 c1 Y.L.length Y.cap X.n Y.n X.s X.c Y.s Y.c X.mn X.mx Y.mn Y.mx A Y.L W oX.wf oY.wf hA hC (wc_app wl oY.wc) (by omega) (by omega) oX.hs oX.hc oY.hs oY.hc oX.h1 oX.h2 oY.h1 oY.h2).mono fun e w' q => ?_
  obtain ⟨v, O, e1, e2, e3⟩ := q
  obtain ⟨ao, m, cap, rfl⟩ := gc_form e3
  exact ⟨ao, m, cap, O, e1, ⟨e3.own, e2⟩, e3.below⟩
theorem rise_len : ∀ (O L : List Cn), Rise O → (∀ c ∈ O, ∃ d ∈ L, d.1 = c.1) → O.length ≤ L.length
  | [], _, _, _ => Nat.zero_le _
  | c :: O, L, h, hm => by
    obtain ⟨d, hd, e⟩ := hm c (by simp)
    have ih := rise_len O (L.erase d) (List.pairwise_cons.1 h).2 (fun x hx => by
      obtain ⟨y, hy, e'⟩ := hm x (by simp [hx])
      have := (List.pairwise_cons.1 h).1 x hx
      exact ⟨y, (List.mem_erase_of_ne (fun q => by rw [q] at e'; omega)).2 hy, e'⟩)
    have l1 := List.length_erase_of_mem hd
    have l2 := List.length_pos_of_mem hd
    simp only [List.length_cons]
    omega
theorem key_mem {O : List Cn} (h : Rise O) {c : Cn} (hc : c ∈ O) : key O c.1 = c.2 := by
  induction O with
  | nil => cases hc
  | cons d O ih =>
    rcases List.mem_cons.1 hc with q | q
    · subst q
      exact key_head h
    · have hl := (List.pairwise_cons.1 h).1 c q
      have := ih (List.pairwise_cons.1 h).2 q
      simp only [key]
      rw [if_neg (by omega), this]
      omega
theorem merge_len {O L : List Cn} (h : IsMerge O L) : O.length ≤ L.length := by
  refine rise_len O L h.rise fun c hc => ?_
  have h1 := h.keys c.1
  rw [key_mem h.rise hc] at h1
  have h2 := (h.nz c hc).1
  rcases Classical.em (∃ d ∈ L, d.1 = c.1) with q | q
  · exact q
  · exfalso
    rw [key_none (fun d hd e => q ⟨d, hd, e⟩)] at h1
    omega
/-- Both are alike. -/
theorem both_like {C : Cv} {D : Dv} {X Y : Rq} {A : List Cn} {N N' : Nat} {W : World} (hC : C.At X Y A N W) (hD : D.At X Y A N' W) (oX : X.Ok) (oY : Y.Ok) (hlen : C.O.length ≤ 9223372036854775807) :
    Calls Tryz.prog 10 #[rpart (t1 X Y) (t0 X Y) (.slice C.ao C.m C.cap) (tn X Y) C.r C.q (te0 X Y) (te1 X Y), rpart (t1 X Y) (t0 X Y) (.slice D.ao D.m D.cap) (tn X Y) (tr X Y) (tq X Y) (te0 X Y) (te1 X Y)] W fun e w' => e = .returned (.bool true) ∧ Below W.heap.size W w' := by
  have hO : D.O = C.O := hD.mrg.uniq hC.mrg
  have sD := hD.own.snB
  rw [hO] at sD
  have lr : Soft.fa X.s Y.s < 18446744073709551616 := Soft.fa_lt X.s Y.s
  have lc : Soft.fa X.c Y.c < 18446744073709551616 := Soft.fa_lt X.c Y.c
  have ll : Soft.fl X.s Y.s < 18446744073709551616 := Soft.fl_lt X.s Y.s
  have lq : tq X Y < 18446744073709551616 := Soft.fa_lt _ _
  exact like_true _ _ _ _ _ _ _ _ _ _ _ _ _ _ _ _ _ C.O W hC.own.snB sD hlen hC.hr hC.hq lr lq (endF_lt oX.h1 oY.h1) (endF_lt oX.h2 oY.h2) (endF_lt oX.h1 oY.h1) (endF_lt oX.h2 oY.h2) (hC.er.trans (Soft.fa_can X.s Y.s oX.hs oY.hs).symm) (hC.eq.trans (Soft.fa_can _ _ lc ll).symm) rfl rfl
theorem ne_type {W : World} {j g : Nat} {cs cs' : Array Value} {t t' : TypeId} {z z' : Nat × Nat} (h : W.heap[j]? = some (.cells cs t z)) (h' : W.heap[g]? = some (.cells cs' t' z')) (hne : t ≠ t') : ¬ j = g := fun e => by
  subst e
  rw [h] at h'
  cases h'
  exact hne rfl
end Go.Proofs.YtbgdmlekhobjdaaGreat
/- SlabMerges: both raw parts held, while the document merges them. Own work of the verifier. -/
namespace Go.Proofs.YtbgdmlekhobjdaaGreat
open Go.RowKit
/-- Both boxes, the part's list, and all that was there. -/
abbrev HH (kx ky ka : Nat) (va : Value) (X Y : Rq) (W0 W : World) : Prop := W.cell? ⟨kx, 0, none⟩ = some (.int .i64 X.hi) ∧ W.cell? ⟨kx, 1, none⟩ = some (.int .u64 X.lo) ∧ W.cell? ⟨kx, 2, none⟩ = some (.slice X.ao X.L.length X.cap) ∧ W.cell? ⟨kx, 3, none⟩ = some (.int .u64 (X.n : Int)) ∧ W.cell? ⟨kx, 4, none⟩ = some (.int .u64 (X.s : Int)) ∧ W.cell? ⟨kx, 5, none⟩ = some (.int .u64 (X.c : Int)) ∧ W.cell? ⟨kx, 6, none⟩ = some (.int .u64 (X.mn : Int)) ∧ W.cell? ⟨kx, 7, none⟩ = some (.int .u64 (X.mx : Int)) ∧ W.cell? ⟨ky, 0, none⟩ = some (.int .i64 Y.hi) ∧ W.cell? ⟨ky, 1, none⟩ = some (.int .u64 Y.lo) ∧ W.cell? ⟨ky, 2, none⟩ = some (.slice Y.ao Y.L.length Y.cap) ∧ W.cell? ⟨ky, 3, none⟩ = some (.int .u64 (Y.n : Int)) ∧ W.cell? ⟨ky, 4, none⟩ = some (.int .u64 (Y.s : Int)) ∧ W.cell? ⟨ky, 5, none⟩ = some (.int .u64 (Y.c : Int)) ∧ W.cell? ⟨ky, 6, none⟩ = some (.int .u64 (Y.mn : Int)) ∧ W.cell? ⟨ky, 7, none⟩ = some (.int .u64 (Y.mx : Int)) ∧ W.cell? ⟨ka, 2, none⟩ = some va ∧ Below W0.heap.size W0 W
theorem HH.b {kx ky ka : Nat} {va : Value} {X Y : Rq} {W0 W : World} (h : HH kx ky ka va X Y W0 W) : Below W0.heap.size W0 W := by
  obtain ⟨c0, c1, c2, c3, c4, c5, c6, c7, c8, c9, c10, c11, c12, c13, c14, c15, c16, hb⟩ := h
  exact hb
theorem HH.kept {kx ky ka : Nat} {va : Value} {X Y : Rq} {W0 W : World} {W' : World} (h : HH kx ky ka va X Y W0 W) (k : Below W.heap.size W W') : HH kx ky ka va X Y W0 W' := by
  obtain ⟨c0, c1, c2, c3, c4, c5, c6, c7, c8, c9, c10, c11, c12, c13, c14, c15, c16, hb⟩ := h
  exact ⟨cell_kept k c0, cell_kept k c1, cell_kept k c2, cell_kept k c3, cell_kept k c4, cell_kept k c5, cell_kept k c6, cell_kept k c7, cell_kept k c8, cell_kept k c9, cell_kept k c10, cell_kept k c11, cell_kept k c12, cell_kept k c13, cell_kept k c14, cell_kept k c15, cell_kept k c16, bt hb k⟩
theorem HH.of {kx ky ka : Nat} {va : Value} {X Y : Rq} {W0 W : World} (hx : Px kx X W) (hy : Px ky Y W) (ha : W.cell? ⟨ka, 2, none⟩ = some va) (hb : Below W0.heap.size W0 W) : HH kx ky ka va X Y W0 W := by
  obtain ⟨x0, x1, x2, x3, x4, x5, x6, x7⟩ := eight_cells (hid_of hx)
  obtain ⟨y0, y1, y2, y3, y4, y5, y6, y7⟩ := eight_cells (hid_of hy)
  exact ⟨x0, x1, x2, x3, x4, x5, x6, x7, y0, y1, y2, y3, y4, y5, y6, y7, ha, hb⟩
theorem HH.drew {kx ky ka : Nat} {va : Value} {X Y : Rq} {W0 W : World} (h : HH kx ky ka va X Y W0 W) : HH kx ky ka va X Y W0 W.drew := h.kept (Below.refl _ _).drew
theorem HH.allocd {kx ky ka : Nat} {va : Value} {X Y : Rq} {W0 W : World} (h : HH kx ky ka va X Y W0 W) (o : Obj) : HH kx ky ka va X Y W0 (W.alloc o).drew := (h.kept (bel1 _ _)).drew
theorem HH.sput {kx ky ka : Nat} {va : Value} {X Y : Rq} {W0 W : World} {k : Nat} (h : HH kx ky ka va X Y W0 W) (lx : kx < W0.heap.size) (ly : ky < W0.heap.size) (la : ka < W0.heap.size) (hk : W0.heap.size ≤ k) (v0 v1 v2 v3 v4 v5 v6 v7 : Value) : HH kx ky ka va X Y W0 (put8 W k v0 v1 v2 v3 v4 v5 v6 v7) := by
  obtain ⟨c0, c1, c2, c3, c4, c5, c6, c7, c8, c9, c10, c11, c12, c13, c14, c15, c16, hb⟩ := h
  have hm := mid_put8 W k v0 v1 v2 v3 v4 v5 v6 v7
  have kc : ∀ (a : Addr) (x : Value), a.block < W0.heap.size → W.cell? a = some x → (put8 W k v0 v1 v2 v3 v4 v5 v6 v7).cell? a = some x := fun a x ha hx => (World.cell?_of_block (hm.block a.block (lt_of_cell hx) (by omega))).trans hx
  exact ⟨kc _ _ lx c0, kc _ _ lx c1, kc _ _ lx c2, kc _ _ lx c3, kc _ _ lx c4, kc _ _ lx c5, kc _ _ lx c6, kc _ _ lx c7, kc _ _ ly c8, kc _ _ ly c9, kc _ _ ly c10, kc _ _ ly c11, kc _ _ ly c12, kc _ _ ly c13, kc _ _ ly c14, kc _ _ ly c15, kc _ _ la c16, ⟨hm.os.trans hb.os, hm.tape.trans hb.tape, hm.output.trans hb.output, Nat.le_trans hb.size hm.size, fun j hj => (hm.block j (Nat.lt_of_lt_of_le hj hb.size) (by omega)).trans (hb.block j hj)⟩⟩
theorem HH.chain {kx ky ka : Nat} {va : Value} {X Y : Rq} {W0 W : World} {k : Nat} (h : HH kx ky ka va X Y W0 W) (hl : Hid (kx < W0.heap.size ∧ ky < W0.heap.size ∧ ka < W0.heap.size)) (hp : Hid (PZ W0 k W)) (v0 v1 v2 v3 v4 v5 v6 v7 : Value) : HH kx ky ka va X Y W0 ((((((((W.setCell ⟨k, 0, none⟩ v0).setCell ⟨k, 1, none⟩ v1).setCell ⟨k, 2, none⟩ v2).setCell ⟨k, 3, none⟩ v3).setCell ⟨k, 4, none⟩ v4).setCell ⟨k, 5, none⟩ v5).setCell ⟨k, 6, none⟩ v6).setCell ⟨k, 7, none⟩ v7) :=
  HH.sput h hl.out.1 hl.out.2.1 hl.out.2.2 hp.out.2 v0 v1 v2 v3 v4 v5 v6 v7
/-- What the document's call leaves behind. -/
def OwQ (O : List Cn) (A : List Cn) (Y : Rq) (v : Value) (W0 V w' : World) : Prop := OwnC V.heap.size v O w' ∧ IsMerge O (A ++ Y.L) ∧ W0.heap.size ≤ V.heap.size
/-- The box was made last. -/
theorem dv_last {X Y : Rq} {A O : List Cn} {N : Nat} {W0 V W : World} {ao : Option Addr} {m cap : Nat} (hb : Below W0.heap.size W0 W) (hG : Hid (OwQ O A Y (.slice ao m cap) W0 V W)) (hN : N ≤ W0.heap.size) : Hid (Dv.At ⟨W.heap.size, ao, m, cap, O⟩ X Y A N (W.alloc (.cells #[.int .i64 (t1 X Y), .int .u64 (t0 X Y), .slice ao m cap, .int .u64 (tn X Y : Int), .int .u64 (tr X Y : Int), .int .u64 (tq X Y : Int), .int .u64 (te0 X Y : Int), .int .u64 (te1 X Y : Int)] 37))) ∧ Hid (Below W0.heap.size W0 (W.alloc (.cells #[.int .i64 (t1 X Y), .int .u64 (t0 X Y), .slice ao m cap, .int .u64 (tn X Y : Int), .int .u64 (tr X Y : Int), .int .u64 (tq X Y : Int), .int .u64 (te0 X Y : Int), .int .u64 (te1 X Y : Int)] 37))) := by
  obtain ⟨h1, h2, h3⟩ := hG.out
  exact ⟨⟨new_1 W _, OwnC.bel (own_leG h1 (by omega)) (bel1 W _), h2⟩, bt hb (bel1 W _)⟩
/-- .. or ahead. -/
theorem dv_put {X Y : Rq} {A O : List Cn} {N k : Nat} {W0 V W : World} {ao : Option Addr} {m cap : Nat} (hb : Below W0.heap.size W0 W) (hG : Hid (OwQ O A Y (.slice ao m cap) W0 V W)) (hN : N ≤ W0.heap.size) (hp : Hid (PZ W0 k W)) (hV : k < V.heap.size) : Hid (Dv.At ⟨k, ao, m, cap, O⟩ X Y A N (put8 W k (.int .i64 (t1 X Y)) (.int .u64 (t0 X Y)) (.slice ao m cap) (.int .u64 (tn X Y : Int)) (.int .u64 (tr X Y : Int)) (.int .u64 (tq X Y : Int)) (.int .u64 (te0 X Y : Int)) (.int .u64 (te1 X Y : Int)))) ∧ Hid (Below W0.heap.size W0 (put8 W k (.int .i64 (t1 X Y)) (.int .u64 (t0 X Y)) (.slice ao m cap) (.int .u64 (tn X Y : Int)) (.int .u64 (tr X Y : Int)) (.int .u64 (tq X Y : Int)) (.int .u64 (te0 X Y : Int)) (.int .u64 (te1 X Y : Int)))) := by
  obtain ⟨h1, h2, h3⟩ := hG.out
  have hm := mid_put8 W k (.int .i64 (t1 X Y)) (.int .u64 (t0 X Y)) (.slice ao m cap) (.int .u64 (tn X Y : Int)) (.int .u64 (tr X Y : Int)) (.int .u64 (tq X Y : Int)) (.int .u64 (te0 X Y : Int)) (.int .u64 (te1 X Y : Int))
  have hk := hp.out.2
  refine ⟨⟨set_eight hp.out.1, own_ne (own_leG h1 (by omega)) hm (fun e => ?_), h2⟩, ⟨hm.os.trans hb.os, hm.tape.trans hb.tape, hm.output.trans hb.output, Nat.le_trans hb.size hm.size, fun j hj => (hm.block j (Nat.lt_of_lt_of_le hj hb.size) (by omega)).trans (hb.block j hj)⟩⟩
  have := (h1.lt _ e).1
  omega
end Go.Proofs.YtbgdmlekhobjdaaGreat
/- SlabMerges: what both told, held. Own work of the verifier. -/
namespace Go.Proofs.YtbgdmlekhobjdaaGreat
open Go.RowKit
abbrev LK (C : Cv) (D : Dv) (X Y : Rq) (W0 W : World) : Prop := W.cell? ⟨C.k, 0, none⟩ = some (.int .i64 (t1 X Y)) ∧ W.cell? ⟨C.k, 1, none⟩ = some (.int .u64 (t0 X Y)) ∧ W.cell? ⟨C.k, 2, none⟩ = some (.slice C.ao C.m C.cap) ∧ W.cell? ⟨C.k, 3, none⟩ = some (.int .u64 (tn X Y : Int)) ∧ W.cell? ⟨C.k, 4, none⟩ = some (.complex .f64 C.r C.q) ∧ W.cell? ⟨C.k, 5, none⟩ = some (.float .f64 (te0 X Y)) ∧ W.cell? ⟨C.k, 6, none⟩ = some (.float .f64 (te1 X Y)) ∧ W.cell? ⟨D.k, 0, none⟩ = some (.int .i64 (t1 X Y)) ∧ W.cell? ⟨D.k, 1, none⟩ = some (.int .u64 (t0 X Y)) ∧ W.cell? ⟨D.k, 2, none⟩ = some (.slice D.ao D.m D.cap) ∧ W.cell? ⟨D.k, 3, none⟩ = some (.int .u64 (tn X Y : Int)) ∧ W.cell? ⟨D.k, 4, none⟩ = some (.int .u64 (tr X Y : Int)) ∧ W.cell? ⟨D.k, 5, none⟩ = some (.int .u64 (tq X Y : Int)) ∧ W.cell? ⟨D.k, 6, none⟩ = some (.int .u64 (te0 X Y : Int)) ∧ W.cell? ⟨D.k, 7, none⟩ = some (.int .u64 (te1 X Y : Int)) ∧ Below W0.heap.size W0 W
theorem LK.b {C : Cv} {D : Dv} {X Y : Rq} {W0 W : World} (h : LK C D X Y W0 W) : Below W0.heap.size W0 W := by
  obtain ⟨c0, c1, c2, c3, c4, c5, c6, c7, c8, c9, c10, c11, c12, c13, c14, hb⟩ := h
  exact hb
theorem LK.kept {C : Cv} {D : Dv} {X Y : Rq} {W0 W : World} {W' : World} (h : LK C D X Y W0 W) (k : Below W.heap.size W W') : LK C D X Y W0 W' := by
  obtain ⟨c0, c1, c2, c3, c4, c5, c6, c7, c8, c9, c10, c11, c12, c13, c14, hb⟩ := h
  exact ⟨cell_kept k c0, cell_kept k c1, cell_kept k c2, cell_kept k c3, cell_kept k c4, cell_kept k c5, cell_kept k c6, cell_kept k c7, cell_kept k c8, cell_kept k c9, cell_kept k c10, cell_kept k c11, cell_kept k c12, cell_kept k c13, cell_kept k c14, bt hb k⟩
theorem LK.drew {C : Cv} {D : Dv} {X Y : Rq} {W0 W : World} (h : LK C D X Y W0 W) : LK C D X Y W0 W.drew := h.kept (Below.refl _ _).drew
theorem LK.of {C : Cv} {D : Dv} {X Y : Rq} {W0 W : World} {A A' : List Cn} {N N' : Nat} (hC : C.At X Y A N W) (hD : D.At X Y A' N' W) (hb : Below W0.heap.size W0 W) : LK C D X Y W0 W := by
  obtain ⟨x0, x1, x2, x3, x4, x5, x6⟩ := seven_cells (hid_of hC.box)
  obtain ⟨y0, y1, y2, y3, y4, y5, y6, y7⟩ := eight_cells (hid_of hD.box)
  exact ⟨x0, x1, x2, x3, x4, x5, x6, y0, y1, y2, y3, y4, y5, y6, y7, hb⟩
end Go.Proofs.YtbgdmlekhobjdaaGreat
