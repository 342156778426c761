/- SlabValues: the document's value, while both are held. Own work of the verifier. -/
import Derived.Test.YtbgdmlekhobjdaaGreatNK
namespace Go.Proofs.YtbgdmlekhobjdaaGreat
open Go.RowKit
abbrev HJ (kd2 kx : Nat) (kd : Int) (nm hp : ByteArray) (lv : Value) (X : Rq) (W0 W : World) : Prop := W.cell? ⟨kd2, 0, none⟩ = some (.int .i64 kd) ∧ W.cell? ⟨kd2, 1, none⟩ = some (.string nm) ∧ W.cell? ⟨kd2, 2, none⟩ = some (.string hp) ∧ W.cell? ⟨kd2, 3, none⟩ = some (lv) ∧ W.cell? ⟨kx, 0, none⟩ = some (.int .i64 X.hi) ∧ W.cell? ⟨kx, 1, none⟩ = some (.int .u64 X.lo) ∧ W.cell? ⟨kx, 2, none⟩ = some (.slice X.ao X.L.length X.cap) ∧ W.cell? ⟨kx, 3, none⟩ = some (.int .u64 (X.n : Int)) ∧ W.cell? ⟨kx, 4, none⟩ = some (.int .u64 (X.s : Int)) ∧ W.cell? ⟨kx, 5, none⟩ = some (.int .u64 (X.c : Int)) ∧ W.cell? ⟨kx, 6, none⟩ = some (.int .u64 (X.mn : Int)) ∧ W.cell? ⟨kx, 7, none⟩ = some (.int .u64 (X.mx : Int)) ∧ Below W0.heap.size W0 W
theorem HJ.b {kd2 kx : Nat} {kd : Int} {nm hp : ByteArray} {lv : Value} {X : Rq} {W0 W : World} (h : HJ kd2 kx kd nm hp lv X W0 W) : Below W0.heap.size W0 W := by
  obtain ⟨c0, c1, c2, c3, c4, c5, c6, c7, c8, c9, c10, c11, hb⟩ := h
  exact hb
theorem HJ.kept {kd2 kx : Nat} {kd : Int} {nm hp : ByteArray} {lv : Value} {X : Rq} {W0 W : World} {W' : World} (h : HJ kd2 kx kd nm hp lv X W0 W) (k : Below W.heap.size W W') : HJ kd2 kx kd nm hp lv X W0 W' := by
  obtain ⟨c0, c1, c2, c3, c4, c5, c6, c7, c8, c9, c10, c11, hb⟩ := h
  exact ⟨cell_kept k c0, cell_kept k c1, cell_kept k c2, cell_kept k c3, cell_kept k c4, cell_kept k c5, cell_kept k c6, cell_kept k c7, cell_kept k c8, cell_kept k c9, cell_kept k c10, cell_kept k c11, bt hb k⟩
theorem HJ.of {kd2 kx : Nat} {kd : Int} {nm hp : ByteArray} {lv : Value} {X : Rq} {W0 W : World} (hd : W.heap[kd2]? = some (.cells #[.int .i64 kd, .string nm, .string hp, lv] 54 (0, 0))) (hx : Px kx X W) (hb : Below W0.heap.size W0 W) : HJ kd2 kx kd nm hp lv X W0 W := by
  obtain ⟨d0, d1, d2, d3⟩ := four_cellsH (hid_of hd)
  obtain ⟨x0, x1, x2, x3, x4, x5, x6, x7⟩ := eight_cells (hid_of hx)
  exact ⟨d0, d1, d2, d3, x0, x1, x2, x3, x4, x5, x6, x7, hb⟩
theorem HJ.drew {kd2 kx : Nat} {kd : Int} {nm hp : ByteArray} {lv : Value} {X : Rq} {W0 W : World} (h : HJ kd2 kx kd nm hp lv X W0 W) : HJ kd2 kx kd nm hp lv X W0 W.drew := h.kept (Below.refl _ _).drew
theorem HJ.allocd {kd2 kx : Nat} {kd : Int} {nm hp : ByteArray} {lv : Value} {X : Rq} {W0 W : World} (h : HJ kd2 kx kd nm hp lv X W0 W) (o : Obj) : HJ kd2 kx kd nm hp lv X W0 (W.alloc o).drew := (h.kept (bel1 _ _)).drew
/-- Where the value is laid out. -/
def PZv (w3 : World) (k : Nat) (W : World) : Prop := W.heap[k]? = some (.cells #[.int .i64 0, .string ⟨#[]⟩, .string ⟨#[]⟩, .slice none 0 0, .int .i64 0, .int .u64 0, .slice none 0 0, .int .u64 0, .float .f64 0, .float .f64 0, .float .f64 0] 58 (0, 0)) ∧ w3.heap.size ≤ k
theorem pzv_step {w3 W W' : World} {k : Nat} (h : Hid (PZv w3 k W)) (hb : Below W.heap.size W W') : Hid (PZv w3 k W') := ⟨hkN h.out.1 hb, h.out.2⟩
theorem pzv_new {w3 V W' : World} (hs : w3.heap.size ≤ V.heap.size) (hb : Below (V.alloc (.cells #[.int .i64 0, .string ⟨#[]⟩, .string ⟨#[]⟩, .slice none 0 0, .int .i64 0, .int .u64 0, .slice none 0 0, .int .u64 0, .float .f64 0, .float .f64 0, .float .f64 0] 58)).heap.size (V.alloc (.cells #[.int .i64 0, .string ⟨#[]⟩, .string ⟨#[]⟩, .slice none 0 0, .int .i64 0, .int .u64 0, .slice none 0 0, .int .u64 0, .float .f64 0, .float .f64 0, .float .f64 0] 58)) W') : Hid (PZv w3 V.heap.size W') := ⟨hkN (new_1 V _) hb, hs⟩
theorem pzv_newd {w3 V W' : World} (hs : w3.heap.size ≤ V.heap.size) (hb : Below (V.alloc (.cells #[.int .i64 0, .string ⟨#[]⟩, .string ⟨#[]⟩, .slice none 0 0, .int .i64 0, .int .u64 0, .slice none 0 0, .int .u64 0, .float .f64 0, .float .f64 0, .float .f64 0] 58)).drew.heap.size (V.alloc (.cells #[.int .i64 0, .string ⟨#[]⟩, .string ⟨#[]⟩, .slice none 0 0, .int .i64 0, .int .u64 0, .slice none 0 0, .int .u64 0, .float .f64 0, .float .f64 0, .float .f64 0] 58)).drew W') : Hid (PZv w3 V.heap.size W') := pzv_new hs (below_undrew hb)
theorem pzv_lt {w3 W : World} {k : Nat} (h : Hid (PZv w3 k W)) : k < W.heap.size := (Array.getElem?_eq_some_iff.1 h.out.1).1
theorem pzv_h {w3 W : World} {k : Nat} (h : Hid (PZv w3 k W)) : Hid (W.heap[k]? = some (.cells #[.int .i64 0, .string ⟨#[]⟩, .string ⟨#[]⟩, .slice none 0 0, .int .i64 0, .int .u64 0, .slice none 0 0, .int .u64 0, .float .f64 0, .float .f64 0, .float .f64 0] 58 (0, 0))) := h.out.1
theorem HJ.sput {kd2 kx : Nat} {kd : Int} {nm hp : ByteArray} {lv : Value} {X : Rq} {W0 W : World} {k : Nat} (h : HJ kd2 kx kd nm hp lv X W0 W) (hl : Hid (kd2 < W0.heap.size ∧ kx < W0.heap.size)) (hp' : Hid (PZv W0 k W)) (v0 v1 v2 v3 v4 v5 v6 v7 v8 v9 v10 : Value) : HJ kd2 kx kd nm hp lv X W0 (((((((((((W.setCell ⟨k, 0, none⟩ v0).setCell ⟨k, 1, none⟩ v1).setCell ⟨k, 2, none⟩ v2).setCell ⟨k, 3, none⟩ v3).setCell ⟨k, 4, none⟩ v4).setCell ⟨k, 5, none⟩ v5).setCell ⟨k, 6, none⟩ v6).setCell ⟨k, 7, none⟩ v7).setCell ⟨k, 8, none⟩ v8).setCell ⟨k, 9, none⟩ v9).setCell ⟨k, 10, none⟩ v10) := by
  obtain ⟨c0, c1, c2, c3, c4, c5, c6, c7, c8, c9, c10, c11, hb⟩ := h
  have hk := hp'.out.2
  have hm := chg_put11 W k v0 v1 v2 v3 v4 v5 v6 v7 v8 v9 v10
  obtain ⟨ld, lx⟩ := hl.out
  have kc : ∀ (a : Addr) (x : Value), a.block < W0.heap.size → W.cell? a = some x → (put11 W k v0 v1 v2 v3 v4 v5 v6 v7 v8 v9 v10).cell? a = some x := fun a x ha hx => (World.cell?_of_block (hm.block a.block (lt_of_cell hx) (fun e => by omega))).trans hx
  rw [put11_eq]
  exact ⟨kc _ _ ld c0, kc _ _ ld c1, kc _ _ ld c2, kc _ _ ld c3, kc _ _ lx c4, kc _ _ lx c5, kc _ _ lx c6, kc _ _ lx c7, kc _ _ lx c8, kc _ _ lx c9, kc _ _ lx c10, kc _ _ lx c11, hb.trans (hm.below hb.size (fun x hx => by omega))⟩
/-- The box was made last. -/
theorem ev_last {kd H Lo : Int} {nm hp : ByteArray} {lv : Value} {N R a b : Nat} {C : List Cn} {M : Nat} {W0 V W : World} {ca : Option Addr} {cm cc : Nat} (hb : Below W0.heap.size W0 W) (ho : Hid (OwnC V.heap.size (.slice ca cm cc) C W)) (hV : W0.heap.size ≤ V.heap.size) (hM : M ≤ W0.heap.size) : Hid (Ev.At ⟨W.heap.size, ca, cm, cc⟩ kd H Lo nm hp lv N R a b C M (W.alloc (.cells #[.int .i64 kd, .string nm, .string hp, lv, .int .i64 H, .int .u64 Lo, .slice ca cm cc, .int .u64 (N : Int), .float .f64 R, .float .f64 a, .float .f64 b] 58))) ∧ Hid (Below W0.heap.size W0 (W.alloc (.cells #[.int .i64 kd, .string nm, .string hp, lv, .int .i64 H, .int .u64 Lo, .slice ca cm cc, .int .u64 (N : Int), .float .f64 R, .float .f64 a, .float .f64 b] 58))) :=
  ⟨⟨new_1 W _, OwnC.bel (own_leG ho.out (by omega)) (bel1 W _)⟩, bt hb (bel1 W _)⟩
/-- .. or ahead. -/
theorem ev_put {kd H Lo : Int} {nm hp : ByteArray} {lv : Value} {N R a b : Nat} {C : List Cn} {M k : Nat} {W0 V W : World} {ca : Option Addr} {cm cc : Nat} (hb : Below W0.heap.size W0 W) (ho : Hid (OwnC V.heap.size (.slice ca cm cc) C W)) (hV : W0.heap.size ≤ V.heap.size) (hM : M ≤ W0.heap.size) (hp' : Hid (PZv W0 k W)) (hk : k < V.heap.size) : Hid (Ev.At ⟨k, ca, cm, cc⟩ kd H Lo nm hp lv N R a b C M (put11 W k (.int .i64 kd) (.string nm) (.string hp) lv (.int .i64 H) (.int .u64 Lo) (.slice ca cm cc) (.int .u64 (N : Int)) (.float .f64 R) (.float .f64 a) (.float .f64 b))) ∧ Hid (Below W0.heap.size W0 (put11 W k (.int .i64 kd) (.string nm) (.string hp) lv (.int .i64 H) (.int .u64 Lo) (.slice ca cm cc) (.int .u64 (N : Int)) (.float .f64 R) (.float .f64 a) (.float .f64 b))) := by
  have hm := chg_put11 W k (.int .i64 kd) (.string nm) (.string hp) lv (.int .i64 H) (.int .u64 Lo) (.slice ca cm cc) (.int .u64 (N : Int)) (.float .f64 R) (.float .f64 a) (.float .f64 b)
  have h2 := hp'.out.2
  exact ⟨⟨set_eleven hp'.out.1, hm.row (own_leG ho.out (by omega)) (fun x hx e => by have := (ho.out.lt x hx).1; omega)⟩, hb.trans (hm.below hb.size (fun x hx => by omega))⟩
set_option maxHeartbeats 16000000 in
set_option maxRecDepth 100000 in
theorem sv_want (w W : World) (X : Rq) (kd : Int) (nm hp : ByteArray) (la : Option Addr) (lc : Nat) (D : List Lb) (kd2 km kx ka ga gl : Nat) (sd : SLb w (.slice la D.length lc) D) (hlD : D.length ≤ 1048576)
    (px : Px kx X W) (ax : Ax ka ga X W) (gx : Gx ga X.L W) (hga : w.heap.size ≤ ga) (hgM : ga < W.heap.size) (oX : X.Ok) (sx : SN w (.slice X.ao X.L.length X.cap) X.L) (hb : Below w.heap.size w W)
    (bd : W.heap[kd2]? = some (.cells #[.int .i64 kd, .string nm, .string hp, .slice la D.length lc] 54 (0, 0))) (bm : W.heap[km]? = some (.cells #[.int .i64 kd, .string nm, .string hp, .slice (some ⟨gl, 0, none⟩) D.length (D.length + 1)] 54 (0, 0))) (hr : LR gl D 0 W) (hbh : W.cell? ⟨gl, D.length * 2, none⟩ = some (.string ⟨#[98, 101, 104, 105, 110, 100]⟩)) (hgl : w.heap.size ≤ gl) (hglM : gl < W.heap.size) (hsz : ∀ x ∈ D, x.2.length ≤ 1048576)
    (u0 u1 u4 u9 u10 u11 u12 u13 u14 u15 u16 u17 u18 u19 u20 u21 u22 u23 u24 u25 u26 u27 u28 u29 u30 u31 u32 u33 u34 u35 u36 u37 u38 u39 u40 u41 u42 u43 u44 u45 u46 u47 u48 u49 u50 u51 u52 u53 u54 u55 u56 u57 u58 u59 u60 u61 u62 u63 u64 u65 u66 u67 u68 u69 u70 u71 u72 u73 u74 u75 u76 u77 u78 u79 u80 u81 u82 u83 u84 u85 u86 u87 u88 u89 u90 u91 u92 u93 u94 u95 u96 u97 u98 u99 u100 u101 u102 u103 u104 u105 u106 u107 u108 u109 u110 u111 u112 u113 u114 u115 u116 u117 u118 u119 u120 u121 u122 u123 u124 u125 u126 u127 u128 u129 u130 u131 u132 u133 u134 u135 u136 u137 u138 u139 u140 u141 u142 u143 u144 u145 u146 u147 u148 u149 u150 u151 u152 u153 u154 u155 u156 u157 u158 u159 u160 u161 u162 u163 u164 u165 u166 u167 u168 u169 u170 u171 : Value) (K : Act → World → Prop) (hK : ∀ a w1, Code.wp Tryz.prog (sDrop 9 (bodyC Tryz.f4.body)) (bodyPost Tryz.prog Tryz.f4 fun r w' => r = .returned (.bool true) ∧ Below w.heap.size w w') a w1 → K a w1) :
    Code.wp Tryz.prog (sFirst (sDrop 8 (bodyC Tryz.f4.body))) (Exit.then K (bodyPost Tryz.prog Tryz.f4 fun r w' => r = .returned (.bool true) ∧ Below w.heap.size w w')) { tmps := #[u0, u1, (.pointer (some ⟨kd2, 0, none⟩)), (.pointer (some ⟨kx, 0, none⟩)), u4, (.bool true), (.pointer (some ⟨ka, 0, none⟩)), (.pointer (some ⟨km, 0, none⟩)), (.slice (some ⟨gl, 0, none⟩) (D.length + 1) (D.length + 1)), u9, u10, u11, u12, u13, u14, u15, u16, u17, u18, u19, u20, u21, u22, u23, u24, u25, u26, u27, u28, u29, u30, u31, u32, u33, u34, u35, u36, u37, u38, u39, u40, u41, u42, u43, u44, u45, u46, u47, u48, u49, u50, u51, u52, u53, u54, u55, u56, u57, u58, u59, u60, u61, u62, u63, u64, u65, u66, u67, u68, u69, u70, u71, u72, u73, u74, u75, u76, u77, u78, u79, u80, u81, u82, u83, u84, u85, u86, u87, u88, u89, u90, u91, u92, u93, u94, u95, u96, u97, u98, u99, u100, u101, u102, u103, u104, u105, u106, u107, u108, u109, u110, u111, u112, u113, u114, u115, u116, u117, u118, u119, u120, u121, u122, u123, u124, u125, u126, u127, u128, u129, u130, u131, u132, u133, u134, u135, u136, u137, u138, u139, u140, u141, u142, u143, u144, u145, u146, u147, u148, u149, u150, u151, u152, u153, u154, u155, u156, u157, u158, u159, u160, u161, u162, u163, u164, u165, u166, u167, u168, u169, u170, u171], defers := [] } W := by
  have SD := hid_of sd
  have HLD := hid_of hlD
  have PX := hid_of px
  have AX := hid_of ax
  have GX := hid_of gx
  have HGA := hid_of hga
  have HGM := hid_of hgM
  have OX := hid_of oX
  have SX := hid_of sx
  have HB := hid_of hb
  have BD := hid_of bd
  have BM := hid_of bm
  have HR := hid_of hr
  have HBH := hid_of hbh
  have HGL := hid_of hgl
  have HGLM := hid_of hglM
  have HSZ := hid_of hsz
  clear sd hlD px ax gx hga hgM oX sx hb bd bm hr hbh hgl hglM hsz
  have HRX : Hid (∀ W, Calls Tryz.prog 8 #[rpart X.hi X.lo (.slice X.ao X.L.length X.cap) X.n X.s X.c X.mn X.mx] W fun e w' => e = .returned (rpart X.hi X.lo (.slice X.ao X.L.length X.cap) X.n X.s X.c X.mn X.mx) ∧ Below W.heap.size W w') := fun W => ref_any _ _ _ _ _ _ _ _ _ _ W
  have HDV : Hid (∀ V, HJ kd2 kx kd nm hp (.slice la D.length lc) X W V → Calls Tryz.prog 15 #[.agg #[.int .i64 kd, .string nm, .string hp, .slice la D.length lc], rpart X.hi X.lo (.slice X.ao X.L.length X.cap) X.n X.s X.c X.mn X.mx] V fun e w' => ∃ ca cm cc, e = .returned (vval kd nm hp (.slice la D.length lc) (gT kd X.hi) (gT kd X.lo) (.slice ca cm cc) (gN kd X.n) (gF kd (Soft.fa X.s X.c)) (gF kd X.mn) (gF kd X.mx)) ∧ Hid (OwnC V.heap.size (.slice ca cm cc) (gC kd X.L) w') ∧ Below V.heap.size V w') := fun V hV => (dval_any kd X.hi X.lo nm hp la lc D X.ao X.cap X.n X.s X.c X.mn X.mx X.L V (SX.out.below (bt HB.out (HJ.b hV))) (Nat.le_trans OX.out.hl (by decide)) OX.out.hs OX.out.hc).mono fun e w' q => by
    obtain ⟨ca, cm, cc, e1, e2, e3⟩ := q
    exact ⟨ca, cm, cc, e1, e2, e3.out⟩
  have HK0 : Hid (HJ kd2 kx kd nm hp (.slice la D.length lc) X W W) := HJ.of BD.out PX.out (Below.refl _ _)
  have HKd := hid_of (HJ.drew HK0.out)
  have HLt : Hid (kd2 < W.heap.size ∧ kx < W.heap.size) := ⟨(Array.getElem?_eq_some_iff.1 BD.out).1, (Array.getElem?_eq_some_iff.1 PX.out).1⟩
  have HPzn : Hid (W.heap.size ≤ W.heap.size) := Nat.le_refl _
  have sF := store_f
  dsimp only [sDrop, sFirst, bodyC, Tryz.f4] at hK ⊢
  go_cut [9] from 49 (fun x V => ∃ k ca cm cc, x = .pointer (some ⟨k, 0, none⟩) ∧ Hid (Ev.At ⟨k, ca, cm, cc⟩ kd (gT kd X.hi) (gT kd X.lo) nm hp (.slice la D.length lc) (gN kd X.n) (gF kd (Soft.fa X.s X.c)) (gF kd X.mn) (gF kd X.mx) (gC kd X.L) W.heap.size V) ∧ Hid (Below W.heap.size W V))
  case first =>
    go_region_held3 (fun V => HJ kd2 kx kd nm hp (.slice la D.length lc) X W V)
      (first | with_reducible assumption | with_reducible exact HJ.sput hk5 HLt HP5 _ _ _ _ _ _ _ _ _ _ _ | with_reducible exact HK0.out | with_reducible exact HKd.out | with_reducible exact HJ.allocd HK0.out _ | with_reducible exact HJ.kept (by assumption) (bel1 _ _))
      (first
        | (go_at_call 8; with_reducible refine Calls.mono (HRX.out _) ?_; rintro e w4 ⟨rfl, hb4⟩; have hk4 := HJ.kept (by assumption) hb4; have HV4 := hid_of (HJ.b hk4).size; (first | with_reducible (have HP4 := pzv_newd HPzn.out hb4) | skip))
        | (go_at_call 15; with_reducible refine Calls.mono (HDV.out _ (by assumption)) ?_; rintro e w5 ⟨ca, cm, cc, rfl, HGC, hb5⟩; have hk5 := HJ.kept (by assumption) hb5; (first | with_reducible (have HP5 := pzv_step HP4 hb5) | with_reducible (have HP5 := pzv_new (HJ.b hk4).size hb5) | skip); (first | (have HZ5 := pzv_h HP5; obtain ⟨x0, x1, x2, x3, x4, x5, x6, x7, x8, x9, x10⟩ := eleven_cells HZ5; obtain ⟨f0, f1, f2, f3, f4, f5, f6, f7, f8, f9, f10⟩ := eleven_fr HZ5) | skip)))
    · rename_i hHeld
      clear hHeld
      go_wp2_with fail
      go_meet
      have hE := ev_last (kd := kd) (H := gT kd X.hi) (Lo := gT kd X.lo) (nm := nm) (hp := hp) (lv := .slice la D.length lc) (N := gN kd X.n) (R := gF kd (Soft.fa X.s X.c)) (a := gF kd X.mn) (b := gF kd X.mx) (M := W.heap.size) (HJ.b hk5) HGC HV4.out (Nat.le_refl _)
      exact ⟨_, ca, cm, cc, rfl, hE⟩
    · rename_i hHeld
      clear hHeld
      go_wp2_with fail
      go_meet
      have hE := ev_put (kd := kd) (H := gT kd X.hi) (Lo := gT kd X.lo) (nm := nm) (hp := hp) (lv := .slice la D.length lc) (N := gN kd X.n) (R := gF kd (Soft.fa X.s X.c)) (a := gF kd X.mn) (b := gF kd X.mx) (M := W.heap.size) (HJ.b hk5) HGC (Nat.le_trans HV4.out (by simp)) (Nat.le_refl _) HP5 (by simp)
      exact ⟨_, ca, cm, cc, rfl, hE⟩
    · rename_i hHeld
      clear hHeld
      go_wp2_with fail
      go_meet
      have hE := ev_put (kd := kd) (H := gT kd X.hi) (Lo := gT kd X.lo) (nm := nm) (hp := hp) (lv := .slice la D.length lc) (N := gN kd X.n) (R := gF kd (Soft.fa X.s X.c)) (a := gF kd X.mn) (b := gF kd X.mx) (M := W.heap.size) (HJ.b hk5) HGC HV4.out (Nat.le_refl _) HP5 (pzv_lt HP4)
      exact ⟨_, ca, cm, cc, rfl, hE⟩
  case rest =>
  obtain ⟨k9, ca, cm, cc, rfl, HE, HB1⟩ := hcut
  have PX1 := show Px kx X wc from hkN PX.out HB1.out
  have AX1 := show Ax ka ga X wc from hkN AX.out HB1.out
  have GX1 := show Gx ga X.L wc from hkN GX.out HB1.out
  have BD1 := hkN BD.out HB1.out
  have BM1 := hkN BM.out HB1.out
  have HR1 := HR.out.kept HB1.out
  have HBH1 := cellB HB1.out HBH.out
  have HBw := bt HB.out HB1.out
  have hsz1 := HB1.out.size
  clear HK0 HKd HRX HDV HLt HPzn sF PX AX GX BD BM HR HBH HB HB1
  go_upto_region 9 with fail
  rename_i hKe
  exact sv_values w _ X kd nm hp la lc D W.heap.size kd2 km kx ka ga gl ⟨k9, ca, cm, cc⟩ HE.out SD.out HLD.out PX1 AX1 GX1 HGA.out HGM.out hsz1 OX.out SX.out HBw BD1 BM1 HR1 HBH1 HGL.out HGLM.out HSZ.out _ _ _ _ _ _ _ _ _ _ _ _ _ _ _ _ _ _ _ _ _ _ _ _ _ _ _ _ _ _ _ _ _ _ _ _ _ _ _ _ _ _ _ _ _ _ _ _ _ _ _ _ _ _ _ _ _ _ _ _ _ _ _ _ _ _ _ _ _ _ _ _ _ _ _ _ _ _ _ _ _ _ _ _ _ _ _ _ _ _ _ _ _ _ _ _ _ _ _ _ _ _ _ _ _ _ _ _ _ _ _ _ _ _ _ _ _ _ _ _ _ _ _ _ _ _ _ _ _ _ _ _ _ _ _ _ _ _ _ _ _ _ _ _ _ _ _ _ _ _ _ _ _ _ _ _ _ _ _ _ _ _ _ _ _ _ hKe
end Go.Proofs.YtbgdmlekhobjdaaGreat
