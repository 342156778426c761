/- SlabMerges: the document's merge, and the code's, twice. Own work of the verifier. -/
import Derived.Test.YtbgdmlekhobjdaaGreatMB
namespace Go.Proofs.YtbgdmlekhobjdaaGreat
open Go.RowKit
theorem Cv.At.le {C : Cv} {X Y : Rq} {A : List Cn} {N N' : Nat} {W : World} (h : C.At X Y A N W) (hN : N' ≤ N) : C.At X Y A N' W := ⟨h.box, own_leG h.own hN, h.mrg, h.hr, h.hq, h.er, h.eq⟩
set_option maxHeartbeats 16000000 in
set_option maxRecDepth 100000 in
theorem sm_both (w W : World) (X Y : Rq) (kx ky ka ga kb gb : Nat) (h : SA w W.heap.size X Y X.L kx ky ka ga kb gb W) (oX : X.Ok) (oY : Y.Ok) (sx : SN w (.slice X.ao X.L.length X.cap) X.L) (sy : SN w (.slice Y.ao Y.L.length Y.cap) Y.L)
    (u0 u1 u4 u8 u9 u10 u11 u12 u13 u14 u15 u16 u17 u18 u19 u20 u21 u22 u23 u24 u25 u26 u27 u28 u29 u30 u31 u32 u33 u34 u35 u36 u37 u38 u39 u40 u41 u42 u43 u44 u45 u46 u47 u48 u49 u50 u51 u52 u53 u54 u55 u56 u57 u58 u59 u60 u61 u62 u63 u64 u65 u66 u67 u68 u69 u70 u71 u72 u73 u74 u75 u76 u77 u78 u79 u80 u81 u82 u83 u84 u85 u86 u87 u88 u89 u90 u91 u92 u93 u94 u95 u96 u97 u98 u99 u100 u101 u102 u103 u104 u105 u106 u107 u108 u109 u110 u111 u112 u113 u114 u115 u116 u117 u118 u119 u120 u121 u122 u123 u124 u125 u126 u127 u128 u129 u130 u131 u132 u133 u134 u135 u136 u137 u138 : Value) (K : Act → World → Prop) (hK : ∀ a w1, Code.wp Tryz.prog (sDrop 5 (bodyC Tryz.f3.body)) (bodyPost Tryz.prog Tryz.f3 fun r w' => r = .returned (.bool true) ∧ Below w.heap.size w w') a w1 → K a w1) :
    Code.wp Tryz.prog (sFirst (sDrop 4 (bodyC Tryz.f3.body))) (Exit.then K (bodyPost Tryz.prog Tryz.f3 fun r w' => r = .returned (.bool true) ∧ Below w.heap.size w w')) { tmps := #[u0, u1, (.pointer (some ⟨kx, 0, none⟩)), (.pointer (some ⟨ky, 0, none⟩)), u4, (.bool true), (.pointer (some ⟨ka, 0, none⟩)), (.pointer (some ⟨kb, 0, none⟩)), u8, u9, u10, u11, u12, u13, u14, u15, u16, u17, u18, u19, u20, u21, u22, u23, u24, u25, u26, u27, u28, u29, u30, u31, u32, u33, u34, u35, u36, u37, u38, u39, u40, u41, u42, u43, u44, u45, u46, u47, u48, u49, u50, u51, u52, u53, u54, u55, u56, u57, u58, u59, u60, u61, u62, u63, u64, u65, u66, u67, u68, u69, u70, u71, u72, u73, u74, u75, u76, u77, u78, u79, u80, u81, u82, u83, u84, u85, u86, u87, u88, u89, u90, u91, u92, u93, u94, u95, u96, u97, u98, u99, u100, u101, u102, u103, u104, u105, u106, u107, u108, u109, u110, u111, u112, u113, u114, u115, u116, u117, u118, u119, u120, u121, u122, u123, u124, u125, u126, u127, u128, u129, u130, u131, u132, u133, u134, u135, u136, u137, u138], defers := [] } W := by
  have HS := hid_of h
  have OX := hid_of oX
  have OY := hid_of oY
  have SX := hid_of sx
  have SY := hid_of sy
  clear h oX oY sx sy
  have HRX : Hid (∀ W, Calls Tryz.prog 8 #[rpart X.hi X.lo (.slice X.ao X.L.length X.cap) X.n X.s X.c X.mn X.mx] W fun e w' => e = .returned (rpart X.hi X.lo (.slice X.ao X.L.length X.cap) X.n X.s X.c X.mn X.mx) ∧ Below W.heap.size W w') := fun W => ref_any _ _ _ _ _ _ _ _ _ _ W
  have HRY : Hid (∀ W, Calls Tryz.prog 8 #[rpart Y.hi Y.lo (.slice Y.ao Y.L.length Y.cap) Y.n Y.s Y.c Y.mn Y.mx] W fun e w' => e = .returned (rpart Y.hi Y.lo (.slice Y.ao Y.L.length Y.cap) Y.n Y.s Y.c Y.mn Y.mx) ∧ Below W.heap.size W w') := fun W => ref_any _ _ _ _ _ _ _ _ _ _ W
  have HDM : Hid (∀ V, HH kx ky ka (.slice (some ⟨ga, 0, none⟩) X.L.length (X.L.length + 2)) X Y W V → Calls Tryz.prog 7 #[rpart X.hi X.lo (.slice X.ao X.L.length X.cap) X.n X.s X.c X.mn X.mx, rpart Y.hi Y.lo (.slice Y.ao Y.L.length Y.cap) Y.n Y.s Y.c Y.mn Y.mx] V fun e w' => ∃ ao m cap O, e = .returned (rpart (t1 X Y) (t0 X Y) (.slice ao m cap) (tn X Y) (tr X Y) (tq X Y) (te0 X Y) (te1 X Y)) ∧ Hid (OwQ O X.L Y (.slice ao m cap) W V w') ∧ Below V.heap.size V w') := fun V hV => (dmerge (SX.out.below (HS.out.kept (HH.b hV)).bel) (SY.out.below (HS.out.kept (HH.b hV)).bel) OX.out OY.out rfl OX.out.wc).mono fun e w' q => by
    obtain ⟨ao, m, cap, O, e1, e2, e3⟩ := q
    exact ⟨ao, m, cap, O, e1, ⟨e2.out.1, e2.out.2, (HH.b hV).size⟩, e3.out⟩
  have HK0 : Hid (HH kx ky ka (.slice (some ⟨ga, 0, none⟩) X.L.length (X.L.length + 2)) X Y W W) := HH.of HS.out.px HS.out.py (seven_cells (hid_of HS.out.ax)).2.2.1 (Below.refl _ _)
  have HKd := hid_of (HH.drew HK0.out)
  have HLt : Hid (kx < W.heap.size ∧ ky < W.heap.size ∧ ka < W.heap.size) := ⟨(Array.getElem?_eq_some_iff.1 HS.out.px).1, (Array.getElem?_eq_some_iff.1 HS.out.py).1, (Array.getElem?_eq_some_iff.1 HS.out.ax).1⟩
  have HPzn : Hid (W.heap.size ≤ W.heap.size) := Nat.le_refl _
  dsimp only [sDrop, sFirst, bodyC, Tryz.f3] at hK ⊢
  go_cut [8] from 27 (fun x V => ∃ k ao m cap O, x = .pointer (some ⟨k, 0, none⟩) ∧ Hid (Dv.At ⟨k, ao, m, cap, O⟩ X Y X.L W.heap.size V) ∧ Hid (Below W.heap.size W V))
  case first =>
    go_region_held3 (fun V => HH kx ky ka (.slice (some ⟨ga, 0, none⟩) X.L.length (X.L.length + 2)) X Y W V)
      (first | with_reducible assumption | with_reducible exact HH.chain hk6 HLt HP6 _ _ _ _ _ _ _ _ | with_reducible exact HK0.out | with_reducible exact HKd.out | with_reducible exact HH.allocd HK0.out _ | with_reducible exact HH.kept (by assumption) (bel1 _ _))
      (first
        | (go_at_call 8; with_reducible refine Calls.mono (HRX.out _) ?_; rintro e w4 ⟨rfl, hb4⟩; have hk4 := HH.kept (by assumption) hb4; (first | with_reducible (have HP4 := pz_newd HPzn.out hb4) | skip))
        | (go_at_call 8; with_reducible refine Calls.mono (HRY.out _) ?_; rintro e w5 ⟨rfl, hb5⟩; have hk5 := HH.kept (by assumption) hb5; (first | with_reducible (have HP5 := pz_step HP4 hb5) | with_reducible (have HP5 := pz_new (HH.b hk4).size hb5) | skip))
        | (go_at_call 7; with_reducible refine Calls.mono (HDM.out _ (by assumption)) ?_; rintro e w6 ⟨ao, m, cap, O, rfl, HGC, hb6⟩; have hk6 := HH.kept (by assumption) hb6; (first | with_reducible (have HP6 := pz_step HP5 hb6) | with_reducible (have HP6 := pz_new (HH.b hk5).size hb6) | skip); (first | (have x0 := pz_c0 HP6; have f0 := pz_f0 HP6; have x1 := pz_c1 HP6; have f1 := pz_f1 HP6; have x2 := pz_c2 HP6; have f2 := pz_f2 HP6; have x3 := pz_c3 HP6; have f3 := pz_f3 HP6; have x4 := pz_c4 HP6; have f4 := pz_f4 HP6; have x5 := pz_c5 HP6; have f5 := pz_f5 HP6; have x6 := pz_c6 HP6; have f6 := pz_f6 HP6; have x7 := pz_c7 HP6; have f7 := pz_f7 HP6) | skip)))
    · rename_i hHeld
      clear hHeld
      go_wp2_with fail
      go_meet
      have hE := dv_last (X := X) (N := W.heap.size) (HH.b hk6) HGC (Nat.le_refl _)
      exact ⟨_, ao, m, cap, O, rfl, hE⟩
    · rename_i hHeld
      clear hHeld
      go_wp2_with fail
      go_meet
      have hE := dv_put (X := X) (N := W.heap.size) (HH.b hk6) HGC (Nat.le_refl _) HP6 (by simp)
      exact ⟨_, ao, m, cap, O, rfl, hE⟩
    · rename_i hHeld
      clear hHeld
      go_wp2_with fail
      go_meet
      have hE := dv_put (X := X) (N := W.heap.size) (HH.b hk6) HGC (Nat.le_refl _) HP6 (pz_lt HP5)
      exact ⟨_, ao, m, cap, O, rfl, hE⟩
    · rename_i hHeld
      clear hHeld
      go_wp2_with fail
      go_meet
      have hE := dv_put (X := X) (N := W.heap.size) (HH.b hk6) HGC (Nat.le_refl _) HP6 (pz_lt HP5)
      exact ⟨_, ao, m, cap, O, rfl, hE⟩
  case rest =>
  obtain ⟨k8, ao, m, cap, O, rfl, HD, HB1⟩ := hcut
  have JS := hid_of (HS.out.kept HB1.out)
  clear HK0 HKd HRX HRY HDM HS HB1 HPzn HLt
  generalize hNN : W.heap.size = NN at *
  clear hNN
  go_upto_region 5 with fail
  have sF := store_f
  have sC := store_c
  obtain ⟨x0, x1, x2, x3, x4, x5, x6⟩ := seven_cells (hid_of JS.out.ax)
  obtain ⟨y0, y1, y2, y3, y4, y5, y6⟩ := seven_cells (hid_of JS.out.ay)
  have HMC := hid_of (JS.out.cmerge OX.out OY.out rfl OX.out.wc)
  go_upto_region 6 with (first | (go_at_call 9; with_reducible refine Calls.mono HMC.out ?_; rintro e w1 hq; unfold CmQ at hq; obtain ⟨ao1, m1, cap1, O1, r1, q1, rfl, HQ1, HBm1⟩ := hq))
  clear HMC x0 x1 x2 x3 x4 x5 x6 y0 y1 y2 y3 y4 y5 y6
  generalize hV1 : w1.alloc (.cells #[.int .i64 (t1 X Y), .int .u64 (t0 X Y), .slice ao1 m1 cap1, .int .u64 (tn X Y : Int), .complex .f64 r1 q1, .float .f64 (te0 X Y), .float .f64 (te1 X Y)] 32) = V1
  have hb1 : Below w1.heap.size w1 V1 := by rw [← hV1]; exact bel1 _ _
  have hbox1 : V1.heap[w1.heap.size]? = some (.cells #[.int .i64 (t1 X Y), .int .u64 (t0 X Y), .slice ao1 m1 cap1, .int .u64 (tn X Y : Int), .complex .f64 r1 q1, .float .f64 (te0 X Y), .float .f64 (te1 X Y)] 32 (0, 0)) := by rw [← hV1]; exact new_1 _ _
  have HCv1 : Hid (Cv.At ⟨w1.heap.size, ao1, m1, cap1, O1, r1, q1⟩ X Y X.L wc.heap.size V1) := ⟨hbox1, HQ1.out.1.bel hb1, HQ1.out.2.1, HQ1.out.2.2.1, HQ1.out.2.2.2.1, HQ1.out.2.2.2.2.1, HQ1.out.2.2.2.2.2⟩
  have HBv1 := hid_of (bt HBm1.out hb1)
  clear hV1 hb1 hbox1 HQ1 HBm1
  have IS := hid_of (JS.out.kept HBv1.out)
  have ID := hid_of (HD.out.kept HBv1.out)
  have HN1 := hid_of JS.out.nz
  have HSz := hid_of HBv1.out.size
  clear JS HD HBv1
  obtain ⟨x0, x1, x2, x3, x4, x5, x6⟩ := seven_cells (hid_of IS.out.ax)
  obtain ⟨y0, y1, y2, y3, y4, y5, y6⟩ := seven_cells (hid_of IS.out.ay)
  have HMC := hid_of (IS.out.cmerge OX.out OY.out rfl OX.out.wc)
  go_upto_region 7 with (first | (go_at_call 9; with_reducible refine Calls.mono HMC.out ?_; rintro e w2 hq; unfold CmQ at hq; obtain ⟨ao2, m2, cap2, O2, r2, q2, rfl, HQ2, HBm2⟩ := hq))
  clear HMC x0 x1 x2 x3 x4 x5 x6 y0 y1 y2 y3 y4 y5 y6
  generalize hV2 : w2.alloc (.cells #[.int .i64 (t1 X Y), .int .u64 (t0 X Y), .slice ao2 m2 cap2, .int .u64 (tn X Y : Int), .complex .f64 r2 q2, .float .f64 (te0 X Y), .float .f64 (te1 X Y)] 32) = V2
  have hb2 : Below w2.heap.size w2 V2 := by rw [← hV2]; exact bel1 _ _
  have hbox2 : V2.heap[w2.heap.size]? = some (.cells #[.int .i64 (t1 X Y), .int .u64 (t0 X Y), .slice ao2 m2 cap2, .int .u64 (tn X Y : Int), .complex .f64 r2 q2, .float .f64 (te0 X Y), .float .f64 (te1 X Y)] 32 (0, 0)) := by rw [← hV2]; exact new_1 _ _
  have HCv2 : Hid (Cv.At ⟨w2.heap.size, ao2, m2, cap2, O2, r2, q2⟩ X Y X.L V1.heap.size V2) := ⟨hbox2, HQ2.out.1.bel hb2, HQ2.out.2.1, HQ2.out.2.2.1, HQ2.out.2.2.2.1, HQ2.out.2.2.2.2.1, HQ2.out.2.2.2.2.2⟩
  have HBv2 := hid_of (bt HBm2.out hb2)
  clear hV2 hb2 hbox2 HQ2 HBm2
  clear sF sC
  have KS := IS.out.kept HBv2.out
  have KD := ID.out.kept HBv2.out
  have K1 := HCv1.out.kept HBv2.out
  have KN := own_two_apart HCv1.out.own HCv2.out.own (Nat.le_refl _)
  have n1 := HN1.out
  have n2 := HSz.out
  have hwN := Nat.le_trans IS.out.a1 (Nat.le_of_lt IS.out.a2)
  clear HBv2 HN1 HSz
  rename_i hKe
  exact sm_kept w _ NN X Y kx ky ka ga kb gb ⟨k8, ao, m, cap, O⟩ ⟨w1.heap.size, ao1, m1, cap1, O1, r1, q1⟩ ⟨w2.heap.size, ao2, m2, cap2, O2, r2, q2⟩ KS KD (K1.le n1) (HCv2.out.le (Nat.le_trans n1 n2)) KN OX.out OY.out SX.out SY.out hwN _ _ _ _ _ _ _ _ _ _ _ _ _ _ _ _ _ _ _ _ _ _ _ _ _ _ _ _ _ _ _ _ _ _ _ _ _ _ _ _ _ _ _ _ _ _ _ _ _ _ _ _ _ _ _ _ _ _ _ _ _ _ _ _ _ _ _ _ _ _ _ _ _ _ _ _ _ _ _ _ _ _ _ _ _ _ _ _ _ _ _ _ _ _ _ _ _ _ _ _ _ _ _ _ _ _ _ _ _ _ _ _ _ _ _ _ _ _ _ _ _ _ _ _ _ _ _ _ _ _ _ _ hKe
end Go.Proofs.YtbgdmlekhobjdaaGreat
