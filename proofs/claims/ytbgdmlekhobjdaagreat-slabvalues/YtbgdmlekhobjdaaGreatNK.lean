/- SlabValues: both values of the code's. Own work of the verifier. -/
import Derived.Test.YtbgdmlekhobjdaaGreatNL
namespace Go.Proofs.YtbgdmlekhobjdaaGreat
open Go.RowKit
theorem Vv.At.le {V : Vv} {kd H Lo : Int} {nm hp : ByteArray} {N a b : Nat} {D : List Lb} {C : List Cn} {M M' : Nat} {W : World} (h : V.At kd H Lo nm hp N a b D C M W) (hM : M' ≤ M) : V.At kd H Lo nm hp N a b D C M' W := ⟨h.box, own_leG h.ol hM, own_leG h.oc hM⟩
theorem own_apartW {B B' : Nat} {e : TypeId} {s n n' : Nat} {v v' : Value} {xs xs' : List Value} {W W' : World} (h : W.ownsRow B e s v n xs) (h' : W'.ownsRow B' e s v' n' xs') (hB : W.heap.size ≤ B') : v.ownBlock = none ∨ v.ownBlock ≠ v'.ownBlock := by
  rcases own_atG h with q | ⟨g, q, _, q1⟩
  · exact Or.inl q
  · right
    rw [q]
    intro e
    have := (h'.lt g e.symm).1
    omega
theorem gF_lt {kd : Int} {x : Nat} (h : x < 18446744073709551616) : gF kd x < 18446744073709551616 := by
  unfold gF
  split
  · exact h
  · decide
theorem LR.kept {g : Nat} {D : List Lb} {i : Nat} {V V' : World} (h : LR g D i V) (hb : Below V.heap.size V V') : LR g D i V' := by
  obtain ⟨cur, hc, hr⟩ := h
  exact ⟨cur, hkN hc hb, hr⟩
theorem LR.slb {g : Nat} {D : List Lb} {V : World} (h : LR g D 0 V) : SLb V (.slice (some ⟨g, 0, none⟩) D.length (D.length + 1)) D := by
  refine Or.inr ⟨g, 0, D.length + 1, rfl, by omega, fun i hi => ?_⟩
  obtain ⟨cur, hc, hr⟩ := h
  obtain ⟨r1, r2⟩ := hr i hi (Nat.zero_le _)
  rw [Nat.zero_add, cell_of_row V g _ cur _ _ hc, cell_of_row V g _ cur _ _ hc]
  exact ⟨r1, r2⟩
theorem gC_len (kd : Int) (A : List Cn) : (gC kd A).length ≤ A.length := by
  unfold gC
  split
  · exact Nat.le_refl _
  · exact Nat.zero_le _
set_option maxHeartbeats 16000000 in
set_option maxRecDepth 100000 in
theorem sv_values (w W : World) (X : Rq) (kd : Int) (nm hp : ByteArray) (la : Option Addr) (lc : Nat) (D : List Lb) (M kd2 km kx ka ga gl : Nat) (E : Ev) (hE : E.At kd (gT kd X.hi) (gT kd X.lo) nm hp (.slice la D.length lc) (gN kd X.n) (gF kd (Soft.fa X.s X.c)) (gF kd X.mn) (gF kd X.mx) (gC kd X.L) M W) (sd : SLb w (.slice la D.length lc) D) (hlD : D.length ≤ 1048576)
    (px : Px kx X W) (ax : Ax ka ga X W) (gx : Gx ga X.L W) (hga : w.heap.size ≤ ga) (hgM : ga < M) (hMW : M ≤ W.heap.size) (oX : X.Ok) (sx : SN w (.slice X.ao X.L.length X.cap) X.L) (hb : Below w.heap.size w W)
    (bd : W.heap[kd2]? = some (.cells #[.int .i64 kd, .string nm, .string hp, .slice la D.length lc] 54 (0, 0))) (bm : W.heap[km]? = some (.cells #[.int .i64 kd, .string nm, .string hp, .slice (some ⟨gl, 0, none⟩) D.length (D.length + 1)] 54 (0, 0))) (hr : LR gl D 0 W) (hbh : W.cell? ⟨gl, D.length * 2, none⟩ = some (.string ⟨#[98, 101, 104, 105, 110, 100]⟩)) (hgl : w.heap.size ≤ gl) (hglM : gl < M) (hsz : ∀ x ∈ D, x.2.length ≤ 1048576)
    (u0 u1 u4 u10 u11 u12 u13 u14 u15 u16 u17 u18 u19 u20 u21 u22 u23 u24 u25 u26 u27 u28 u29 u30 u31 u32 u33 u34 u35 u36 u37 u38 u39 u40 u41 u42 u43 u44 u45 u46 u47 u48 u49 u50 u51 u52 u53 u54 u55 u56 u57 u58 u59 u60 u61 u62 u63 u64 u65 u66 u67 u68 u69 u70 u71 u72 u73 u74 u75 u76 u77 u78 u79 u80 u81 u82 u83 u84 u85 u86 u87 u88 u89 u90 u91 u92 u93 u94 u95 u96 u97 u98 u99 u100 u101 u102 u103 u104 u105 u106 u107 u108 u109 u110 u111 u112 u113 u114 u115 u116 u117 u118 u119 u120 u121 u122 u123 u124 u125 u126 u127 u128 u129 u130 u131 u132 u133 u134 u135 u136 u137 u138 u139 u140 u141 u142 u143 u144 u145 u146 u147 u148 u149 u150 u151 u152 u153 u154 u155 u156 u157 u158 u159 u160 u161 u162 u163 u164 u165 u166 u167 u168 u169 u170 u171 : Value) (K : Act → World → Prop) (hK : ∀ a w1, Code.wp Tryz.prog (sDrop 10 (bodyC Tryz.f4.body)) (bodyPost Tryz.prog Tryz.f4 fun r w' => r = .returned (.bool true) ∧ Below w.heap.size w w') a w1 → K a w1) :
    Code.wp Tryz.prog (sFirst (sDrop 9 (bodyC Tryz.f4.body))) (Exit.then K (bodyPost Tryz.prog Tryz.f4 fun r w' => r = .returned (.bool true) ∧ Below w.heap.size w w')) { tmps := #[u0, u1, (.pointer (some ⟨kd2, 0, none⟩)), (.pointer (some ⟨kx, 0, none⟩)), u4, (.bool true), (.pointer (some ⟨ka, 0, none⟩)), (.pointer (some ⟨km, 0, none⟩)), (.slice (some ⟨gl, 0, none⟩) (D.length + 1) (D.length + 1)), (.pointer (some ⟨E.k, 0, none⟩)), u10, u11, u12, u13, u14, u15, u16, u17, u18, u19, u20, u21, u22, u23, u24, u25, u26, u27, u28, u29, u30, u31, u32, u33, u34, u35, u36, u37, u38, u39, u40, u41, u42, u43, u44, u45, u46, u47, u48, u49, u50, u51, u52, u53, u54, u55, u56, u57, u58, u59, u60, u61, u62, u63, u64, u65, u66, u67, u68, u69, u70, u71, u72, u73, u74, u75, u76, u77, u78, u79, u80, u81, u82, u83, u84, u85, u86, u87, u88, u89, u90, u91, u92, u93, u94, u95, u96, u97, u98, u99, u100, u101, u102, u103, u104, u105, u106, u107, u108, u109, u110, u111, u112, u113, u114, u115, u116, u117, u118, u119, u120, u121, u122, u123, u124, u125, u126, u127, u128, u129, u130, u131, u132, u133, u134, u135, u136, u137, u138, u139, u140, u141, u142, u143, u144, u145, u146, u147, u148, u149, u150, u151, u152, u153, u154, u155, u156, u157, u158, u159, u160, u161, u162, u163, u164, u165, u166, u167, u168, u169, u170, u171], defers := [] } W := by
  have HE := hid_of hE
  have SD := hid_of sd
  have HLD := hid_of hlD
  have PX := hid_of px
  have AX := hid_of ax
  have GX := hid_of gx
  have HGA := hid_of hga
  have HGM := hid_of hgM
  have HMW := hid_of hMW
  have OX := hid_of oX
  have SX := hid_of sx
  have HB := hid_of hb
  have BD := hid_of bd
  have BM := hid_of bm
  have HR := hid_of hr
  have HBH := hid_of hbh
  have HGL := hid_of hgl
  have HGLM := hid_of hglM
  have HSZ := hid_of hsz
  clear hE sd hlD px ax gx hga hgM hMW oX sx hb bd bm hr hbh hgl hglM hsz
  have sF := store_f
  dsimp only [sDrop, sFirst, bodyC, Tryz.f4] at hK ⊢
  obtain ⟨d0, d1, d2, d3⟩ := four_cellsH (hid_of BM.out)
  obtain ⟨x0, x1, x2, x3, x4, x5, x6⟩ := seven_cells (hid_of AX.out)
  have HCV := hid_of (cval_any kd X.hi X.lo nm hp (some ⟨gl, 0, none⟩) (D.length + 1) D (some ⟨ga, 0, none⟩) (X.L.length + 2) X.n X.s X.c X.mn X.mx X.L W (HR.out.slb) (GX.out.sn rfl) HLD.out (Nat.le_trans OX.out.hl (by decide)) OX.out.hs OX.out.hc)
  go_upto_region 10 with (first | (go_at_call 16; with_reducible refine Calls.mono HCV.out ?_; rintro e y1 hq; unfold CvQ at hq; obtain ⟨l1, lm1, lc1, c1, cm1, cc1, r1, rfl, L1, C1, Y1, RR1⟩ := hq))
  clear HCV d0 d1 d2 d3 x0 x1 x2 x3 x4 x5 x6
  generalize hV1 : y1.alloc (.cells #[.int .i64 kd, .string nm, .string hp, .slice l1 lm1 lc1, .int .i64 (gT kd X.hi), .int .u64 (gT kd X.lo), .slice c1 cm1 cc1, .int .u64 ((gN kd X.n : Nat) : Int), .float .f64 r1, .float .f64 (gF kd X.mn), .float .f64 (gF kd X.mx)] 58) = z1
  have hb1 : Below y1.heap.size y1 z1 := by rw [← hV1]; exact bel1 _ _
  have hbox1 : z1.heap[y1.heap.size]? = some (.cells #[.int .i64 kd, .string nm, .string hp, .slice l1 lm1 lc1, .int .i64 (gT kd X.hi), .int .u64 (gT kd X.lo), .slice c1 cm1 cc1, .int .u64 ((gN kd X.n : Nat) : Int), .float .f64 r1, .float .f64 (gF kd X.mn), .float .f64 (gF kd X.mx)] 58 (0, 0)) := by rw [← hV1]; exact new_1 _ _
  have elm1 : lm1 = D.length := by obtain ⟨_, _, _, q, _⟩ := own_slice L1.out; injection q
  subst elm1
  have VA1 : Hid (Vv.At ⟨y1.heap.size, l1, lc1, c1, cm1, cc1, r1⟩ kd (gT kd X.hi) (gT kd X.lo) nm hp (gN kd X.n) (gF kd X.mn) (gF kd X.mx) D (gC kd X.L) W.heap.size z1) := ⟨hbox1, L1.out.bel hb1, C1.out.bel hb1⟩
  have HZ1 := hid_of (bt Y1.out hb1)
  clear hV1 hb1 hbox1 L1 C1 Y1
  have E1 := hid_of (HE.out.kept HZ1.out)
  have PX1 := hid_of (show Px kx X z1 from hkN PX.out HZ1.out)
  have AX1 := hid_of (show Ax ka ga X z1 from hkN AX.out HZ1.out)
  have GX1 := hid_of (show Gx ga X.L z1 from hkN GX.out HZ1.out)
  have BD1 := hid_of (hkN BD.out HZ1.out)
  have BM1 := hid_of (hkN BM.out HZ1.out)
  have HR1 := hid_of (HR.out.kept HZ1.out)
  have HBH1 := hid_of (cellB HZ1.out HBH.out)
  have HB1 := hid_of (bt HB.out HZ1.out)
  have HSz1 := hid_of HZ1.out.size
  clear HE PX AX GX BD BM HR HBH HB HZ1
  obtain ⟨d0, d1, d2, d3⟩ := four_cellsH (hid_of BM1.out)
  obtain ⟨x0, x1, x2, x3, x4, x5, x6⟩ := seven_cells (hid_of AX1.out)
  have HCV := hid_of (cval_any kd X.hi X.lo nm hp (some ⟨gl, 0, none⟩) (D.length + 1) D (some ⟨ga, 0, none⟩) (X.L.length + 2) X.n X.s X.c X.mn X.mx X.L z1 (HR1.out.slb) (GX1.out.sn rfl) HLD.out (Nat.le_trans OX.out.hl (by decide)) OX.out.hs OX.out.hc)
  go_upto_region 11 with (first | (go_at_call 16; with_reducible refine Calls.mono HCV.out ?_; rintro e y2 hq; unfold CvQ at hq; obtain ⟨l2, lm2, lc2, c2, cm2, cc2, r2, rfl, L2, C2, Y2, RR2⟩ := hq))
  clear HCV d0 d1 d2 d3 x0 x1 x2 x3 x4 x5 x6
  generalize hV2 : y2.alloc (.cells #[.int .i64 kd, .string nm, .string hp, .slice l2 lm2 lc2, .int .i64 (gT kd X.hi), .int .u64 (gT kd X.lo), .slice c2 cm2 cc2, .int .u64 ((gN kd X.n : Nat) : Int), .float .f64 r2, .float .f64 (gF kd X.mn), .float .f64 (gF kd X.mx)] 58) = z2
  have hb2 : Below y2.heap.size y2 z2 := by rw [← hV2]; exact bel1 _ _
  have hbox2 : z2.heap[y2.heap.size]? = some (.cells #[.int .i64 kd, .string nm, .string hp, .slice l2 lm2 lc2, .int .i64 (gT kd X.hi), .int .u64 (gT kd X.lo), .slice c2 cm2 cc2, .int .u64 ((gN kd X.n : Nat) : Int), .float .f64 r2, .float .f64 (gF kd X.mn), .float .f64 (gF kd X.mx)] 58 (0, 0)) := by rw [← hV2]; exact new_1 _ _
  have elm2 : lm2 = D.length := by obtain ⟨_, _, _, q, _⟩ := own_slice L2.out; injection q
  subst elm2
  have VA2 : Hid (Vv.At ⟨y2.heap.size, l2, lc2, c2, cm2, cc2, r2⟩ kd (gT kd X.hi) (gT kd X.lo) nm hp (gN kd X.n) (gF kd X.mn) (gF kd X.mx) D (gC kd X.L) z1.heap.size z2) := ⟨hbox2, L2.out.bel hb2, C2.out.bel hb2⟩
  have HZ2 := hid_of (bt Y2.out hb2)
  clear hV2 hb2 hbox2 L2 C2 Y2
  have VB1 := hid_of (VA1.out.kept HZ2.out)
  have NL1 := hid_of (own_apartW VA1.out.ol VA2.out.ol (Nat.le_refl _))
  have NC1 := hid_of (own_apartW VA1.out.oc VA2.out.oc (Nat.le_refl _))
  have E2 := hid_of (E1.out.kept HZ2.out)
  have PX2 := hid_of (show Px kx X z2 from hkN PX1.out HZ2.out)
  have AX2 := hid_of (show Ax ka ga X z2 from hkN AX1.out HZ2.out)
  have GX2 := hid_of (show Gx ga X.L z2 from hkN GX1.out HZ2.out)
  have BD2 := hid_of (hkN BD1.out HZ2.out)
  have HR2 := hid_of (HR1.out.kept HZ2.out)
  have HBH2 := hid_of (cellB HZ2.out HBH1.out)
  have HB2 := hid_of (bt HB1.out HZ2.out)
  have WA1 := hid_of (VB1.out.le HMW.out)
  have WA2 := hid_of (VA2.out.le (Nat.le_trans HMW.out HSz1.out))
  have HM2 := hid_of (Nat.le_trans HMW.out (Nat.le_trans HSz1.out HZ2.out.size))
  clear VA1 VA2 VB1 E1 PX1 AX1 GX1 BD1 BM1 HR1 HBH1 HB1 HZ2 HSz1 HMW sF
  generalize y1.heap.size = k10 at *
  generalize y2.heap.size = k11 at *
  have hcl := gC_len kd X.L
  have hxl := OX.out.hl
  have bR : gF kd (Soft.fa X.s X.c) < 18446744073709551616 := gF_lt (Soft.fa_lt _ _)
  have eo : Soft.one (gF kd (Soft.fa X.s X.c)) = gF kd (Soft.fa X.s X.c) := by
    unfold gF
    split
    · exact Soft.fa_can _ _ OX.out.hs OX.out.hc
    · exact oneZ_zero
  have HSV1 := hid_of (both_same WA1.out E2.out (SD.out.below HB2.out) (by omega) HLD.out RR1.out.1 bR (gF_lt OX.out.h1) (gF_lt OX.out.h2) (RR1.out.2.trans eo.symm))
  have HCL := hid_of hcl
  have HXL := hid_of hxl
  have BR := hid_of bR
  have EO := hid_of eo
  clear hcl hxl bR eo
  obtain ⟨x0, x1, x2, x3, x4, x5, x6, x7, x8, x9, x10⟩ := eleven_cells (hid_of WA1.out.box)
  obtain ⟨v0, v1, v2, v3, v4, v5, v6, v7, v8, v9, v10⟩ := eleven_cells (hid_of E2.out.box)
  go_upto_region 12 with (first | (go_at_call 17; with_reducible refine Calls.mono HSV1.out ?_; rintro e w3 ⟨rfl, hb3⟩))
  clear HSV1 x0 v0 x1 v1 x2 v2 x3 v3 x4 v4 x5 v5 x6 v6 x7 v7 x8 v8 x9 v9 x10 v10
  have XA1 := hid_of (WA1.out.kept hb3)
  have XA2 := hid_of (WA2.out.kept hb3)
  have E3 := hid_of (E2.out.kept hb3)
  have PX3 := hid_of (show Px kx X w3 from hkN PX2.out hb3)
  have AX3 := hid_of (show Ax ka ga X w3 from hkN AX2.out hb3)
  have GX3 := hid_of (show Gx ga X.L w3 from hkN GX2.out hb3)
  have BD3 := hid_of (hkN BD2.out hb3)
  have HR3 := hid_of (HR2.out.kept hb3)
  have HBH3 := hid_of (cellB hb3 HBH2.out)
  have HB3 := hid_of (bt HB2.out hb3)
  have HM3 := hid_of (Nat.le_trans HM2.out hb3.size)
  clear WA1 WA2 E2 PX2 AX2 GX2 BD2 HR2 HBH2 HB2 HM2 hb3
  have HSV2 := hid_of (both_same XA2.out E3.out (SD.out.below HB3.out) (by have := HCL.out; have := HXL.out; omega) HLD.out RR2.out.1 BR.out (gF_lt OX.out.h1) (gF_lt OX.out.h2) (RR2.out.2.trans EO.out.symm))
  obtain ⟨x0, x1, x2, x3, x4, x5, x6, x7, x8, x9, x10⟩ := eleven_cells (hid_of XA2.out.box)
  obtain ⟨v0, v1, v2, v3, v4, v5, v6, v7, v8, v9, v10⟩ := eleven_cells (hid_of E3.out.box)
  go_upto_region 13 with (first | (go_at_call 17; with_reducible refine Calls.mono HSV2.out ?_; rintro e w4 ⟨rfl, hb4⟩))
  clear HSV2 x0 v0 x1 v1 x2 v2 x3 v3 x4 v4 x5 v5 x6 v6 x7 v7 x8 v8 x9 v9 x10 v10
  have YA1 := hid_of (XA1.out.kept hb4)
  have YA2 := hid_of (XA2.out.kept hb4)
  have E4 := hid_of (E3.out.kept hb4)
  have PX4 := hid_of (show Px kx X w4 from hkN PX3.out hb4)
  have AX4 := hid_of (show Ax ka ga X w4 from hkN AX3.out hb4)
  have GX4 := hid_of (show Gx ga X.L w4 from hkN GX3.out hb4)
  have BD4 := hid_of (hkN BD3.out hb4)
  have HR4 := hid_of (HR3.out.kept hb4)
  have HBH4 := hid_of (cellB hb4 HBH3.out)
  have HB4 := hid_of (bt HB3.out hb4)
  have HM4 := hid_of (Nat.le_trans HM3.out hb4.size)
  clear XA1 XA2 E3 PX3 AX3 GX3 BD3 HR3 HBH3 HB3 HM3 hb4
  obtain ⟨x0, x1, x2, x3, x4, x5, x6⟩ := seven_cells (hid_of AX4.out)
  obtain ⟨y0, y1, y2, y3, y4, y5, y6, y7⟩ := eight_cells (hid_of PX4.out)
  have HKE := hid_of (kept_true X.hi X.lo X.hi X.lo X.ao ga X.cap X.n X.s X.c X.mn X.mx X.n X.s X.c X.mn X.mx X.L (Nat.le_trans OX.out.hl (by decide)) w4 (row_fl GX4.out) (SX.out.below HB4.out))
  go_upto_region 14 with (first | (go_at_call 12; with_reducible refine Calls.mono HKE.out ?_; rintro e w5 ⟨rfl, hb5⟩))
  clear HKE x0 x1 x2 x3 x4 x5 x6 y0 y1 y2 y3 y4 y5 y6 y7
  have ZA1 := YA1.out.kept hb5
  have ZA2 := YA2.out.kept hb5
  have E5 := E4.out.kept hb5
  have PX5 := show Px kx X w5 from hkN PX4.out hb5
  have AX5 := show Ax ka ga X w5 from hkN AX4.out hb5
  have GX5 := show Gx ga X.L w5 from hkN GX4.out hb5
  have BD5 := hkN BD4.out hb5
  have HR5 := HR4.out.kept hb5
  have HBH5 := cellB hb5 HBH4.out
  have HB5 := bt HB4.out hb5
  have HM5 := Nat.le_trans HM4.out hb5.size
  have hZ1 := hid_of ZA1
  have hZ2 := hid_of ZA2
  have hE5 := hid_of E5
  have hP5 := hid_of PX5
  have hA5 := hid_of AX5
  have hG5 := hid_of GX5
  have hD5 := hid_of BD5
  have hR5 := hid_of HR5
  have hB5 := hid_of HB5
  have hM5 := hid_of HM5
  have d3 := (four_cells BD5).2.2.2.1
  have hlt1 : ((D.length : Nat) : Int) < ((D.length + 1 : Nat) : Int) := by omega
  clear YA1 YA2 E4 PX4 AX4 GX4 BD4 HR4 HBH4 HB4 HM4 hb5 ZA1 ZA2 E5 PX5 AX5 GX5 BD5 HR5 HB5 HM5
  go_upto_region 16 with fail
  rename_i hKa _ hKb
  exact sv_loop w _ X kd (gT kd X.hi) (gT kd X.lo) nm hp la lc (gN kd X.n) (gF kd (Soft.fa X.s X.c)) (gF kd X.mn) (gF kd X.mx) D (gC kd X.L) M kd2 kx ka ga gl ⟨k10, l1, lc1, c1, cm1, cc1, r1⟩ ⟨k11, l2, lc2, c2, cm2, cc2, r2⟩ E hZ1.out hZ2.out hE5.out SD.out NC1.out NL1.out (by have := HCL.out; have := HXL.out; omega) HLD.out RR1.out.1 BR.out (gF_lt OX.out.h1) (gF_lt OX.out.h2) (RR1.out.2.trans EO.out.symm) hP5.out hA5.out hG5.out HGA.out HGM.out hM5.out OX.out SX.out hB5.out hD5.out hR5.out HGL.out HGLM.out HSZ.out _ _ _ _ _ _ _ _ _ _ _ _ _ _ _ _ _ _ _ _ _ _ _ _ _ _ _ _ _ _ _ _ _ _ _ _ _ _ _ _ _ _ _ _ _ _ _ _ _ _ _ _ _ _ _ _ _ _ _ _ _ _ _ _ _ _ _ _ _ _ _ _ _ _ _ _ _ _ _ _ _ _ _ _ _ _ _ _ _ _ _ _ _ _ _ _ _ _ _ _ _ _ _ _ _ _ _ _ _ _ _ _ _ _ _ _ _ _ _ _ _ _ _ _ _ _ _ _ _ _ _ _ _ _ _ _ _ _ _ _ _ _ _ _ _ _ _ _ _ _ _ _ _ _ _ _ _ _ _ _ _ _ _ _ _ _ _ hKa hKb
end Go.Proofs.YtbgdmlekhobjdaaGreat
