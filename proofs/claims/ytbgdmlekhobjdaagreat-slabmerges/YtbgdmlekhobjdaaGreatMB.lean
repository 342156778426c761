/- SlabMerges: both are held against the document's, and what went in stays. Own work of the verifier. -/
import Derived.Test.YtbgdmlekhobjdaaGreatMC
namespace Go.Proofs.YtbgdmlekhobjdaaGreat
open Go.RowKit
set_option maxHeartbeats 16000000 in
set_option maxRecDepth 100000 in
theorem sm_kept (w W : World) (N : Nat) (X Y : Rq) (kx ky ka ga kb gb : Nat) (D : Dv) (C1 C2 : Cv) (h : SA w N X Y X.L kx ky ka ga kb gb W) (hD : D.At X Y X.L N W) (h1 : C1.At X Y X.L N W) (h2 : C2.At X Y X.L N W) (n1 : (Value.slice C1.ao C1.m C1.cap).ownBlock = none ∨ (Value.slice C1.ao C1.m C1.cap).ownBlock ≠ (Value.slice C2.ao C2.m C2.cap).ownBlock) (oX : X.Ok) (oY : Y.Ok) (sx : SN w (.slice X.ao X.L.length X.cap) X.L) (sy : SN w (.slice Y.ao Y.L.length Y.cap) Y.L) (hwN : w.heap.size ≤ N)
    (u0 u1 u4 u11 u12 u13 u14 u15 u16 u17 u18 u19 u20 u21 u22 u23 u24 u25 u26 u27 u28 u29 u30 u31 u32 u33 u34 u35 u36 u37 u38 u39 u40 u41 u42 u43 u44 u45 u46 u47 u48 u49 u50 u51 u52 u53 u54 u55 u56 u57 u58 u59 u60 u61 u62 u63 u64 u65 u66 u67 u68 u69 u70 u71 u72 u73 u74 u75 u76 u77 u78 u79 u80 u81 u82 u83 u84 u85 u86 u87 u88 u89 u90 u91 u92 u93 u94 u95 u96 u97 u98 u99 u100 u101 u102 u103 u104 u105 u106 u107 u108 u109 u110 u111 u112 u113 u114 u115 u116 u117 u118 u119 u120 u121 u122 u123 u124 u125 u126 u127 u128 u129 u130 u131 u132 u133 u134 u135 u136 u137 u138 : Value) (K : Act → World → Prop) (hK : ∀ a w1, Code.wp Tryz.prog (sDrop 8 (bodyC Tryz.f3.body)) (bodyPost Tryz.prog Tryz.f3 fun r w' => r = .returned (.bool true) ∧ Below w.heap.size w w') a w1 → K a w1) :
    Code.wp Tryz.prog (sFirst (sDrop 7 (bodyC Tryz.f3.body))) (Exit.then K (bodyPost Tryz.prog Tryz.f3 fun r w' => r = .returned (.bool true) ∧ Below w.heap.size w w')) { tmps := #[u0, u1, (.pointer (some ⟨kx, 0, none⟩)), (.pointer (some ⟨ky, 0, none⟩)), u4, (.bool true), (.pointer (some ⟨ka, 0, none⟩)), (.pointer (some ⟨kb, 0, none⟩)), (.pointer (some ⟨D.k, 0, none⟩)), (.pointer (some ⟨C1.k, 0, none⟩)), (.pointer (some ⟨C2.k, 0, none⟩)), u11, u12, u13, u14, u15, u16, u17, u18, u19, u20, u21, u22, u23, u24, u25, u26, u27, u28, u29, u30, u31, u32, u33, u34, u35, u36, u37, u38, u39, u40, u41, u42, u43, u44, u45, u46, u47, u48, u49, u50, u51, u52, u53, u54, u55, u56, u57, u58, u59, u60, u61, u62, u63, u64, u65, u66, u67, u68, u69, u70, u71, u72, u73, u74, u75, u76, u77, u78, u79, u80, u81, u82, u83, u84, u85, u86, u87, u88, u89, u90, u91, u92, u93, u94, u95, u96, u97, u98, u99, u100, u101, u102, u103, u104, u105, u106, u107, u108, u109, u110, u111, u112, u113, u114, u115, u116, u117, u118, u119, u120, u121, u122, u123, u124, u125, u126, u127, u128, u129, u130, u131, u132, u133, u134, u135, u136, u137, u138], defers := [] } W := by
  have HS := hid_of h
  have HSM := hid_of h.sum
  have HD := hid_of hD
  have H1 := hid_of h1
  have H2 := hid_of h2
  have HN1 := hid_of n1
  have OX := hid_of oX
  have OY := hid_of oY
  have SX := hid_of sx
  have SY := hid_of sy
  have HWN := hid_of hwN
  clear h hD h1 h2 n1 oX oY sx sy hwN
  dsimp only [sDrop, sFirst, bodyC, Tryz.f3] at hK ⊢
  have HK0 : Hid (LK C1 D X Y W W) := LK.of H1.out HD.out (Below.refl _ _)
  have HPT := part_hid (t1 X Y) (t0 X Y) C1.ao C1.m C1.cap (tn X Y) C1.r C1.q (te0 X Y) (te1 X Y)
  have HLI := like_lk H1.out HD.out OX.out OY.out (by have := cv_len H1.out HSM.out rfl; omega)
  go_cut [11] from 38 (fun x V => x = .bool true ∧ Hid (Below W.heap.size W V))
  case first =>
    have HKd := hid_of (LK.drew HK0.out)
    go_region_held3 (fun V => LK C1 D X Y W V) (first | with_reducible assumption | with_reducible exact HK0.out | with_reducible exact HKd.out)
      (first
        | (go_at_call 11; with_reducible refine Calls.mono (HPT.out _) ?_; rintro e w4 ⟨rfl, hb4⟩; have hk4 := LK.kept (by assumption) hb4)
        | (go_at_call 10; with_reducible refine Calls.mono (HLI.out _ (by assumption)) ?_; rintro e w5 ⟨rfl, hb5⟩; have hk5 := LK.kept (by assumption) hb5))
    all_goals
      rename_i hHeld
      clear hHeld
      go_wp2_with fail
      go_meet
      exact ⟨rfl, LK.b hk5⟩
  case rest =>
  obtain ⟨rfl, HB⟩ := hcut
  have JS := hid_of (HS.out.kept HB.out)
  have JD := hid_of (HD.out.kept HB.out)
  have J1 := hid_of (H1.out.kept HB.out)
  have J2 := hid_of (H2.out.kept HB.out)
  clear HK0 HPT HLI HS HD H1 H2 HB
  go_upto_region 8 with fail
  generalize wc = W at *
  have HK0 : Hid (LK C2 D X Y W W) := LK.of J2.out JD.out (Below.refl _ _)
  have HPT := part_hid (t1 X Y) (t0 X Y) C2.ao C2.m C2.cap (tn X Y) C2.r C2.q (te0 X Y) (te1 X Y)
  have HLI := like_lk J2.out JD.out OX.out OY.out (by have := cv_len J2.out HSM.out rfl; omega)
  go_cut [12] from 42 (fun x V => x = .bool true ∧ Hid (Below W.heap.size W V))
  case first =>
    have HKd := hid_of (LK.drew HK0.out)
    go_region_held3 (fun V => LK C2 D X Y W V) (first | with_reducible assumption | with_reducible exact HK0.out | with_reducible exact HKd.out)
      (first
        | (go_at_call 11; with_reducible refine Calls.mono (HPT.out _) ?_; rintro e w4 ⟨rfl, hb4⟩; have hk4 := LK.kept (by assumption) hb4)
        | (go_at_call 10; with_reducible refine Calls.mono (HLI.out _ (by assumption)) ?_; rintro e w5 ⟨rfl, hb5⟩; have hk5 := LK.kept (by assumption) hb5))
    all_goals
      rename_i hHeld
      clear hHeld
      go_wp2_with fail
      go_meet
      exact ⟨rfl, LK.b hk5⟩
  case rest =>
  obtain ⟨rfl, HB⟩ := hcut
  have IS := hid_of (JS.out.kept HB.out)
  have ID := hid_of (JD.out.kept HB.out)
  have I1 := hid_of (J1.out.kept HB.out)
  have I2 := hid_of (J2.out.kept HB.out)
  clear HK0 HPT HLI JS JD J1 J2 HB
  go_upto_region 9 with fail
  generalize wc = W at *
  obtain ⟨x0, x1, x2, x3, x4, x5, x6⟩ := seven_cells (hid_of IS.out.ax)
  obtain ⟨y0, y1, y2, y3, y4, y5, y6, y7⟩ := eight_cells (hid_of IS.out.px)
  have HKE := hid_of (kept_true X.hi X.lo X.hi X.lo X.ao ga X.cap X.n X.s X.c X.mn X.mx X.n X.s X.c X.mn X.mx X.L (Nat.le_trans OX.out.hl (by decide)) W (row_fl IS.out.gx) (SX.out.below IS.out.bel))
  go_upto_region 10 with (first | (go_at_call 12; with_reducible refine Calls.mono HKE.out ?_; rintro e w2 ⟨rfl, HB2⟩))
  clear x0 x1 x2 x3 x4 x5 x6 y0 y1 y2 y3 y4 y5 y6 y7 HKE
  have JS := hid_of (IS.out.kept HB2)
  have JD := hid_of (ID.out.kept HB2)
  have J1 := hid_of (I1.out.kept HB2)
  have J2 := hid_of (I2.out.kept HB2)
  clear IS ID I1 I2 HB2
  obtain ⟨x0, x1, x2, x3, x4, x5, x6⟩ := seven_cells (hid_of JS.out.ay)
  obtain ⟨y0, y1, y2, y3, y4, y5, y6, y7⟩ := eight_cells (hid_of JS.out.py)
  have HKE := hid_of (kept_true Y.hi Y.lo Y.hi Y.lo Y.ao gb Y.cap Y.n Y.s Y.c Y.mn Y.mx Y.n Y.s Y.c Y.mn Y.mx Y.L (Nat.le_trans OY.out.hl (by decide)) w2 (row_fl JS.out.gy) (SY.out.below JS.out.bel))
  go_upto_region 11 with (first | (go_at_call 12; with_reducible refine Calls.mono HKE.out ?_; rintro e w3 ⟨rfl, HB3⟩))
  clear x0 x1 x2 x3 x4 x5 x6 y0 y1 y2 y3 y4 y5 y6 y7 HKE
  have IS := JS.out.kept HB3
  have ID := JD.out.kept HB3
  have I1 := J1.out.kept HB3
  have I2 := J2.out.kept HB3
  clear JS JD J1 J2 HB3
  go_upto_region 13 with fail
  rename_i hKa _ hKb
  exact sm_over w _ N X Y kx ky ka ga kb gb D C1 C2 IS ID I1 I2 HN1.out OX.out OY.out SY.out HWN.out _ _ _ _ _ _ _ _ _ _ _ _ _ _ _ _ _ _ _ _ _ _ _ _ _ _ _ _ _ _ _ _ _ _ _ _ _ _ _ _ _ _ _ _ _ _ _ _ _ _ _ _ _ _ _ _ _ _ _ _ _ _ _ _ _ _ _ _ _ _ _ _ _ _ _ _ _ _ _ _ _ _ _ _ _ _ _ _ _ _ _ _ _ _ _ _ _ _ _ _ _ _ _ _ _ _ _ _ _ _ _ _ _ _ _ _ _ _ _ _ _ _ _ _ _ _ _ _ _ _ _ _ _ _ hKa hKb
end Go.Proofs.YtbgdmlekhobjdaaGreat
