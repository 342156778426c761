/- SlabMerges: the second half of its walk. Own work of the verifier. -/
import Derived.Test.YtbgdmlekhobjdaaGreatMZ
namespace Go.Proofs.YtbgdmlekhobjdaaGreat
open Go.RowKit
set_option maxHeartbeats 16000000 in
set_option maxRecDepth 100000 in
theorem sm_last (w W : World) (N : Nat) (X Y : Rq) (La : List Cn) (kx ky ka ga kb gb : Nat) (D : Dv) (C1 C2 : Cv) (h : SA w N X Y La kx ky ka ga kb gb W) (hD : D.At X Y X.L N W) (h1 : C1.At X Y X.L N W) (h2 : C2.At X Y X.L N W) (n1 : (Value.slice C1.ao C1.m C1.cap).ownBlock = none ∨ (Value.slice C1.ao C1.m C1.cap).ownBlock ≠ (Value.slice C2.ao C2.m C2.cap).ownBlock) (oX : X.Ok) (oY : Y.Ok) (hl : La.length = X.L.length) (wl : Wc La) (sy : SN w (.slice Y.ao Y.L.length Y.cap) Y.L) (hwN : w.heap.size ≤ N)
    (u0 u1 u4 u5 u11 u12 u13 u14 u15 u16 u17 u18 u19 u20 u21 u22 u23 u24 u25 u26 u27 u28 u29 u30 u31 u32 u33 u34 u35 u36 u37 u38 u39 u40 u41 u42 u43 u44 u45 u46 u47 u48 u49 u50 u51 u52 u53 u54 u55 u56 u57 u58 u59 u60 u61 u62 u63 u64 u65 u66 u67 u68 u69 u70 u71 u72 u73 u74 u75 u76 u77 u78 u79 u80 u81 u82 u83 u84 u85 u86 u87 u88 u89 u90 u91 u92 u93 u94 u95 u96 u97 u98 u99 u100 u101 u102 u103 u104 u105 u106 u107 u108 u109 u110 u111 u112 u113 u114 u115 u116 u117 u118 u119 u120 u121 u122 u123 u124 u125 u126 u127 u128 u129 u130 u131 u132 u133 u134 u135 u136 u137 u138 : Value) (K : Act → World → Prop) (hK : ∀ a w1, Code.wp Tryz.prog (sDrop 14 (bodyC Tryz.f3.body)) (bodyPost Tryz.prog Tryz.f3 fun r w' => r = .returned (.bool true) ∧ Below w.heap.size w w') a w1 → K a w1) :
    Code.wp Tryz.prog (sFirst (sDrop 13 (bodyC Tryz.f3.body))) (Exit.then K (bodyPost Tryz.prog Tryz.f3 fun r w' => r = .returned (.bool true) ∧ Below w.heap.size w w')) { tmps := #[u0, u1, (.pointer (some ⟨kx, 0, none⟩)), (.pointer (some ⟨ky, 0, none⟩)), u4, u5, (.pointer (some ⟨ka, 0, none⟩)), (.pointer (some ⟨kb, 0, none⟩)), (.pointer (some ⟨D.k, 0, none⟩)), (.pointer (some ⟨C1.k, 0, none⟩)), (.pointer (some ⟨C2.k, 0, none⟩)), u11, u12, u13, u14, u15, u16, u17, u18, u19, u20, u21, u22, u23, u24, u25, u26, u27, u28, u29, u30, u31, u32, u33, u34, u35, u36, u37, u38, u39, u40, u41, u42, u43, u44, u45, u46, u47, u48, u49, u50, u51, u52, u53, u54, u55, u56, u57, u58, u59, u60, u61, u62, u63, u64, u65, u66, u67, u68, u69, u70, u71, u72, u73, u74, u75, u76, u77, u78, u79, u80, u81, u82, u83, u84, u85, u86, u87, u88, u89, u90, u91, u92, u93, u94, u95, u96, u97, u98, u99, u100, u101, u102, u103, u104, u105, u106, u107, u108, u109, u110, u111, u112, u113, u114, u115, u116, u117, u118, u119, u120, u121, u122, u123, u124, u125, u126, u127, u128, u129, u130, u131, u132, u133, u134, u135, u136, u137, u138], defers := [] } W := by
  have HS := hid_of h
  have HD := hid_of hD
  have H1 := hid_of h1
  have H2 := hid_of h2
  have HN1 := hid_of n1
  have OX := hid_of oX
  have OY := hid_of oY
  have HL := hid_of hl
  have WL := hid_of wl
  have SY := hid_of sy
  have HWN := hid_of hwN
  clear h hD h1 h2 n1 oX oY hl wl sy hwN
  have HRY : Hid (∀ W, Calls Tryz.prog 8 #[rpart Y.hi Y.lo (.slice Y.ao Y.L.length Y.cap) Y.n Y.s Y.c Y.mn Y.mx] W fun e w' => e = .returned (rpart Y.hi Y.lo (.slice Y.ao Y.L.length Y.cap) Y.n Y.s Y.c Y.mn Y.mx) ∧ Below W.heap.size W w') := fun W => ref_any _ _ _ _ _ _ _ _ _ _ W
  have HDM : Hid (∀ V, HH kx ky ka (.slice (some ⟨ga, 0, none⟩) X.L.length (X.L.length + 2)) X Y W V → Calls Tryz.prog 7 #[rpart X.hi X.lo (.slice (some ⟨ga, 0, none⟩) X.L.length (X.L.length + 2)) X.n X.s X.c X.mn X.mx, rpart Y.hi Y.lo (.slice Y.ao Y.L.length Y.cap) Y.n Y.s Y.c Y.mn Y.mx] V fun e w' => ∃ ao m cap O, e = .returned (rpart (t1 X Y) (t0 X Y) (.slice ao m cap) (tn X Y) (tr X Y) (tq X Y) (te0 X Y) (te1 X Y)) ∧ Hid (OwQ O La Y (.slice ao m cap) W V w') ∧ Below V.heap.size V w') := fun V hV => (dmerge ((HS.out.kept (HH.b hV)).gx.sn HL.out) (SY.out.below (HS.out.kept (HH.b hV)).bel) OX.out OY.out HL.out WL.out).mono fun e w' q => by
    obtain ⟨ao, m, cap, O, e1, e2, e3⟩ := q
    exact ⟨ao, m, cap, O, e1, ⟨e2.out.1, e2.out.2, (HH.b hV).size⟩, e3.out⟩
  have HK0 : Hid (HH kx ky ka (.slice (some ⟨ga, 0, none⟩) X.L.length (X.L.length + 2)) X Y W W) := HH.of HS.out.px HS.out.py (seven_cells (hid_of HS.out.ax)).2.2.1 (Below.refl _ _)
  have HKd := hid_of (HH.drew HK0.out)
  have HLt : Hid (kx < W.heap.size ∧ ky < W.heap.size ∧ ka < W.heap.size) := ⟨(Array.getElem?_eq_some_iff.1 HS.out.px).1, (Array.getElem?_eq_some_iff.1 HS.out.py).1, (Array.getElem?_eq_some_iff.1 HS.out.ax).1⟩
  have HPzn : Hid (W.heap.size ≤ W.heap.size) := Nat.le_refl _
  have HNW := hid_of HS.out.nz
  dsimp only [sDrop, sFirst, bodyC, Tryz.f3] at hK ⊢
  go_cut [16] from 86 (fun x V => ∃ k ao m cap O, x = .pointer (some ⟨k, 0, none⟩) ∧ Hid (Dv.At ⟨k, ao, m, cap, O⟩ X Y La N V) ∧ Hid (Below W.heap.size W V))
  case first =>
    go_region_held3 (fun V => HH kx ky ka (.slice (some ⟨ga, 0, none⟩) X.L.length (X.L.length + 2)) X Y W V)
      (first | with_reducible assumption | with_reducible exact HH.chain hk5 HLt HP5 _ _ _ _ _ _ _ _ | with_reducible exact HK0.out | with_reducible exact HKd.out | with_reducible exact HH.allocd HK0.out _ | with_reducible exact HH.kept (by assumption) (bel1 _ _))
      (first
        | (go_at_call 8; with_reducible refine Calls.mono (HRY.out _) ?_; rintro e w4 ⟨rfl, hb4⟩; have hk4 := HH.kept (by assumption) hb4; (first | with_reducible (have HP4 := pz_newd HPzn.out hb4) | skip))
        | (go_at_call 7; with_reducible refine Calls.mono (HDM.out _ (by assumption)) ?_; rintro e w5 ⟨ao, m, cap, O, rfl, HGC, hb5⟩; have hk5 := HH.kept (by assumption) hb5; (first | with_reducible (have HP5 := pz_step HP4 hb5) | with_reducible (have HP5 := pz_new (HH.b hk4).size hb5) | skip); (first | (have x0 := pz_c0 HP5; have f0 := pz_f0 HP5; have x1 := pz_c1 HP5; have f1 := pz_f1 HP5; have x2 := pz_c2 HP5; have f2 := pz_f2 HP5; have x3 := pz_c3 HP5; have f3 := pz_f3 HP5; have x4 := pz_c4 HP5; have f4 := pz_f4 HP5; have x5 := pz_c5 HP5; have f5 := pz_f5 HP5; have x6 := pz_c6 HP5; have f6 := pz_f6 HP5; have x7 := pz_c7 HP5; have f7 := pz_f7 HP5) | skip)))
    · rename_i hHeld
      clear hHeld
      go_wp2_with fail
      go_meet
      have hE := dv_last (X := X) (N := N) (HH.b hk5) HGC HNW.out
      exact ⟨_, ao, m, cap, O, rfl, hE⟩
    · rename_i hHeld
      clear hHeld
      go_wp2_with fail
      go_meet
      have hE := dv_put (X := X) (N := N) (HH.b hk5) HGC HNW.out HP5 (by simp)
      exact ⟨_, ao, m, cap, O, rfl, hE⟩
    · rename_i hHeld
      clear hHeld
      go_wp2_with fail
      go_meet
      have hE := dv_put (X := X) (N := N) (HH.b hk5) HGC HNW.out HP5 (pz_lt HP4)
      exact ⟨_, ao, m, cap, O, rfl, hE⟩
  case rest =>
  obtain ⟨k16, ao, m, cap, O, rfl, HD2, HB1⟩ := hcut
  have hS := HS.out.kept HB1.out
  have hD := HD.out.kept HB1.out
  have h1 := H1.out.kept HB1.out
  have h2 := H2.out.kept HB1.out
  clear HK0 HKd HRY HDM HS HD H1 H2 HB1 HPzn HLt
  go_upto_region 18 with fail
  rename_i hKe
  exact sm_z w _ N X Y La kx ky ka ga kb gb D ⟨k16, ao, m, cap, O⟩ C1 C2 hS hD h1 h2 HD2.out HN1.out OX.out OY.out HL.out WL.out HWN.out _ _ _ _ _ _ _ _ _ _ _ _ _ _ _ _ _ _ _ _ _ _ _ _ _ _ _ _ _ _ _ _ _ _ _ _ _ _ _ _ _ _ _ _ _ _ _ _ _ _ _ _ _ _ _ _ _ _ _ _ _ _ _ _ _ _ _ _ _ _ _ _ _ _ _ _ _ _ _ _ _ _ _ _ _ _ _ _ _ _ _ _ _ _ _ _ _ _ _ _ _ _ _ _ _ _ _ _ _ _ _ _ _ _ _ _ _ _ _ _ _ _ _ _ _ _ _ _ _ _ _ _ _ _ hKe
end Go.Proofs.YtbgdmlekhobjdaaGreat
