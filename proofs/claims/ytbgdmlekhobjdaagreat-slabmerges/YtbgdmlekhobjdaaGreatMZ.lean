/- SlabMerges: the third merge, and what was told held against the document's. Own work of the verifier. -/
import Derived.Test.YtbgdmlekhobjdaaGreatMSA
namespace Go.Proofs.YtbgdmlekhobjdaaGreat
open Go.RowKit
theorem like_lk {C : Cv} {D : Dv} {X Y : Rq} {A : List Cn} {N N' : Nat} {W0 : World} (hC : C.At X Y A N W0) (hD : D.At X Y A N' W0) (oX : X.Ok) (oY : Y.Ok) (hlen : C.O.length ≤ 9223372036854775807) : Hid (∀ W, LK C D X Y W0 W → Calls Tryz.prog 10 #[rpart (t1 X Y) (t0 X Y) (.slice C.ao C.m C.cap) (tn X Y) C.r C.q (te0 X Y) (te1 X Y), rpart (t1 X Y) (t0 X Y) (.slice D.ao D.m D.cap) (tn X Y) (tr X Y) (tq X Y) (te0 X Y) (te1 X Y)] W fun e w' => e = .returned (.bool true) ∧ Below W.heap.size W w') := fun _ hW => both_like (hC.kept (LK.b hW)) (hD.kept (LK.b hW)) oX oY hlen
theorem part_hid (hi lo : Int) (ao : Option Addr) (m cap n s c mn mx : Nat) : Hid (∀ w, Calls Tryz.prog 11 #[part hi lo (.slice ao m cap) n s c mn mx] w fun e w' => e = .returned (rpart hi lo (.slice ao m cap) n s c mn mx) ∧ Below w.heap.size w w') := fun w => part_any hi lo ao m cap n s c mn mx w
theorem own_two_apart {B B' : Nat} {v v' : Value} {O O' : List Cn} {W W' : World} (h : OwnC B v O W) (h' : OwnC B' v' O' W') (hB : W.heap.size ≤ B') : v.ownBlock = none ∨ v.ownBlock ≠ v'.ownBlock := by
  rcases own_atG h with q | ⟨g, q, _, q1⟩
  · exact Or.inl q
  · right
    rw [q]
    intro e
    have := (h'.lt g e.symm).1
    omega
theorem cv_len {C : Cv} {X Y : Rq} {A : List Cn} {N : Nat} {W : World} (h : C.At X Y A N W) (hs : X.L.length + Y.L.length ≤ 600000) (hl : A.length = X.L.length) : C.O.length ≤ 600000 := by
  have l1 := merge_len h.mrg
  rw [List.length_append] at l1
  omega
set_option maxHeartbeats 16000000 in
set_option maxRecDepth 100000 in
theorem sm_z (w W : World) (N : Nat) (X Y : Rq) (La : List Cn) (kx ky ka ga kb gb : Nat) (D D2 : Dv) (C1 C2 : Cv) (h : SA w N X Y La kx ky ka ga kb gb W) (hD : D.At X Y X.L N W) (h1 : C1.At X Y X.L N W) (h2 : C2.At X Y X.L N W) (hD2 : D2.At X Y La N W) (n1 : (Value.slice C1.ao C1.m C1.cap).ownBlock = none ∨ (Value.slice C1.ao C1.m C1.cap).ownBlock ≠ (Value.slice C2.ao C2.m C2.cap).ownBlock) (oX : X.Ok) (oY : Y.Ok) (hl : La.length = X.L.length) (wl : Wc La) (hwN : w.heap.size ≤ N)
    (u0 u1 u2 u3 u4 u5 u11 u12 u13 u14 u15 u17 u18 u19 u20 u21 u22 u23 u24 u25 u26 u27 u28 u29 u30 u31 u32 u33 u34 u35 u36 u37 u38 u39 u40 u41 u42 u43 u44 u45 u46 u47 u48 u49 u50 u51 u52 u53 u54 u55 u56 u57 u58 u59 u60 u61 u62 u63 u64 u65 u66 u67 u68 u69 u70 u71 u72 u73 u74 u75 u76 u77 u78 u79 u80 u81 u82 u83 u84 u85 u86 u87 u88 u89 u90 u91 u92 u93 u94 u95 u96 u97 u98 u99 u100 u101 u102 u103 u104 u105 u106 u107 u108 u109 u110 u111 u112 u113 u114 u115 u116 u117 u118 u119 u120 u121 u122 u123 u124 u125 u126 u127 u128 u129 u130 u131 u132 u133 u134 u135 u136 u137 u138 : Value) (K : Act → World → Prop) (hK : ∀ a w1, Code.wp Tryz.prog (sDrop 15 (bodyC Tryz.f3.body)) (bodyPost Tryz.prog Tryz.f3 fun r w' => r = .returned (.bool true) ∧ Below w.heap.size w w') a w1 → K a w1) :
    Code.wp Tryz.prog (sFirst (sDrop 14 (bodyC Tryz.f3.body))) (Exit.then K (bodyPost Tryz.prog Tryz.f3 fun r w' => r = .returned (.bool true) ∧ Below w.heap.size w w')) { tmps := #[u0, u1, u2, u3, u4, u5, (.pointer (some ⟨ka, 0, none⟩)), (.pointer (some ⟨kb, 0, none⟩)), (.pointer (some ⟨D.k, 0, none⟩)), (.pointer (some ⟨C1.k, 0, none⟩)), (.pointer (some ⟨C2.k, 0, none⟩)), u11, u12, u13, u14, u15, (.pointer (some ⟨D2.k, 0, none⟩)), u17, u18, u19, u20, u21, u22, u23, u24, u25, u26, u27, u28, u29, u30, u31, u32, u33, u34, u35, u36, u37, u38, u39, u40, u41, u42, u43, u44, u45, u46, u47, u48, u49, u50, u51, u52, u53, u54, u55, u56, u57, u58, u59, u60, u61, u62, u63, u64, u65, u66, u67, u68, u69, u70, u71, u72, u73, u74, u75, u76, u77, u78, u79, u80, u81, u82, u83, u84, u85, u86, u87, u88, u89, u90, u91, u92, u93, u94, u95, u96, u97, u98, u99, u100, u101, u102, u103, u104, u105, u106, u107, u108, u109, u110, u111, u112, u113, u114, u115, u116, u117, u118, u119, u120, u121, u122, u123, u124, u125, u126, u127, u128, u129, u130, u131, u132, u133, u134, u135, u136, u137, u138], defers := [] } W := by
  have HN1 := hid_of n1
  have OX := hid_of oX
  have OY := hid_of oY
  have HWN := hid_of hwN
  have HL := hid_of hl
  have HMC := hid_of (h.cmerge oX oY hl wl)
  have HS := hid_of h
  have HSM := hid_of h.sum
  have HD := hid_of hD
  have H1 := hid_of h1
  have H2 := hid_of h2
  have HD2 := hid_of hD2
  obtain ⟨x0, x1, x2, x3, x4, x5, x6⟩ := seven_cells (hid_of h.ax)
  obtain ⟨y0, y1, y2, y3, y4, y5, y6⟩ := seven_cells (hid_of h.ay)
  clear h hD h1 h2 hD2 n1 oX oY hl wl hwN
  have sF := store_f
  have sC := store_c
  dsimp only [sDrop, sFirst, bodyC, Tryz.f3] at hK ⊢
  go_upto_region 19 with (first | (go_at_call 9; with_reducible refine Calls.mono HMC.out ?_; rintro e w2 hq; unfold CmQ at hq; obtain ⟨ao, m, cap, O, r, q, rfl, HQ, HB2⟩ := hq))
  clear HMC x0 x1 x2 x3 x4 x5 x6 y0 y1 y2 y3 y4 y5 y6
  generalize hW3 : w2.alloc (.cells #[.int .i64 (t1 X Y), .int .u64 (t0 X Y), .slice ao m cap, .int .u64 (tn X Y : Int), .complex .f64 r q, .float .f64 (te0 X Y), .float .f64 (te1 X Y)] 32) = W3
  have hb3 : Below w2.heap.size w2 W3 := by rw [← hW3]; exact bel1 _ _
  have hbox : W3.heap[w2.heap.size]? = some (.cells #[.int .i64 (t1 X Y), .int .u64 (t0 X Y), .slice ao m cap, .int .u64 (tn X Y : Int), .complex .f64 r q, .float .f64 (te0 X Y), .float .f64 (te1 X Y)] 32 (0, 0)) := by rw [← hW3]; exact new_1 _ _
  have H3 : Hid (Cv.At ⟨w2.heap.size, ao, m, cap, O, r, q⟩ X Y La W.heap.size W3) := ⟨hbox, HQ.out.1.bel hb3, HQ.out.2.1, HQ.out.2.2.1, HQ.out.2.2.2.1, HQ.out.2.2.2.2.1, HQ.out.2.2.2.2.2⟩
  have HB3 := hid_of (bt HB2.out hb3)
  have HN2 := hid_of (own_two_apart H1.out.own H3.out.own (Nat.le_refl _))
  have HN3 := hid_of (own_two_apart H2.out.own H3.out.own (Nat.le_refl _))
  have hNz := HS.out.nz
  have J1 := hid_of (H1.out.kept HB3.out)
  have J2 := hid_of (H2.out.kept HB3.out)
  have JD := hid_of (HD.out.kept HB3.out)
  have JD2 := hid_of (HD2.out.kept HB3.out)
  have JB := hid_of (HS.out.kept HB3.out).bel
  have HNz := hid_of (Nat.le_trans HWN.out hNz)
  clear hW3 hb3 hbox HB2 HB3 HQ H1 H2 HD HD2 HS hNz
  generalize W.heap.size = NN at *
  generalize w2.heap.size = k17 at *
  have HK0 : Hid (LK ⟨k17, ao, m, cap, O, r, q⟩ D2 X Y W3 W3) := LK.of H3.out JD2.out (Below.refl _ _)
  have HPT := part_hid (t1 X Y) (t0 X Y) ao m cap (tn X Y) r q (te0 X Y) (te1 X Y)
  have HLI := like_lk H3.out JD2.out OX.out OY.out (by have := cv_len H3.out HSM.out HL.out; omega)
  go_cut [18] from 108 (fun x V => x = .bool true ∧ Hid (Below W3.heap.size W3 V))
  case first =>
    have HKd := hid_of (LK.drew HK0.out)
    go_region_held3 (fun V => LK ⟨k17, ao, m, cap, O, r, q⟩ D2 X Y W3 V) (first | with_reducible assumption | with_reducible exact HK0.out | with_reducible exact HKd.out)
      (first
        | (go_at_call 11; with_reducible refine Calls.mono (HPT.out _) ?_; rintro e w4 ⟨rfl, hb4⟩; have hk4 := LK.kept (by assumption) hb4)
        | (go_at_call 10; with_reducible refine Calls.mono (HLI.out _ (by assumption)) ?_; rintro e w5 ⟨rfl, hb5⟩; have hk5 := LK.kept (by assumption) hb5))
    all_goals
      rename_i hHeld
      clear hHeld
      go_wp2_with fail
      go_meet
      exact ⟨rfl, LK.b hk5⟩
  case rest =>
  obtain ⟨rfl, HB5⟩ := hcut
  have I1 := hid_of (J1.out.kept HB5.out)
  have I2 := hid_of (J2.out.kept HB5.out)
  have I3 := hid_of (H3.out.kept HB5.out)
  have ID := hid_of (JD.out.kept HB5.out)
  have IB := hid_of (bt JB.out HB5.out)
  clear HK0 HPT HLI JD2 J1 J2 JD JB HB5 H3
  go_upto_region 20 with fail
  clear sF sC
  have HK0 : Hid (LK C1 D X Y wc wc) := LK.of I1.out ID.out (Below.refl _ _)
  have HPT := part_hid (t1 X Y) (t0 X Y) C1.ao C1.m C1.cap (tn X Y) C1.r C1.q (te0 X Y) (te1 X Y)
  have HLI := like_lk I1.out ID.out OX.out OY.out (by have := cv_len I1.out HSM.out rfl; omega)
  go_cut [19] from 112 (fun x V => x = .bool true ∧ Hid (Below wc.heap.size wc V))
  case first =>
    have HKd := hid_of (LK.drew HK0.out)
    go_region_held3 (fun V => LK C1 D X Y wc V) (first | with_reducible assumption | with_reducible exact HK0.out | with_reducible exact HKd.out)
      (first
        | (go_at_call 11; with_reducible refine Calls.mono (HPT.out _) ?_; rintro e w4 ⟨rfl, hb4⟩; have hk4 := LK.kept (by assumption) hb4)
        | (go_at_call 10; with_reducible refine Calls.mono (HLI.out _ (by assumption)) ?_; rintro e w5 ⟨rfl, hb5⟩; have hk5 := LK.kept (by assumption) hb5))
    all_goals
      rename_i hHeld
      clear hHeld
      go_wp2_with fail
      go_meet
      exact ⟨rfl, LK.b hk5⟩
  case rest =>
  obtain ⟨rfl, HB6⟩ := hcut
  have E1 := I1.out.kept HB6.out
  have E2 := I2.out.kept HB6.out
  have E3 := I3.out.kept HB6.out
  have EB := bt IB.out HB6.out
  clear HK0 HPT HLI I1 I2 I3 ID IB HB6
  go_upto_region 21 with fail
  rename_i hKe
  exact sm_end w _ C1.k C2.k k17 C1.m C2.m m C1.cap C2.cap cap C1.ao C2.ao ao C1.O C2.O O E1.pb E2.pb E3.pb (own_leG E1.own HWN.out) (own_leG E2.own HWN.out) (own_leG E3.own HNz.out) HN1.out HN2.out HN3.out (cv_len E1 HSM.out rfl) (cv_len E2 HSM.out rfl) (cv_len E3 HSM.out HL.out) EB _ _ _ _ _ _ _ _ _ _ _ _ _ _ _ _ _ _ _ _ _ _ _ _ _ _ _ _ _ _ _ _ _ _ _ _ _ _ _ _ _ _ _ _ _ _ _ _ _ _ _ _ _ _ _ _ _ _ _ _ _ _ _ _ _ _ _ _ _ _ _ _ _ _ _ _ _ _ _ _ _ _ _ _ _ _ _ _ _ _ _ _ _ _ _ _ _ _ _ _ _ _ _ _ _ _ _ _ _ _ _ _ _ _ _ _ _ _ _ _ _ _ _ _ _ _ _ _ _ _ _ _ _ _ _ hKe
end Go.Proofs.YtbgdmlekhobjdaaGreat
