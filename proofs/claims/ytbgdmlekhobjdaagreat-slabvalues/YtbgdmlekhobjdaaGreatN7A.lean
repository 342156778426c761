/- VALUES: sameValue's second half. Own work of the verifier. -/
import Derived.Test.YtbgdmlekhobjdaaGreatN6
import Derived.Test.YtbgdmlekhobjdaaGreatV4
import Derived.BigQuiet
namespace Go.Proofs.YtbgdmlekhobjdaaGreat
open Go.RowKit
theorem SLb.form {W : World} {ao : Option Addr} {n cap : Nat} {L : List Lb} (h : SLb W (.slice ao n cap) L) : ∃ b o, (0 < L.length → ao = some ⟨b, o, none⟩) ∧ RowL W b o L := by
  rcases h with ⟨h, rfl⟩ | ⟨b, o, cap', h, _, hr⟩
  · exact ⟨0, 0, fun k => by simp at k, fun i hi => by simp at hi⟩
  · cases h
    exact ⟨b, o, fun _ => rfl, hr⟩
set_option maxRecDepth 10000 in
set_option maxHeartbeats 8000000 in
theorem sv_rest (kd H Lo : Int) (nm hp : ByteArray) (la1 la2 ca1 ca2 : Option Addr) (lc1 lc2 cm1 cc1 cm2 cc2 N r1 r2 mn mx : Nat) (D : List Lb) (B : Nat) (w W : World) (hX : W.heap[B]? = some (.cells #[.int .i64 kd, .string nm, .string hp, .slice la1 D.length lc1, .int .i64 H, .int .u64 Lo, .slice ca1 cm1 cc1, .int .u64 (N : Int), .float .f64 r1, .float .f64 mn, .float .f64 mx] 58 (0, 0))) (hY : W.heap[B + 1]? = some (.cells #[.int .i64 kd, .string nm, .string hp, .slice la2 D.length lc2, .int .i64 H, .int .u64 Lo, .slice ca2 cm2 cc2, .int .u64 (N : Int), .float .f64 r2, .float .f64 mn, .float .f64 mx] 58 (0, 0))) (h1 : SLb W (.slice la1 D.length lc1) D) (h2 : SLb W (.slice la2 D.length lc2) D) (hlD : D.length ≤ 1048576) (hb : Below w.heap.size w W)
    (u0 u1 u4 u7 u8 u9 u10 u11 u12 u13 u14 u15 u16 u17 u18 u19 u20 u21 u22 u23 u24 u25 u26 u27 u28 u29 u30 u31 u32 u33 u34 u35 u36 u37 u38 u39 u40 u41 u42 u43 u44 u45 u46 u47 u48 u49 u50 u51 u52 u53 u54 u55 u56 u57 u58 u59 u60 u61 u62 u63 u64 u65 u66 u67 u68 u69 u70 u71 u72 u73 u74 u75 u76 u77 u78 u79 u80 u81 u82 u83 u84 u85 u86 u87 u88 u89 u90 u91 u92 u93 u94 u95 u96 u97 u98 u99 u100 u101 u102 u103 u104 u105 u106 u107 u108 u109 u110 u111 u112 u113 u114 u115 u116 : Value) (K1 K2 : Act → World → Prop) (hK1 : ∀ a w1, Code.wp Tryz.prog (sDrop 4 (bodyC Tryz.f17.body)) (bodyPost Tryz.prog Tryz.f17 fun e w' => e = .returned (.bool true) ∧ Below w.heap.size w w') a w1 → K1 a w1) (hK2 : ∀ a w1, Code.wp Tryz.prog (sDrop 1 (sFirst (sDrop 3 (bodyC Tryz.f17.body)))) (Exit.then K1 (bodyPost Tryz.prog Tryz.f17 fun e w' => e = .returned (.bool true) ∧ Below w.heap.size w w')) a w1 → K2 a w1) :
    Code.wp Tryz.prog (sFirst (sFirst (sDrop 3 (bodyC Tryz.f17.body)))) (Exit.then K2 (Exit.then K1 (bodyPost Tryz.prog Tryz.f17 fun e w' => e = .returned (.bool true) ∧ Below w.heap.size w w'))) { tmps := #[u0, u1, (.pointer (some ⟨B, 0, none⟩)), (.pointer (some ⟨B + 1, 0, none⟩)), u4, (.bool true), (.bool true), u7, u8, u9, u10, u11, u12, u13, u14, u15, u16, u17, u18, u19, u20, u21, u22, u23, u24, u25, u26, u27, u28, u29, u30, u31, u32, u33, u34, u35, u36, u37, u38, u39, u40, u41, u42, u43, u44, u45, u46, u47, u48, u49, u50, u51, u52, u53, u54, u55, u56, u57, u58, u59, u60, u61, u62, u63, u64, u65, u66, u67, u68, u69, u70, u71, u72, u73, u74, u75, u76, u77, u78, u79, u80, u81, u82, u83, u84, u85, u86, u87, u88, u89, u90, u91, u92, u93, u94, u95, u96, u97, u98, u99, u100, u101, u102, u103, u104, u105, u106, u107, u108, u109, u110, u111, u112, u113, u114, u115, u116], defers := [] } W := by
  have HX := hid_of hX
  have HY := hid_of hY
  have HB := hid_of hb
  obtain ⟨b1, o1, g1, hr1⟩ := h1.form
  obtain ⟨b2, o2, g2, hr2⟩ := h2.form
  have HR1 := hid_of hr1
  have HR2 := hid_of hr2
  clear hX hY hb h1 h2 hr1 hr2
  obtain ⟨x0, x1, x2, x3, x4, x5, x6, x7, x8, x9, x10⟩ := eleven_cells HX
  obtain ⟨y0, y1, y2, y3, y4, y5, y6, y7, y8, y9, y10⟩ := eleven_cells HY
  dsimp only [sDrop, sFirst, bodyC, Tryz.f17] at hK1 hK2 ⊢
  go_upto_region 6 with fail
  go_loopw [7] (fun x V => ∃ (i : Nat), i ≤ D.length ∧ x = .int .i64 (i : Int) ∧ Hid (Below W.heap.size W V)) (fun x _ => D.length - (intOf x).toNat)
  case atStart => exact ⟨0, by omega, rfl, Below.refl _ _⟩
  case round =>
    obtain ⟨i, hi, rfl, HBi⟩ := hrel
    have x3' := cellB HBi.out x3
    have y3' := cellB HBi.out y3
    by_cases hlt : i < D.length
    · have hlt' : (i : Int) < (D.length : Int) := by omega
      obtain rfl := g1 (by omega)
      obtain rfl := g2 (by omega)
      obtain ⟨c0, c1⟩ := HR1.out.below HBi.out i hlt
      obtain ⟨d0, d1⟩ := HR2.out.below HBi.out i hlt
      generalize D[i] = di at c0 c1 d0 d1
      obtain ⟨s1, s2⟩ := di
      simp only at c0 c1 d0 d1
      clear x0 y0 x1 y1 x2 y2 x3 y3 x4 y4 x5 y5 x6 y6 x7 y7 x8 y8 x9 y9 x10 y10 g1 g2 HR1 HR2 HX HY
      go_upto_region 8 with fail
      go_quiet (fail)
      go_wp2_with fail
      exact ⟨⟨i + 1, by omega, by go_num, bel_drewNB HBi.out nq⟩, by simp [intOf]; omega⟩
    · have hlt' : ¬ (i : Int) < (D.length : Int) := by omega
      have HBe := hid_of (bt HB.out HBi.out)
      clear x0 y0 x1 y1 x2 y2 x3 y3 x4 y4 x5 y5 x6 y6 x7 y7 x8 y8 x9 y9 x10 y10 HX HY HR1 HR2
      go_wp2_with fail
      go_ret
      exact ⟨rfl, HBe.out⟩
end Go.Proofs.YtbgdmlekhobjdaaGreat
/- VALUES: sameValue, where it holds. Own work of the verifier. -/
namespace Go.Proofs.YtbgdmlekhobjdaaGreat
open Go.RowKit
set_option maxRecDepth 10000 in
set_option maxHeartbeats 8000000 in
theorem svalue_true (kd H Lo : Int) (nm hp : ByteArray) (la1 la2 ca1 ca2 : Option Addr) (lc1 lc2 cm1 cc1 cm2 cc2 N r1 r2 mn mx : Nat) (D : List Lb) (C : List Cn) (w : World) (hA : SN w (.slice ca1 cm1 cc1) C) (hC : SN w (.slice ca2 cm2 cc2) C) (h1 : SLb w (.slice la1 D.length lc1) D) (h2 : SLb w (.slice la2 D.length lc2) D) (hl : C.length ≤ 9223372036854775807) (hlD : D.length ≤ 1048576) (b1 : r1 < 18446744073709551616) (b2 : r2 < 18446744073709551616) (b3 : mn < 18446744073709551616) (b4 : mx < 18446744073709551616) (he : Soft.one r1 = Soft.one r2) :
    Calls Tryz.prog 17 #[vval kd nm hp (.slice la1 D.length lc1) H Lo (.slice ca1 cm1 cc1) N r1 mn mx, vval kd nm hp (.slice la2 D.length lc2) H Lo (.slice ca2 cm2 cc2) N r2 mn mx] w fun e w' => e = .returned (.bool true) ∧ Below w.heap.size w w' := by
  obtain ⟨w2, hw2⟩ : ∃ w2, (w.alloc (.cells #[.int .i64 kd, .string nm, .string hp, .slice la1 D.length lc1, .int .i64 H, .int .u64 Lo, .slice ca1 cm1 cc1, .int .u64 (N : Int), .float .f64 r1, .float .f64 mn, .float .f64 mx] 58)).alloc (.cells #[.int .i64 kd, .string nm, .string hp, .slice la2 D.length lc2, .int .i64 H, .int .u64 Lo, .slice ca2 cm2 cc2, .int .u64 (N : Int), .float .f64 r2, .float .f64 mn, .float .f64 mx] 58) = w2 := ⟨_, rfl⟩
  have HB2 : Hid (Below w.heap.size w w2) := by rw [← hw2]; exact bel2 _ _ _
  have HX : Hid (w2.heap[w.heap.size]? = some (.cells #[.int .i64 kd, .string nm, .string hp, .slice la1 D.length lc1, .int .i64 H, .int .u64 Lo, .slice ca1 cm1 cc1, .int .u64 (N : Int), .float .f64 r1, .float .f64 mn, .float .f64 mx] 58 (0, 0))) := by rw [← hw2]; exact Pr.new1 _ _ _
  have HY : Hid (w2.heap[w.heap.size + 1]? = some (.cells #[.int .i64 kd, .string nm, .string hp, .slice la2 D.length lc2, .int .i64 H, .int .u64 Lo, .slice ca2 cm2 cc2, .int .u64 (N : Int), .float .f64 r2, .float .f64 mn, .float .f64 mx] 58 (0, 0))) := by rw [← hw2]; exact Pr.new2 _ _ _
  have HSC : Hid (Calls Tryz.prog 33 #[.slice ca1 cm1 cc1, .slice ca2 cm2 cc2] w2 fun e w' => e = .returned (.bool true) ∧ Below w2.heap.size w2 w') := by
    have := scounts_sn (hA.below HB2.out) (hC.below HB2.out) hl hl
    rw [decide_eq_true (rfl : C = C)] at this
    exact this
  have HE1 : Hid (∀ W, Calls Tryz.prog 34 #[.int .u64 (r1 : Int), .int .u64 (r2 : Int)] W fun e w' => e = .returned (.bool true) ∧ w' = W) := fun W => by
    have := Pr.zsame r1 r2 b1 b2 W
    rw [decide_eq_true he] at this
    exact this
  have HE2 : Hid (∀ W, Calls Tryz.prog 34 #[.int .u64 (mn : Int), .int .u64 (mn : Int)] W fun e w' => e = .returned (.bool true) ∧ w' = W) := fun W => by
    have := Pr.zsame mn mn b3 b3 W
    rw [decide_eq_true (rfl : Soft.one mn = Soft.one mn)] at this
    exact this
  have HE3 : Hid (∀ W, Calls Tryz.prog 34 #[.int .u64 (mx : Int), .int .u64 (mx : Int)] W fun e w' => e = .returned (.bool true) ∧ w' = W) := fun W => by
    have := Pr.zsame mx mx b4 b4 W
    rw [decide_eq_true (rfl : Soft.one mx = Soft.one mx)] at this
    exact this
  have HBT : Hid (∀ x W, Calls Tryz.prog 35 #[.float .f64 x] W fun e w' => e = .returned (.int .u64 (x : Int)) ∧ w' = W) := bits_any
  have HL1 := hid_of (h1.below HB2.out)
  have HL2 := hid_of (h2.below HB2.out)
  obtain ⟨x0, x1, x2, x3, x4, x5, x6, x7, x8, x9, x10⟩ := eleven_cells HX
  obtain ⟨y0, y1, y2, y3, y4, y5, y6, y7, y8, y9, y10⟩ := eleven_cells HY
  clear hA hC h1 h2 he b1 b2 b3 b4
  go_enter Tryz.func17, Tryz.ntmps17
  go_upto_region 2 with (first
    | (go_at_call 33; with_reducible refine Calls.mono HSC.out ?_; rintro e w3 ⟨rfl, hb3⟩))
  clear hw2 HSC x0 y0 x1 y1 x2 y2 x3 y3 x4 y4 x5 y5 x6 y6 x7 y7 x8 y8 x9 y9 x10 y10
  have HX3 := hid_of (hkN HX.out hb3)
  have HY3 := hid_of (hkN HY.out hb3)
  have HB3 := hid_of (bt HB2.out hb3)
  have HM1 := hid_of (HL1.out.below hb3)
  have HM2 := hid_of (HL2.out.below hb3)
  clear HX HY HB2 HL1 HL2 hb3
  generalize hB : w.heap.size = B at *
  have HBB := hid_of hB
  clear hB
  obtain ⟨x0, x1, x2, x3, x4, x5, x6, x7, x8, x9, x10⟩ := eleven_cells HX3
  obtain ⟨y0, y1, y2, y3, y4, y5, y6, y7, y8, y9, y10⟩ := eleven_cells HY3
  go_quiet (first
    | (go_at_call 35; with_reducible exact Calls.quiet_of_same (HBT.out _ _))
    | (go_at_call 34; with_reducible exact Calls.quiet_of_same (HE1.out _))
    | (go_at_call 34; with_reducible exact Calls.quiet_of_same (HE2.out _))
    | (go_at_call 34; with_reducible exact Calls.quiet_of_same (HE3.out _)))
  have hX4 := hkN HX3.out (bel_drewNB (Below.refl w3.heap.size w3) nq)
  have hY4 := hkN HY3.out (bel_drewNB (Below.refl w3.heap.size w3) nq)
  have h14 := HM1.out.below (bel_drewNB (Below.refl w3.heap.size w3) nq)
  have h24 := HM2.out.below (bel_drewNB (Below.refl w3.heap.size w3) nq)
  have hb4 : Below w.heap.size w (w3.drewN nq) := by rw [HBB.out]; exact bel_drewNB HB3.out nq
  clear HX3 HY3 HM1 HM2 HB3 HBT HE1 HE2 HE3 x0 y0 x1 y1 x2 y2 x3 y3 x4 y4 x5 y5 x6 y6 x7 y7 x8 y8 x9 y9 x10 y10
  go_upto_region 3 with fail
  rename_i hKa _ hKb
  exact sv_rest kd H Lo nm hp la1 la2 ca1 ca2 lc1 lc2 cm1 cc1 cm2 cc2 N r1 r2 mn mx D B w _ hX4 hY4 h14 h24 hlD hb4 _ _ _ _ _ _ _ _ _ _ _ _ _ _ _ _ _ _ _ _ _ _ _ _ _ _ _ _ _ _ _ _ _ _ _ _ _ _ _ _ _ _ _ _ _ _ _ _ _ _ _ _ _ _ _ _ _ _ _ _ _ _ _ _ _ _ _ _ _ _ _ _ _ _ _ _ _ _ _ _ _ _ _ _ _ _ _ _ _ _ _ _ _ _ _ _ _ _ _ _ _ _ _ _ _ _ _ _ _ _ _ _ _ _ _ hKa hKb
end Go.Proofs.YtbgdmlekhobjdaaGreat
