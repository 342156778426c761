/- SlabValues: the end of its walk. Own work of the verifier. -/
import Derived.Test.YtbgdmlekhobjdaaGreatN7A
import Derived.Test.YtbgdmlekhobjdaaGreatMSA
namespace Go.Proofs.YtbgdmlekhobjdaaGreat
open Go.RowKit
/-- A value's box: its labels and its counts. -/
def VX (k : Nat) (lv cv : Value) (W : World) : Prop := ∃ u0 u1 u2 u4 u5 u7 u8 u9 u10, W.heap[k]? = some (.cells #[u0, u1, u2, lv, u4, u5, cv, u7, u8, u9, u10] 58 (0, 0))
theorem VX.l {k : Nat} {lv cv : Value} {W : World} (h : VX k lv cv W) : W.cell? ⟨k, 3, none⟩ = some lv := by
  obtain ⟨u0, u1, u2, u4, u5, u7, u8, u9, u10, h⟩ := h
  simp [World.cell?, h]
theorem VX.c {k : Nat} {lv cv : Value} {W : World} (h : VX k lv cv W) : W.cell? ⟨k, 6, none⟩ = some cv := by
  obtain ⟨u0, u1, u2, u4, u5, u7, u8, u9, u10, h⟩ := h
  simp [World.cell?, h]
theorem VX.bel {k : Nat} {lv cv : Value} {W W' : World} (h : VX k lv cv W) (hb : Below W.heap.size W W') : VX k lv cv W' := by
  obtain ⟨u0, u1, u2, u4, u5, u7, u8, u9, u10, h⟩ := h
  exact ⟨u0, u1, u2, u4, u5, u7, u8, u9, u10, hkN h hb⟩
/-- What a call of add leaves of other blocks. -/
def Oth (W W' : World) : Prop := ∀ (j : Nat) (cs : Array Value) (t : TypeId), W.heap[j]? = some (.cells cs t (0, 0)) → 45 ≠ t → 25 ≠ t → t ≠ 49 → W'.heap[j]? = some (.cells cs t (0, 0))
theorem VX.next {k : Nat} {lv cv : Value} {W W' : World} (h : VX k lv cv W) (hb : Oth W W') : VX k lv cv W' := by
  obtain ⟨u0, u1, u2, u4, u5, u7, u8, u9, u10, h⟩ := h
  exact ⟨u0, u1, u2, u4, u5, u7, u8, u9, u10, hb _ _ _ h (by decide) (by decide) (by decide)⟩
theorem OwnL.next {B : Nat} {v : Value} {L : List Lb} {W W' : World} (h : OwnL B v L W) (hb : Oth W W') : OwnL B v L W' := by
  refine ⟨h.1, ?_⟩
  rcases h.2 with hn | ⟨g, cap, cur, q, q1, hg, rest⟩
  · exact .inl hn
  · exact .inr ⟨g, cap, cur, q, q1, hb _ _ _ hg (by decide) (by decide) (by decide), rest⟩
theorem Px.next {k : Nat} {X : Rq} {W W' : World} (h : Px k X W) (hb : Oth W W') : Px k X W' := hb _ _ _ h (by decide) (by decide) (by decide)
theorem Ax.next {k g : Nat} {X : Rq} {W W' : World} (h : Ax k g X W) (hb : Oth W W') : Ax k g X W' := hb _ _ _ h (by decide) (by decide) (by decide)
theorem Gx.own {g : Nat} {L : List Cn} {W : World} {B : Nat} (h : Gx g L W) (hB : B ≤ g) (hl : L.length ≤ 1048576) : OwnC B (.slice (some ⟨g, 0, none⟩) (L.length + 2) (L.length + 2)) (L ++ [(91, 0), (92, 0)]) W := by
  have e : (L ++ [((91 : Int), 0), ((92 : Int), 0)]).length = L.length + 2 := by simp
  refine ⟨by rw [fl_length], Or.inr ⟨g, L.length + 2, (fl (L ++ [(91, 0), (92, 0)])).toArray, by rw [e], hB, h, by rw [e]; exact Nat.le_refl _, by unfold maxLen; omega, by rw [List.size_toArray, fl_length, e], ?_⟩⟩
  rw [List.toList_toArray, List.take_of_length_le (by rw [fl_length]; exact Nat.le_refl _)]
theorem Gx.of_own {g : Nat} {L : List Cn} {W : World} {B : Nat} (h : OwnC B (.slice (some ⟨g, 0, none⟩) (L.length + 2) (L.length + 2)) (L ++ [(91, 0), (92, 0)]) W) : Gx g L W := by
  have e : (L ++ [((91 : Int), 0), ((92 : Int), 0)]).length = L.length + 2 := by simp
  rcases h.2 with ⟨q, _⟩ | ⟨g', cap, cur, q, _, hg, _, _, hs, ht⟩
  · cases q
  · simp only [Value.slice.injEq, Option.some.injEq, Addr.mk.injEq, and_true] at q
    obtain ⟨rfl, _, rfl⟩ := q
    have hc : cur = (fl (L ++ [(91, 0), (92, 0)])).toArray := by
      apply Array.toList_inj.1
      rw [List.toList_toArray, ← ht, List.take_of_length_le (by rw [Array.length_toList, hs, e]; exact Nat.le_refl _)]
    rw [hc] at hg
    exact hg
set_option maxHeartbeats 16000000 in
set_option maxRecDepth 100000 in
theorem sv_end (w W : World) (X : Rq) (kx ka ga k10 k11 cm1 cc1 cm2 cc2 lm1 lc1 lm2 lc2 mm1 mc1 mm2 mc2 n : Nat) (c1 c2 l1 l2 am1 am2 : Option Addr) (C : List Cn) (p10 : VX k10 (.slice l1 lm1 lc1) (.slice c1 cm1 cc1) W) (p11 : VX k11 (.slice l2 lm2 lc2) (.slice c2 cm2 cc2) W) (o1 : OwnC w.heap.size (.slice c1 cm1 cc1) C W) (o2 : OwnC w.heap.size (.slice c2 cm2 cc2) C W) (q1 : OwnL w.heap.size (.slice l1 lm1 lc1) (rl n ([111, 110, 101], [])) W) (q2 : OwnL w.heap.size (.slice l2 lm2 lc2) (rl n ([116, 119, 111], [])) W) (r1 : OwnL w.heap.size (.slice am1 mm1 mc1) (rl (n + 20) ([111, 110, 101], [])) W) (r2 : OwnL w.heap.size (.slice am2 mm2 mc2) (rl (n + 20) ([116, 119, 111], [])) W)
    (n1 : (Value.slice c1 cm1 cc1).ownBlock = none ∨ (Value.slice c1 cm1 cc1).ownBlock ≠ (Value.slice c2 cm2 cc2).ownBlock) (n2 : some ga ≠ (Value.slice c1 cm1 cc1).ownBlock) (n3 : some ga ≠ (Value.slice c2 cm2 cc2).ownBlock) (hl : C.length ≤ 600000) (hn : n ≤ 1048576) (px : Px kx X W) (ax : Ax ka ga X W) (gx : Gx ga X.L W) (hga : w.heap.size ≤ ga) (oX : X.Ok) (sx : SN w (.slice X.ao X.L.length X.cap) X.L) (hb : Below w.heap.size w W)
    (u0 u1 u2 u4 u5 u7 u8 u9 u12 u13 u14 u15 u19 u20 u21 u22 u23 u24 u25 u26 u27 u28 u29 u30 u31 u32 u33 u34 u35 u36 u37 u38 u39 u40 u41 u42 u43 u44 u45 u46 u47 u48 u49 u50 u51 u52 u53 u54 u55 u56 u57 u58 u59 u60 u61 u62 u63 u64 u65 u66 u67 u68 u69 u70 u71 u72 u73 u74 u75 u76 u77 u78 u79 u80 u81 u82 u83 u84 u85 u86 u87 u88 u89 u90 u91 u92 u93 u94 u95 u96 u97 u98 u99 u100 u101 u102 u103 u104 u105 u106 u107 u108 u109 u110 u111 u112 u113 u114 u115 u116 u117 u118 u119 u120 u121 u122 u123 u124 u125 u126 u127 u128 u129 u130 u131 u132 u133 u134 u135 u136 u137 u138 u139 u140 u141 u142 u143 u144 u145 u146 u147 u148 u149 u150 u151 u152 u153 u154 u155 u156 u157 u158 u159 u160 u161 u162 u163 u164 u165 u166 u167 u168 u169 u170 u171 : Value) (K : Act → World → Prop) (hK : ∀ a w1, Code.wp Tryz.prog (sDrop 20 (bodyC Tryz.f4.body)) (bodyPost Tryz.prog Tryz.f4 fun r w' => r = .returned (.bool true) ∧ Below w.heap.size w w') a w1 → K a w1) :
    Code.wp Tryz.prog (sFirst (sDrop 19 (bodyC Tryz.f4.body))) (Exit.then K (bodyPost Tryz.prog Tryz.f4 fun r w' => r = .returned (.bool true) ∧ Below w.heap.size w w')) { tmps := #[u0, u1, u2, (.pointer (some ⟨kx, 0, none⟩)), u4, u5, (.pointer (some ⟨ka, 0, none⟩)), u7, u8, u9, (.pointer (some ⟨k10, 0, none⟩)), (.pointer (some ⟨k11, 0, none⟩)), u12, u13, u14, u15, (.bool true), (.slice am1 mm1 mc1), (.slice am2 mm2 mc2), u19, u20, u21, u22, u23, u24, u25, u26, u27, u28, u29, u30, u31, u32, u33, u34, u35, u36, u37, u38, u39, u40, u41, u42, u43, u44, u45, u46, u47, u48, u49, u50, u51, u52, u53, u54, u55, u56, u57, u58, u59, u60, u61, u62, u63, u64, u65, u66, u67, u68, u69, u70, u71, u72, u73, u74, u75, u76, u77, u78, u79, u80, u81, u82, u83, u84, u85, u86, u87, u88, u89, u90, u91, u92, u93, u94, u95, u96, u97, u98, u99, u100, u101, u102, u103, u104, u105, u106, u107, u108, u109, u110, u111, u112, u113, u114, u115, u116, u117, u118, u119, u120, u121, u122, u123, u124, u125, u126, u127, u128, u129, u130, u131, u132, u133, u134, u135, u136, u137, u138, u139, u140, u141, u142, u143, u144, u145, u146, u147, u148, u149, u150, u151, u152, u153, u154, u155, u156, u157, u158, u159, u160, u161, u162, u163, u164, u165, u166, u167, u168, u169, u170, u171], defers := [] } W := by
  have HB := hid_of hb
  have H10 := hid_of p10
  have H11 := hid_of p11
  have O1 := hid_of o1
  have O2 := hid_of o2
  have Q1 := hid_of q1
  have Q2 := hid_of q2
  have R1 := hid_of r1
  have R2 := hid_of r2
  have N1 := hid_of n1
  have N2 := hid_of n2
  have N3 := hid_of n3
  have HL := hid_of hl
  have HN := hid_of hn
  have PX := hid_of px
  have AX := hid_of ax
  have GX := hid_of (gx.own hga (Nat.le_trans oX.hl (by decide)))
  have OX := hid_of oX
  have SX := hid_of sx
  clear p10 p11 o1 o2 q1 q2 r1 r2 n1 n2 n3 hl hn px ax gx hga oX sx hb
  dsimp only [sDrop, sFirst, bodyC, Tryz.f4] at hK ⊢
  go_upto_region 26 with fail
  generalize hW1 : W.alloc (.cells #[.slice none 0 0, .slice none 0 0, .int .i64 0, .bool false] 49) = W1
  have hb1 : Below W.heap.size W W1 := by rw [← hW1]; exact bel1 _ _
  have HBK := hid_of (BK.new w.heap.size W)
  rw [hW1] at HBK
  have HS1 : Hid (w.heap.size ≤ W.heap.size) := HB.out.size
  have HS2 : Hid (W.heap.size ≤ W1.heap.size) := hb1.size
  have HB1 := hid_of (bt HB.out hb1)
  have G10 := hid_of (H10.out.bel hb1)
  have G11 := hid_of (H11.out.bel hb1)
  have P1 := hid_of (O1.out.bel hb1)
  have P2 := hid_of (O2.out.bel hb1)
  have S1 := hid_of (Q1.out.bel hb1)
  have S2 := hid_of (Q2.out.bel hb1)
  have T1 := hid_of (R1.out.bel hb1)
  have T2 := hid_of (R2.out.bel hb1)
  have GX1 := hid_of (GX.out.bel hb1)
  have PX1 := hid_of (show Px kx X W1 from hkN PX.out hb1)
  have AX1 := hid_of (show Ax ka ga X W1 from hkN AX.out hb1)
  clear hW1 hb1 H10 H11 O1 O2 Q1 Q2 R1 R2 GX PX AX HB
  generalize W.heap.size = p at *
  have x10 := G10.out.c
  have CA := hid_of (badd_next w.heap.size p [] _ _ 0 _ C _ HBK.out HS1.out (Nat.le_trans HS1.out HS2.out) P1.out (apart_nil _) (by simp) (by have := HL.out; omega))
  go_upto_region 27 with (first | (go_at_call 13; with_reducible refine Calls.mono CA.out ?_; rintro e W2 ⟨rfl, HNX⟩))
  obtain ⟨g1, vl2, vg2, HBK2, HG1, HB2, HR2, HT2⟩ := HNX
  have hT2 : Oth W1 W2 := HT2.out
  have U10 := hid_of (G10.out.next hT2)
  have U11 := hid_of (G11.out.next hT2)
  have P2b := hid_of (HR2.out _ _ P2.out (nsym N1.out))
  have GX2 := hid_of (HR2.out _ _ GX1.out (Or.inr N2.out))
  have S1b := hid_of (S1.out.next hT2)
  have S2b := hid_of (S2.out.next hT2)
  have T1b := hid_of (T1.out.next hT2)
  have T2b := hid_of (T2.out.next hT2)
  have PX2 := hid_of (PX1.out.next hT2)
  have AX2 := hid_of (AX1.out.next hT2)
  have HS3 : Hid (W1.heap.size ≤ W2.heap.size) := HB2.out.size
  have HB2' := hid_of (HB1.out.trans HB2.out)
  have HAp2 := hid_of (apart_cons (k := C.length) (apart_nil _) N1.out HG1.out P2.out (Nat.le_refl _))
  clear CA x10 hT2 HBK HB1 HB2 HT2 HR2 HG1 G10 G11 P1 P2 GX1 S1 S2 T1 T2 PX1 AX1
  have x11 := U11.out.c
  have CB := hid_of (badd_next w.heap.size p _ _ _ _ _ C _ HBK2.out HS1.out (Nat.le_trans HS1.out (Nat.le_trans HS2.out HS3.out)) P2b.out HAp2.out (by simp) (by have := HL.out; omega))
  go_upto_region 28 with (first | (go_at_call 13; with_reducible refine Calls.mono CB.out ?_; rintro e W3 ⟨rfl, HNX⟩))
  obtain ⟨g2, vl3, vg3, HBK3, HG2, HB3, HR3, HT3⟩ := HNX
  have hT3 : Oth W2 W3 := HT3.out
  have V10 := hid_of (U10.out.next hT3)
  have V11 := hid_of (U11.out.next hT3)
  have GX3 := hid_of (HR3.out _ _ GX2.out (Or.inr N3.out))
  have S1c := hid_of (S1b.out.next hT3)
  have S2c := hid_of (S2b.out.next hT3)
  have T1c := hid_of (T1b.out.next hT3)
  have T2c := hid_of (T2b.out.next hT3)
  have PX3 := hid_of (PX2.out.next hT3)
  have AX3 := hid_of (AX2.out.next hT3)
  have HB3' := hid_of (HB2'.out.trans HB3.out)
  clear CB x11 hT3 HBK2 HB2' HB3 HT3 HR3 HG2 U10 U11 P2b GX2 S1b S2b T1b T2b PX2 AX2 HAp2
  have x10 := V10.out.l
  have x11 := V11.out.l
  have D1 : Hid (∀ v m, OwnL w.heap.size v (rl m ([111, 110, 101], [])) W3 → m ≤ 2097152 → Calls Tryz.prog 19 #[v, .string ⟨#[111, 110, 101]⟩] W3 fun e w' => e = .returned (.bool true) ∧ w' = W3) := fun v m h hm => named_any _ v m [111, 110, 101] W3 h (by omega)
  have D2 : Hid (∀ v m, OwnL w.heap.size v (rl m ([116, 119, 111], [])) W3 → m ≤ 2097152 → Calls Tryz.prog 19 #[v, .string ⟨#[116, 119, 111]⟩] W3 fun e w' => e = .returned (.bool true) ∧ w' = W3) := fun v m h hm => named_any _ v m [116, 119, 111] W3 h (by omega)
  have E1 := hid_of (D1.out _ _ T1c.out (by have := HN.out; omega))
  have E2 := hid_of (D1.out _ _ S1c.out (by have := HN.out; omega))
  have E3 := hid_of (D2.out _ _ T2c.out (by have := HN.out; omega))
  have E4 := hid_of (D2.out _ _ S2c.out (by have := HN.out; omega))
  clear D1 D2
  go_upto_region 30 with (first
    | (go_at_call 19; with_reducible refine Calls.mono E1.out ?_; rintro e w5 ⟨rfl, rfl⟩)
    | (go_at_call 19; with_reducible refine Calls.mono E2.out ?_; rintro e w5 ⟨rfl, rfl⟩)
    | (go_at_call 19; with_reducible refine Calls.mono E3.out ?_; rintro e w5 ⟨rfl, rfl⟩)
    | (go_at_call 19; with_reducible refine Calls.mono E4.out ?_; rintro e w5 ⟨rfl, rfl⟩))
  clear E1 E2 E3 E4 x10 x11 S1c S2c T1c T2c V10 V11
  have CS := hid_of (stays_any w.heap.size p _ _ _ _ _ HBK3.out (by simp) (fun e he => by
    have h9 := HL.out
    simp at he
    rcases he with rfl | rfl
    · show C.length ≤ 1048576; omega
    · show C.length ≤ 1048576; omega))
  go_upto_region 31 with (first | (go_at_call 14; with_reducible refine Calls.mono CS.out ?_; rintro e W5 ⟨rfl, hb5⟩))
  have PX5 := hid_of (show Px kx X W5 from hkN PX3.out hb5)
  have AX5 := hid_of (show Ax ka ga X W5 from hkN AX3.out hb5)
  have GX5 := hid_of (Gx.of_own (GX3.out.bel hb5))
  have HB5 := hid_of (bt HB3'.out hb5)
  clear CS HBK3 PX3 AX3 GX3 HB3' hb5
  obtain ⟨x0, x1, x2, x3, x4, x5, x6⟩ := seven_cells (hid_of AX5.out)
  obtain ⟨y0, y1, y2, y3, y4, y5, y6, y7⟩ := eight_cells (hid_of PX5.out)
  have HKE := hid_of (kept_true X.hi X.lo X.hi X.lo X.ao ga X.cap X.n X.s X.c X.mn X.mx X.n X.s X.c X.mn X.mx X.L (Nat.le_trans OX.out.hl (by decide)) W5 (row_fl GX5.out) (SX.out.below HB5.out))
  go_wp2_with (first | (go_at_call 12; with_reducible refine Calls.mono HKE.out ?_; rintro e w2 ⟨rfl, HB2⟩))
  go_ret
  exact ⟨rfl, bt HB5.out HB2⟩
end Go.Proofs.YtbgdmlekhobjdaaGreat
