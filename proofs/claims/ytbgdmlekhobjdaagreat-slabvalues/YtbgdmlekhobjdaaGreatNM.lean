/- SlabValues: the lists of labels are written over. Own work of the verifier. -/
import Derived.Test.YtbgdmlekhobjdaaGreatN7A
import Derived.Test.YtbgdmlekhobjdaaGreatNE
namespace Go.Proofs.YtbgdmlekhobjdaaGreat
open Go.RowKit
/-- A value that the code told, in its box. -/
structure Vv where
  k : Nat
  la : Option Addr
  lc : Nat
  ca : Option Addr
  cm : Nat
  cc : Nat
  r : Nat
structure Vv.At (V : Vv) (kd H Lo : Int) (nm hp : ByteArray) (N a b : Nat) (D : List Lb) (C : List Cn) (M : Nat) (W : World) : Prop where
  box : W.heap[V.k]? = some (.cells #[.int .i64 kd, .string nm, .string hp, .slice V.la D.length V.lc, .int .i64 H, .int .u64 Lo, .slice V.ca V.cm V.cc, .int .u64 (N : Int), .float .f64 V.r, .float .f64 a, .float .f64 b] 58 (0, 0))
  ol : OwnL M (.slice V.la D.length V.lc) D W
  oc : OwnC M (.slice V.ca V.cm V.cc) C W
theorem Vv.At.kept {V : Vv} {kd H Lo : Int} {nm hp : ByteArray} {N a b : Nat} {D : List Lb} {C : List Cn} {M : Nat} {W W' : World} (h : V.At kd H Lo nm hp N a b D C M W) (hb : Below W.heap.size W W') : V.At kd H Lo nm hp N a b D C M W' := ⟨hkN h.box hb, h.ol.bel hb, h.oc.bel hb⟩
theorem Vv.At.vx {V : Vv} {kd H Lo : Int} {nm hp : ByteArray} {N a b : Nat} {D : List Lb} {C : List Cn} {M : Nat} {W : World} (h : V.At kd H Lo nm hp N a b D C M W) : VX V.k (.slice V.la D.length V.lc) (.slice V.ca V.cm V.cc) W := ⟨_, _, _, _, _, _, _, _, _, h.box⟩
/-- The document's value, in its box: its labels are those handed in. -/
structure Ev where
  k : Nat
  ca : Option Addr
  cm : Nat
  cc : Nat
structure Ev.At (E : Ev) (kd H Lo : Int) (nm hp : ByteArray) (lv : Value) (N R a b : Nat) (C : List Cn) (M : Nat) (W : World) : Prop where
  box : W.heap[E.k]? = some (.cells #[.int .i64 kd, .string nm, .string hp, lv, .int .i64 H, .int .u64 Lo, .slice E.ca E.cm E.cc, .int .u64 (N : Int), .float .f64 R, .float .f64 a, .float .f64 b] 58 (0, 0))
  oc : OwnC M (.slice E.ca E.cm E.cc) C W
theorem Ev.At.kept {E : Ev} {kd H Lo : Int} {nm hp : ByteArray} {lv : Value} {N R a b : Nat} {C : List Cn} {M : Nat} {W W' : World} (h : E.At kd H Lo nm hp lv N R a b C M W) (hb : Below W.heap.size W W') : E.At kd H Lo nm hp lv N R a b C M W' := ⟨hkN h.box hb, h.oc.bel hb⟩
theorem OwnL.slb {B : Nat} {v : Value} {L : List Lb} {W : World} (h : OwnL B v L W) : SLb W v L := by
  rcases h.2 with ⟨q, q2⟩ | ⟨g, cap, cur, q, hB, hg, hc, hm, hs, ht⟩
  · exact Or.inl ⟨q, List.length_eq_zero_iff.1 q2⟩
  · subst q
    refine Or.inr ⟨g, 0, cap, rfl, hc, fun i hi => ?_⟩
    obtain ⟨g1, g2⟩ := flL_get L i hi
    rw [Nat.zero_add]
    have h' : W.ownsRow B 56 2 (.slice (some ⟨g, 0, none⟩) L.length cap) L.length (flL L) := h
    rw [h'.cellAt (i * 2) (by omega), h'.cellAt (i * 2 + 1) (by omega)]
    exact ⟨g1, g2⟩
/-- Both values and the document's. -/
theorem both_same {V : Vv} {E : Ev} {kd H Lo : Int} {nm hp : ByteArray} {N R a b : Nat} {D : List Lb} {C : List Cn} {M M' : Nat} {la : Option Addr} {lc : Nat} {W : World} (hV : V.At kd H Lo nm hp N a b D C M W) (hE : E.At kd H Lo nm hp (.slice la D.length lc) N R a b C M' W) (hD : SLb W (.slice la D.length lc) D) (hl : C.length ≤ 1048576) (hlD : D.length ≤ 1048576) (b1 : V.r < 18446744073709551616) (b2 : R < 18446744073709551616) (b3 : a < 18446744073709551616) (b4 : b < 18446744073709551616) (he : Soft.one V.r = Soft.one R) :
    Calls Tryz.prog 17 #[vval kd nm hp (.slice V.la D.length V.lc) H Lo (.slice V.ca V.cm V.cc) N V.r a b, vval kd nm hp (.slice la D.length lc) H Lo (.slice E.ca E.cm E.cc) N R a b] W fun e w' => e = .returned (.bool true) ∧ Below W.heap.size W w' :=
  svalue_true kd H Lo nm hp V.la la V.ca E.ca V.lc lc V.cm V.cc E.cm E.cc N V.r R a b D C W hV.oc.snB hE.oc.snB hV.ol.slb hD (by omega) hlD b1 b2 b3 b4 he
/-- All that does not lie in a list of labels stays. -/
theorem grown_chg {a b : World} {v : Value} (h : a.grownBy b v.ownBlock) : Chg (fun x => v.ownBlock = some x) a b := Chg.of_grown h (fun _x hx => hx)
set_option maxHeartbeats 16000000 in
set_option maxRecDepth 100000 in
theorem sv_over (w W : World) (X : Rq) (kd H Lo : Int) (nm hp : ByteArray) (la : Option Addr) (lc N R a b : Nat) (D : List Lb) (C : List Cn) (M kx ka ga : Nat) (V1 V2 : Vv) (E : Ev) (h1 : V1.At kd H Lo nm hp N a b D C M W) (h2 : V2.At kd H Lo nm hp N a b D C M W) (hE : E.At kd H Lo nm hp (.slice la D.length lc) N R a b C M W) (sd : SLb w (.slice la D.length lc) D)
    (n1 : (Value.slice V1.ca V1.cm V1.cc).ownBlock = none ∨ (Value.slice V1.ca V1.cm V1.cc).ownBlock ≠ (Value.slice V2.ca V2.cm V2.cc).ownBlock) (m1 : (Value.slice V1.la D.length V1.lc).ownBlock = none ∨ (Value.slice V1.la D.length V1.lc).ownBlock ≠ (Value.slice V2.la D.length V2.lc).ownBlock) (hl : C.length ≤ 600000) (hlD : D.length ≤ 1048576) (b1 : V1.r < 18446744073709551616) (b2 : R < 18446744073709551616) (b3 : a < 18446744073709551616) (b4 : b < 18446744073709551616) (he : Soft.one V1.r = Soft.one R)
    (px : Px kx X W) (ax : Ax ka ga X W) (gx : Gx ga X.L W) (hga : w.heap.size ≤ ga) (hgM : ga < M) (hMW : M ≤ W.heap.size) (oX : X.Ok) (sx : SN w (.slice X.ao X.L.length X.cap) X.L) (hb : Below w.heap.size w W)
    (u0 u1 u2 u4 u5 u7 u8 u12 u13 u14 u15 u16 u17 u18 u19 u20 u21 u22 u23 u24 u25 u26 u27 u28 u29 u30 u31 u32 u33 u34 u35 u36 u37 u38 u39 u40 u41 u42 u43 u44 u45 u46 u47 u48 u49 u50 u51 u52 u53 u54 u55 u56 u57 u58 u59 u60 u61 u62 u63 u64 u65 u66 u67 u68 u69 u70 u71 u72 u73 u74 u75 u76 u77 u78 u79 u80 u81 u82 u83 u84 u85 u86 u87 u88 u89 u90 u91 u92 u93 u94 u95 u96 u97 u98 u99 u100 u101 u102 u103 u104 u105 u106 u107 u108 u109 u110 u111 u112 u113 u114 u115 u116 u117 u118 u119 u120 u121 u122 u123 u124 u125 u126 u127 u128 u129 u130 u131 u132 u133 u134 u135 u136 u137 u138 u139 u140 u141 u142 u143 u144 u145 u146 u147 u148 u149 u150 u151 u152 u153 u154 u155 u156 u157 u158 u159 u160 u161 u162 u163 u164 u165 u166 u167 u168 u169 u170 u171 : Value) (K : Act → World → Prop) (hK : ∀ a w1, Code.wp Tryz.prog (sDrop 17 (bodyC Tryz.f4.body)) (bodyPost Tryz.prog Tryz.f4 fun r w' => r = .returned (.bool true) ∧ Below w.heap.size w w') a w1 → K a w1) :
    Code.wp Tryz.prog (sFirst (sDrop 16 (bodyC Tryz.f4.body))) (Exit.then K (bodyPost Tryz.prog Tryz.f4 fun r w' => r = .returned (.bool true) ∧ Below w.heap.size w w')) { tmps := #[u0, u1, u2, (.pointer (some ⟨kx, 0, none⟩)), u4, u5, (.pointer (some ⟨ka, 0, none⟩)), u7, u8, (.pointer (some ⟨E.k, 0, none⟩)), (.pointer (some ⟨V1.k, 0, none⟩)), (.pointer (some ⟨V2.k, 0, none⟩)), u12, u13, u14, u15, u16, u17, u18, u19, u20, u21, u22, u23, u24, u25, u26, u27, u28, u29, u30, u31, u32, u33, u34, u35, u36, u37, u38, u39, u40, u41, u42, u43, u44, u45, u46, u47, u48, u49, u50, u51, u52, u53, u54, u55, u56, u57, u58, u59, u60, u61, u62, u63, u64, u65, u66, u67, u68, u69, u70, u71, u72, u73, u74, u75, u76, u77, u78, u79, u80, u81, u82, u83, u84, u85, u86, u87, u88, u89, u90, u91, u92, u93, u94, u95, u96, u97, u98, u99, u100, u101, u102, u103, u104, u105, u106, u107, u108, u109, u110, u111, u112, u113, u114, u115, u116, u117, u118, u119, u120, u121, u122, u123, u124, u125, u126, u127, u128, u129, u130, u131, u132, u133, u134, u135, u136, u137, u138, u139, u140, u141, u142, u143, u144, u145, u146, u147, u148, u149, u150, u151, u152, u153, u154, u155, u156, u157, u158, u159, u160, u161, u162, u163, u164, u165, u166, u167, u168, u169, u170, u171], defers := [] } W := by
  have HSV := hid_of (both_same h1 hE (sd.below hb) (by omega) hlD b1 b2 b3 b4 he)
  have H1 := hid_of h1
  have H2 := hid_of h2
  have N1 := hid_of n1
  have M1 := hid_of m1
  have HL := hid_of hl
  have HLD := hid_of hlD
  have PX := hid_of px
  have AX := hid_of ax
  have GX := hid_of gx
  have HGA := hid_of hga
  have HGM := hid_of hgM
  have HMW := hid_of hMW
  have OX := hid_of oX
  have SX := hid_of sx
  have HB := hid_of hb
  obtain ⟨x0, x1, x2, x3, x4, x5, x6, x7, x8, x9, x10⟩ := eleven_cells (hid_of h1.box)
  obtain ⟨y0, y1, y2, y3, y4, y5, y6, y7, y8, y9, y10⟩ := eleven_cells (hid_of hE.box)
  clear h1 h2 hE sd n1 m1 hl hlD b1 b2 b3 b4 he px ax gx hga hgM hMW oX sx hb
  dsimp only [sDrop, sFirst, bodyC, Tryz.f4] at hK ⊢
  go_upto_region 23 with (first | (go_at_call 17; with_reducible refine Calls.mono HSV.out ?_; rintro e w2 ⟨rfl, hb2⟩))
  have J1 := hid_of (H1.out.kept hb2)
  have J2 := hid_of (H2.out.kept hb2)
  have PX2 := hid_of (show Px kx X w2 from hkN PX.out hb2)
  have AX2 := hid_of (show Ax ka ga X w2 from hkN AX.out hb2)
  have GX2 := hid_of (show Gx ga X.L w2 from hkN GX.out hb2)
  have HM2 := hid_of (Nat.le_trans HMW.out hb2.size)
  have HB2 := hid_of (bt HB.out hb2)
  clear HSV x0 y0 x1 y1 x2 y2 x3 y3 x4 y4 x5 y5 x6 y6 x7 y7 x8 y8 x9 y9 x10 y10 H1 H2 PX AX GX HMW HB hb2
  have HLA : Hid (Calls Tryz.prog 18 #[.slice V1.la D.length V1.lc, .string ⟨#[111, 110, 101]⟩] w2 fun e w' => LabQ M (.slice V1.la D.length V1.lc) D.length [111, 110, 101] w2 e w') := labels_any M _ D [111, 110, 101] w2 J1.out.ol HM2.out HLD.out
  have x3 := J1.out.vx.l
  go_upto_region 24 with (first | (go_at_call 18; with_reducible refine Calls.mono HLA.out ?_; rintro e w3 hq; unfold LabQ at hq; obtain ⟨am1, mm1, mc1, rfl, A1, A2, A3, A4⟩ := hq))
  have hc := grown_chg A3.out
  have o1 := J1.out.ol
  have V2b := hid_of (hc.at_ J2.out.box (own_notype o1 J2.out.box (by decide)))
  have V1b := hid_of (hc.at_ J1.out.box (own_notype o1 J1.out.box (by decide)))
  have C1b := hid_of (hc.row J1.out.oc (ne_none (own_apart J1.out.oc o1 (by decide))))
  have C2b := hid_of (hc.row J2.out.oc (ne_none (own_apart J2.out.oc o1 (by decide))))
  have L2b : Hid (OwnL M (.slice V2.la D.length V2.lc) D w3) := hc.row J2.out.ol (ne_none (nsym M1.out))
  have PX3 := hid_of (show Px kx X w3 from hc.at_ PX2.out (own_notype o1 PX2.out (by decide)))
  have AX3 := hid_of (show Ax ka ga X w3 from hc.at_ AX2.out (own_notype o1 AX2.out (by decide)))
  have GX3 := hid_of (show Gx ga X.L w3 from hc.at_ GX2.out (own_notype o1 GX2.out (by decide)))
  have hwM : w.heap.size ≤ M := Nat.le_trans HGA.out (Nat.le_of_lt HGM.out)
  have HB3 := hid_of (HB2.out.trans (hc.below HB2.out.size (fun x hx => Nat.le_trans hwM (o1.lt x hx).1)))
  have HM3 := hid_of (Nat.le_trans HM2.out hc.size)
  have HLt : Hid (∀ x, (Value.slice V2.la D.length V2.lc).ownBlock = some x → x < w2.heap.size) := fun x hx => (J2.out.ol.lt x hx).2
  have HWM := hid_of hwM
  clear HLA x3 hc o1 J1 J2 PX2 AX2 GX2 HB2 HM2 A3 hwM
  have HLB : Hid (Calls Tryz.prog 18 #[.slice V2.la D.length V2.lc, .string ⟨#[116, 119, 111]⟩] w3 fun e w' => LabQ M (.slice V2.la D.length V2.lc) D.length [116, 119, 111] w3 e w') := labels_any M _ D [116, 119, 111] w3 L2b.out HM3.out HLD.out
  have x3 := (eleven_cells V2b).2.2.2.1
  go_upto_region 25 with (first | (go_at_call 18; with_reducible refine Calls.mono HLB.out ?_; rintro e w4 hq; unfold LabQ at hq; obtain ⟨am2, mm2, mc2, rfl, B1, B2, B3, B4⟩ := hq))
  have hc := grown_chg B3.out
  have o2 := L2b.out
  have V2c := hc.at_ V2b.out (own_notype o2 V2b.out (by decide))
  have V1c := hc.at_ V1b.out (own_notype o2 V1b.out (by decide))
  have C1c := hc.row C1b.out (ne_none (own_apart C1b.out o2 (by decide)))
  have C2c := hc.row C2b.out (ne_none (own_apart C2b.out o2 (by decide)))
  have L1c := hc.row A1.out (ne_none M1.out)
  have m2 : (Value.slice am1 mm1 mc1).ownBlock = none ∨ (Value.slice am1 mm1 mc1).ownBlock ≠ (Value.slice V2.la D.length V2.lc).ownBlock := by
    rcases A4.out with q | q | ⟨x, q, q1⟩
    · exact Or.inl q
    · rw [q]; exact M1.out
    · right
      rw [q]
      intro e'
      have := HLt.out x e'.symm
      omega
  have G1c := hc.row A2.out (ne_none m2)
  have PX4 := show Px kx X w4 from hc.at_ PX3.out (own_notype o2 PX3.out (by decide))
  have AX4 := show Ax ka ga X w4 from hc.at_ AX3.out (own_notype o2 AX3.out (by decide))
  have GX4 := show Gx ga X.L w4 from hc.at_ GX3.out (own_notype o2 GX3.out (by decide))
  have hwM := HWM.out
  have HB4 := HB3.out.trans (hc.below HB3.out.size (fun x hx => Nat.le_trans hwM (o2.lt x hx).1))
  have hgM := HGM.out
  have n2 : some ga ≠ (Value.slice V1.ca V1.cm V1.cc).ownBlock := fun q => by have := (C1c.lt ga q.symm).1; omega
  have n3 : some ga ≠ (Value.slice V2.ca V2.cm V2.cc).ownBlock := fun q => by have := (C2c.lt ga q.symm).1; omega
  clear HLB x3 hc V2b V1b C1b C2b L2b PX3 AX3 GX3 HB3 HM3 HLt A1 A2 A4 m2
  rename_i hKe
  exact sv_end w _ X kx ka ga V1.k V2.k V1.cm V1.cc V2.cm V2.cc D.length V1.lc D.length V2.lc mm1 mc1 mm2 mc2 D.length V1.ca V2.ca V1.la V2.la am1 am2 C ⟨_, _, _, _, _, _, _, _, _, V1c⟩ ⟨_, _, _, _, _, _, _, _, _, V2c⟩ (own_leG C1c hwM) (own_leG C2c hwM) (own_leG L1c hwM) (own_leG B1.out hwM) (own_leG G1c hwM) (own_leG B2.out hwM) N1.out n2 n3 HL.out HLD.out PX4 AX4 GX4 HGA.out OX.out SX.out HB4 _ _ _ _ _ _ _ _ _ _ _ _ _ _ _ _ _ _ _ _ _ _ _ _ _ _ _ _ _ _ _ _ _ _ _ _ _ _ _ _ _ _ _ _ _ _ _ _ _ _ _ _ _ _ _ _ _ _ _ _ _ _ _ _ _ _ _ _ _ _ _ _ _ _ _ _ _ _ _ _ _ _ _ _ _ _ _ _ _ _ _ _ _ _ _ _ _ _ _ _ _ _ _ _ _ _ _ _ _ _ _ _ _ _ _ _ _ _ _ _ _ _ _ _ _ _ _ _ _ _ _ _ _ _ _ _ _ _ _ _ _ _ _ _ _ _ _ _ _ _ _ _ _ _ _ _ _ _ _ _ _ _ _ _ _ _ hKe
end Go.Proofs.YtbgdmlekhobjdaaGreat
