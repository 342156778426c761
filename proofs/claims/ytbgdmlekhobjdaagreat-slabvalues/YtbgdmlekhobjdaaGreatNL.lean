/- SlabValues: the labels handed in are written over. Own work of the verifier. -/
import Derived.Test.YtbgdmlekhobjdaaGreatNM
import Derived.Test.YtbgdmlekhobjdaaGreatMSA
import Derived.BigQuiet
namespace Go.Proofs.YtbgdmlekhobjdaaGreat
open Go.RowKit
theorem sadd (a b : List UInt8) (h : a.length + b.length ≤ 9223372036854775807) (W : World) : (Op.stringOp .add ⟨a.toArray⟩ ⟨b.toArray⟩).run Tryz.prog W = .ok (.string ⟨(a ++ b).toArray⟩) W := by
  rw [run_string_add_sum W _ _ (by simp [ByteArray.size]; omega), ByteArray.mk_append_mk]
/-- The copy of the labels, from the i-th on as it was. -/
def LR (g : Nat) (D : List Lb) (i : Nat) (V : World) : Prop := ∃ cur, V.heap[g]? = some (.cells cur 56 (0, 0)) ∧ ∀ j (h : j < D.length), i ≤ j → cur[j * 2]? = some (.string ⟨D[j].1.toArray⟩) ∧ cur[j * 2 + 1]? = some (.string ⟨D[j].2.toArray⟩)
theorem LR.cells {g : Nat} {D : List Lb} {i : Nat} {V : World} (h : LR g D i V) (hi : i < D.length) : V.cell? ⟨g, i * 2, none⟩ = some (.string ⟨D[i].1.toArray⟩) ∧ V.cell? ⟨g, i * 2 + 1, none⟩ = some (.string ⟨D[i].2.toArray⟩) ∧ V.frozen? ⟨g, i * 2 + 1, none⟩ = false := by
  obtain ⟨cur, hc, hr⟩ := h
  obtain ⟨r1, r2⟩ := hr i hi (Nat.le_refl _)
  refine ⟨?_, ?_, ?_⟩
  · rw [cell_of_row V g _ cur _ _ hc]; exact r1
  · rw [cell_of_row V g _ cur _ _ hc]; exact r2
  · simp [World.frozen?, hc]
theorem LR.step {g : Nat} {D : List Lb} {i : Nat} {V : World} (h : LR g D i V) (u : Value) : LR g D (i + 1) (V.setCell ⟨g, i * 2 + 1, none⟩ u) := by
  obtain ⟨cur, hc, hr⟩ := h
  refine ⟨_, heap_setCell_same V g (i * 2 + 1) cur _ u hc, fun j hj hij => ?_⟩
  obtain ⟨r1, r2⟩ := hr j hj (by omega)
  rw [Array.getElem?_setIfInBounds_ne (by omega), Array.getElem?_setIfInBounds_ne (by omega)]
  exact ⟨r1, r2⟩
theorem LR.drew {g : Nat} {D : List Lb} {i : Nat} {V : World} (h : LR g D i V) (n : Nat) : LR g D i (V.drewN n) := by
  obtain ⟨cur, hc, hr⟩ := h
  have hb := bel_drewNB (Below.refl V.heap.size V) n
  exact ⟨cur, hkN hc hb, hr⟩
theorem chg_drewN {S : Nat → Prop} {W V : World} (h : Chg S W V) (n : Nat) : Chg S W (V.drewN n) := h.trans (Chg.of_below (S := fun _ => False) (bel_drewNB (Below.refl V.heap.size V) n)) (fun _ q => q.elim)
set_option maxHeartbeats 16000000 in
set_option maxRecDepth 100000 in
theorem sv_loop (w W : World) (X : Rq) (kd H Lo : Int) (nm hp : ByteArray) (la : Option Addr) (lc N R a b : Nat) (D : List Lb) (C : List Cn) (M kd2 kx ka ga gl : Nat) (V1 V2 : Vv) (E : Ev) (h1 : V1.At kd H Lo nm hp N a b D C M W) (h2 : V2.At kd H Lo nm hp N a b D C M W) (hE : E.At kd H Lo nm hp (.slice la D.length lc) N R a b C M W) (sd : SLb w (.slice la D.length lc) D)
    (n1 : (Value.slice V1.ca V1.cm V1.cc).ownBlock = none ∨ (Value.slice V1.ca V1.cm V1.cc).ownBlock ≠ (Value.slice V2.ca V2.cm V2.cc).ownBlock) (m1 : (Value.slice V1.la D.length V1.lc).ownBlock = none ∨ (Value.slice V1.la D.length V1.lc).ownBlock ≠ (Value.slice V2.la D.length V2.lc).ownBlock) (hl : C.length ≤ 600000) (hlD : D.length ≤ 1048576) (b1 : V1.r < 18446744073709551616) (b2 : R < 18446744073709551616) (b3 : a < 18446744073709551616) (b4 : b < 18446744073709551616) (he : Soft.one V1.r = Soft.one R)
    (px : Px kx X W) (ax : Ax ka ga X W) (gx : Gx ga X.L W) (hga : w.heap.size ≤ ga) (hgM : ga < M) (hMW : M ≤ W.heap.size) (oX : X.Ok) (sx : SN w (.slice X.ao X.L.length X.cap) X.L) (hb : Below w.heap.size w W)
    (bd : W.heap[kd2]? = some (.cells #[.int .i64 kd, .string nm, .string hp, .slice la D.length lc] 54 (0, 0))) (hr : LR gl D 0 W) (hgl : w.heap.size ≤ gl) (hglM : gl < M) (hsz : ∀ x ∈ D, x.2.length ≤ 1048576)
    (u0 u1 u4 u5 u7 u12 u13 u14 u15 u16 u17 u18 u19 u20 u21 u22 u23 u24 u25 u26 u27 u28 u29 u30 u31 u32 u33 u34 u35 u36 u37 u38 u39 u40 u41 u42 u43 u44 u45 u46 u47 u48 u49 u50 u51 u52 u53 u54 u55 u56 u57 u58 u59 u60 u61 u62 u63 u64 u65 u66 u67 u68 u69 u70 u71 u72 u73 u74 u75 u76 u77 u78 u79 u80 u81 u82 u83 u84 u85 u86 u87 u88 u89 u90 u91 u92 u93 u94 u95 u96 u97 u98 u99 u100 u101 u102 u103 u104 u105 u106 u107 u108 u109 u110 u111 u112 u113 u114 u115 u116 u117 u118 u119 u120 u121 u122 u123 u124 u125 u126 u127 u128 u129 u130 u131 u132 u133 u134 u135 u136 u137 u138 u139 u140 u141 u142 u143 u144 u145 u146 u147 u148 u149 u150 u151 u152 u153 u154 u155 u156 u157 u158 u159 u160 u161 u162 u163 u164 u165 u166 u167 u168 u169 u170 u171 : Value) (K1 K2 : Act → World → Prop) (hK1 : ∀ a w1, Code.wp Tryz.prog (sDrop 16 (bodyC Tryz.f4.body)) (bodyPost Tryz.prog Tryz.f4 fun r w' => r = .returned (.bool true) ∧ Below w.heap.size w w') a w1 → K1 a w1) (hK2 : ∀ a w1, Code.wp Tryz.prog (sDrop 1 (sFirst (sDrop 15 (bodyC Tryz.f4.body)))) (Exit.then K1 (bodyPost Tryz.prog Tryz.f4 fun r w' => r = .returned (.bool true) ∧ Below w.heap.size w w')) a w1 → K2 a w1) :
    Code.wp Tryz.prog (sFirst (sFirst (sDrop 15 (bodyC Tryz.f4.body)))) (Exit.then K2 (Exit.then K1 (bodyPost Tryz.prog Tryz.f4 fun r w' => r = .returned (.bool true) ∧ Below w.heap.size w w'))) { tmps := #[u0, u1, (.pointer (some ⟨kd2, 0, none⟩)), (.pointer (some ⟨kx, 0, none⟩)), u4, u5, (.pointer (some ⟨ka, 0, none⟩)), u7, (.slice (some ⟨gl, 0, none⟩) (D.length + 1) (D.length + 1)), (.pointer (some ⟨E.k, 0, none⟩)), (.pointer (some ⟨V1.k, 0, none⟩)), (.pointer (some ⟨V2.k, 0, none⟩)), u12, u13, u14, u15, u16, u17, u18, u19, u20, u21, u22, u23, u24, u25, u26, u27, u28, u29, u30, u31, u32, u33, u34, u35, u36, u37, u38, u39, u40, u41, u42, u43, u44, u45, u46, u47, u48, u49, u50, u51, u52, u53, u54, u55, u56, u57, u58, u59, u60, u61, u62, u63, u64, u65, u66, u67, u68, u69, u70, u71, u72, u73, u74, u75, u76, u77, u78, u79, u80, u81, u82, u83, u84, u85, u86, u87, u88, u89, u90, u91, u92, u93, u94, u95, u96, u97, u98, u99, u100, u101, u102, u103, u104, u105, u106, u107, u108, u109, u110, u111, u112, u113, u114, u115, u116, u117, u118, u119, u120, u121, u122, u123, u124, u125, u126, u127, u128, u129, u130, u131, u132, u133, u134, u135, u136, u137, u138, u139, u140, u141, u142, u143, u144, u145, u146, u147, u148, u149, u150, u151, u152, u153, u154, u155, u156, u157, u158, u159, u160, u161, u162, u163, u164, u165, u166, u167, u168, u169, u170, u171], defers := [] } W := by
  have H1 := hid_of h1
  have H2 := hid_of h2
  have HE := hid_of hE
  have SD := hid_of sd
  have N1 := hid_of n1
  have M1 := hid_of m1
  have HL := hid_of hl
  have B1 := hid_of b1
  have B2 := hid_of b2
  have B3 := hid_of b3
  have B4 := hid_of b4
  have HEe := hid_of he
  have PX := hid_of px
  have AX := hid_of ax
  have GX := hid_of gx
  have HGA := hid_of hga
  have HGM := hid_of hgM
  have HMW := hid_of hMW
  have OX := hid_of oX
  have SX := hid_of sx
  have HB := hid_of hb
  have BD := hid_of bd
  have HR := hid_of hr
  have HGL := hid_of hgl
  have HGLM := hid_of hglM
  have HSZ := hid_of hsz
  obtain ⟨rb, ro, hrg, hrr⟩ := sd.form
  have HRR := hid_of hrr
  clear h1 h2 hE sd n1 m1 hl b1 b2 b3 b4 he px ax gx hga hgM hMW oX sx hb bd hr hgl hglM hsz hrr
  dsimp only [sDrop, sFirst, bodyC, Tryz.f4] at hK1 hK2 ⊢
  go_upto_region 17 with fail
  go_loopw [15] (fun x V => ∃ (i : Nat), i ≤ D.length ∧ x = .int .i64 (i : Int) ∧ Hid (Chg (fun x => x = gl) W V) ∧ Hid (LR gl D i V)) (fun x _ => D.length - (intOf x).toNat)
  case atStart => exact ⟨0, by omega, rfl, Chg.refl _ _, HR⟩
  case round =>
    obtain ⟨i, hi, rfl, HC, HLR⟩ := hrel
    have hbd := HC.out.at_ BD.out (fun e => by
      obtain ⟨cur, hc, _⟩ := HR.out
      exact ne_type BD.out hc (by decide) e)
    have d3 := (four_cells hbd).2.2.2.1
    have HBw := hid_of (HB.out.trans (HC.out.below HB.out.size (fun x hx => by rw [hx]; exact HGL.out)))
    by_cases hlt : i < D.length
    · have hlt' : (i : Int) < (D.length : Int) := by omega
      have hlt1 : (i : Int) < ((D.length + 1 : Nat) : Int) := by omega
      obtain ⟨c0, c1, f1⟩ := HLR.out.cells hlt
      obtain ⟨e0, e1⟩ := HRR.out i hlt
      have e0' := (HBw.out.cell (p := ⟨rb, ro + i * 2, none⟩) (lt_of_cell e0)).trans e0
      have e1' := (HBw.out.cell (p := ⟨rb, ro + i * 2 + 1, none⟩) (lt_of_cell e1)).trans e1
      have hz := HSZ.out D[i] (List.getElem_mem hlt)
      obtain rfl := hrg (by omega)
      generalize D[i] = di at c0 c1 e0' e1' hz
      obtain ⟨s1, s2⟩ := di
      simp only at c0 c1 e0' e1' hz
      have hadd : ∀ V, (Op.stringOp .add ⟨s2.toArray⟩ ⟨#[120]⟩).run Tryz.prog V = .ok (.string ⟨(s2 ++ [120]).toArray⟩) V := fun V => sadd s2 [120] (by simp; omega) V
      generalize (s2 ++ [120]).toArray = s3 at hadd
      clear hbd e0 e1 HRR HR BD H1 H2 HE PX AX GX HB hz HSZ
      go_upto_region 19 with fail
      go_quiet (fail)
      have HCn := hid_of (chg_moreG (g := gl) (j := i * 2 + 1) (u := .string ⟨s3⟩) (chg_drewN HC.out nq) rfl)
      have HLn := hid_of ((HLR.out.drew nq).step (.string ⟨s3⟩))
      clear HC HLR HBw
      go_wp2_with fail
      exact ⟨⟨i + 1, by omega, by go_num, HCn, HLn⟩, by simp [intOf]; omega⟩
    · have hlt' : ¬ (i : Int) < (D.length : Int) := by omega
      have hc := HC.out
      obtain ⟨cur, hcur, _⟩ := HR.out
      have hM := HGLM.out
      have g1 : V1.At kd H Lo nm hp N a b D C M wr := ⟨hc.at_ H1.out.box (ne_type H1.out.box hcur (by decide)), hc.row H1.out.ol (fun x hx e => by have := (H1.out.ol.lt x hx).1; omega), hc.row H1.out.oc (fun x hx e => by have := (H1.out.oc.lt x hx).1; omega)⟩
      have g2 : V2.At kd H Lo nm hp N a b D C M wr := ⟨hc.at_ H2.out.box (ne_type H2.out.box hcur (by decide)), hc.row H2.out.ol (fun x hx e => by have := (H2.out.ol.lt x hx).1; omega), hc.row H2.out.oc (fun x hx e => by have := (H2.out.oc.lt x hx).1; omega)⟩
      have gE : E.At kd H Lo nm hp (.slice la D.length lc) N R a b C M wr := ⟨hc.at_ HE.out.box (ne_type HE.out.box hcur (by decide)), hc.row HE.out.oc (fun x hx e => by have := (HE.out.oc.lt x hx).1; omega)⟩
      have gP := show Px kx X wr from hc.at_ PX.out (ne_type PX.out hcur (by decide))
      have gA := show Ax ka ga X wr from hc.at_ AX.out (ne_type AX.out hcur (by decide))
      have gG := show Gx ga X.L wr from hc.at_ GX.out (ne_type GX.out hcur (by decide))
      have gM := Nat.le_trans HMW.out hc.size
      have gB := HBw.out
      clear hc hcur hM hbd HC HLR HBw HR BD H1 H2 HE PX AX GX HB HMW HRR
      go_upto_region 22 with fail
      rename_i hKe
      exact sv_over w _ X kd H Lo nm hp la lc N R a b D C M kx ka ga V1 V2 E g1 g2 gE SD.out N1.out M1.out HL.out hlD B1.out B2.out B3.out B4.out HEe.out gP gA gG HGA.out HGM.out gM OX.out SX.out gB _ _ _ _ _ _ _ _ _ _ _ _ _ _ _ _ _ _ _ _ _ _ _ _ _ _ _ _ _ _ _ _ _ _ _ _ _ _ _ _ _ _ _ _ _ _ _ _ _ _ _ _ _ _ _ _ _ _ _ _ _ _ _ _ _ _ _ _ _ _ _ _ _ _ _ _ _ _ _ _ _ _ _ _ _ _ _ _ _ _ _ _ _ _ _ _ _ _ _ _ _ _ _ _ _ _ _ _ _ _ _ _ _ _ _ _ _ _ _ _ _ _ _ _ _ _ _ _ _ _ _ _ _ _ _ _ _ _ _ _ _ _ _ _ _ _ _ _ _ _ _ _ _ _ _ _ _ _ _ _ _ _ _ _ _ _ _ _ hKe
end Go.Proofs.YtbgdmlekhobjdaaGreat
