/- SlabValues: its walk. Own work of the verifier. -/
import Derived.Test.YtbgdmlekhobjdaaGreatNJ
namespace Go.Proofs.YtbgdmlekhobjdaaGreat
open Go.RowKit
theorem run_copyL2 (w : World) (ty : TypeId) (g dLen dCap : Nat) (a : Addr) (sLen sCap : Nat) (cur : Array Value) (t : TypeId) (cs : List Value)
    (hg : w.heap[g]? = some (.cells cur t (0, 0))) (hn : cs.length = Nat.min sLen dLen * 2)
    (hsrc : ∀ j v, cs[j]? = some v → w.cell? (a.add j) = some v) (hfit : cs.length ≤ cur.size) (h1 : ∀ v ∈ cs, v.oneCell' = true) :
    (Builtin.copy_ #[52, 52] ty #[.slice (some ⟨g, 0, none⟩) dLen dCap, .slice (some a) sLen sCap]).run Tryz.prog w =
      .ok (goInt (Nat.min sLen dLen)) (w.setRow g (cs ++ cur.toList.drop cs.length).toArray) := by
  obtain ⟨i, hi, hz0, hz1, hz2⟩ := info_parts infoLabel
  have hl := run_loadCells_list (P := Tryz.prog) w a cs hsrc
  have hst := run_storeCells_at Tryz.prog g 0 t cs 0 cur w hg (by simpa using hfit) h1
  simp only [Nat.zero_add, List.take_zero, List.nil_append] at hst
  rw [hn] at hl
  simp [Builtin.copy_, run_underlying Tryz.underlying52, Builtin.lenOf, Builtin.firstCells, sizeOf, typeInfo, hi, hz1, hl, hst]
theorem run_copyL2_nil (w : World) (ty : TypeId) (a : Addr) (dLen dCap : Nat) :
    (Builtin.copy_ #[52, 52] ty #[.slice (some a) dLen dCap, .slice none 0 0]).run Tryz.prog w = .ok (goInt 0) w := by
  obtain ⟨i, hi, hz0, hz1, hz2⟩ := info_parts infoLabel
  simp [Builtin.copy_, run_underlying Tryz.underlying52, Builtin.lenOf, Builtin.firstCells, sizeOf, typeInfo, hi, storeCells]
/-- A list of labels is copied into the head of a row. -/
theorem copy_labels {w : World} (ty : TypeId) (g dLen dCap : Nat) (v : Value) (L : List Lb) (hv : SLb w v L) (hle : L.length ≤ dLen) (cur : Array Value) (t : TypeId) (hg : w.heap[g]? = some (.cells cur t (0, 0))) (hc : L.length * 2 ≤ cur.size) :
    ∃ w', (Builtin.copy_ #[52, 52] ty #[.slice (some ⟨g, 0, none⟩) dLen dCap, v]).run Tryz.prog w = .ok (.int .i64 (L.length : Int)) w' ∧ Put g (flL L ++ cur.toList.drop (L.length * 2)).toArray t w w' := by
  rcases hv with ⟨rfl, rfl⟩ | ⟨b, off, cap, rfl, hcap, hr⟩
  · refine ⟨w, run_copyL2_nil w ty ⟨g, 0, none⟩ dLen dCap, ?_⟩
    have e : (flL [] ++ cur.toList.drop (([] : List Lb).length * 2)).toArray = cur := by simp [flL]
    rw [e]
    exact ⟨rfl, rfl, rfl, rfl, hg, fun _ _ => rfl⟩
  · have hm : Nat.min L.length dLen = L.length := Nat.min_eq_left hle
    have hrun := run_copyL2 w ty g dLen dCap ⟨b, off, none⟩ L.length cap cur t (flL L) hg (by rw [flL_length, hm]) hr.cells (by rw [flL_length]; exact hc) (flL_one L)
    rw [hm, flL_length] at hrun
    exact ⟨_, hrun, put_row hg _⟩
theorem make_labels (n : Nat) (hn : n ≤ 16777216) (w : World) : (Instr.makeSlice 52 (.int .i64 (n : Int)) (.int .i64 (n : Int))).run Tryz.prog w = .ok (.slice (some ⟨w.heap.size, 0, none⟩) n n) (w.alloc (.cells (madeCells #[.string ⟨#[]⟩, .string ⟨#[]⟩] (n * 2)) 56)) := by
  obtain ⟨i, hi, hz, hs, hb⟩ := info_parts infoLabel
  have hr := run_make (P := Tryz.prog) w 52 56 i (.agg #[.string ⟨#[]⟩, .string ⟨#[]⟩]) Tryz.underlying52 hi hz .i64 .i64 (n : Int) (n : Int) (by omega) (Int.le_refl _) (by rw [hb]; omega) (by omega)
  rw [hr, hs, Int.toNat_natCast]
  rfl
theorem madeL (n : Nat) (hn : n ≤ 1048576) : ∃ cs : Array Value, cs.size = (n + 1) * 2 ∧ ∀ w : World, (Instr.makeSlice 52 (.int .i64 ((n : Int) + 1)) (.int .i64 ((n : Int) + 1))).run Tryz.prog w = .ok (.slice (some ⟨w.heap.size, 0, none⟩) (n + 1) (n + 1)) (w.alloc (.cells cs 56)) := by
  refine ⟨madeCells #[.string ⟨#[]⟩, .string ⟨#[]⟩] ((n + 1) * 2), size_madeCells _ _, fun w => ?_⟩
  have := make_labels (n + 1) (by omega) w
  rw [show ((n + 1 : Nat) : Int) = (n : Int) + 1 from by omega] at this
  exact this
/-- Labels with two cells behind them. -/
def TL (w : World) (g : Nat) (D : List Lb) (r0 r1 : Value) : Prop := w.heap[g]? = some (.cells (flL D ++ [r0, r1]).toArray 56 (0, 0))
theorem TL.facts {w : World} {g : Nat} {D : List Lb} {r0 r1 : Value} (h : Hid (TL w g D r0 r1)) : w.cell? ⟨g, D.length * 2, none⟩ = some r0 ∧ w.cell? ⟨g, D.length * 2 + 1, none⟩ = some r1 ∧ w.frozen? ⟨g, D.length * 2, none⟩ = false ∧ w.frozen? ⟨g, D.length * 2 + 1, none⟩ = false := by
  have h' : w.heap[g]? = some (.cells (flL D ++ [r0, r1]).toArray 56 (0, 0)) := h
  have hl := flL_length D
  have hat : ∀ j (hj : j < 2), w.cell? ⟨g, D.length * 2 + j, none⟩ = [r0, r1][j]? := fun j hj => by
    rw [cell_of_row w g _ _ _ _ h', List.getElem?_toArray, List.getElem?_append_right (by omega), hl, Nat.add_sub_cancel_left]
  exact ⟨hat 0 (by decide), hat 1 (by decide), by simp [World.frozen?, h'], by simp [World.frozen?, h']⟩
theorem TL.set {w : World} {g : Nat} {D : List Lb} {r0 r1 : Value} (h : TL w g D r0 r1) (u v : Value) : TL ((w.setCell ⟨g, D.length * 2, none⟩ u).setCell ⟨g, D.length * 2 + 1, none⟩ v) g D u v := by
  have hl := flL_length D
  unfold TL at *
  have e0 := set_tail (flL D) _ 0 hl [r0, r1] u
  rw [Nat.add_zero] at e0
  rw [heap_setCell_same _ g _ _ _ v (heap_setCell_same w g _ _ _ u h), e0, set_tail _ _ 1 hl]
  rfl
theorem TL.of {w : World} {g : Nat} {D : List Lb} {cs : Array Value} (hs : cs.size = (D.length + 1) * 2) (h : w.heap[g]? = some (.cells (flL D ++ cs.toList.drop (D.length * 2)).toArray 56 (0, 0))) : ∃ r0 r1, Hid (TL w g D r0 r1) := by
  have hl : (cs.toList.drop (D.length * 2)).length = 2 := by rw [List.length_drop, Array.length_toList, hs]; omega
  match hd : cs.toList.drop (D.length * 2), hl with
  | [r0, r1], _ => exact ⟨r0, r1, by unfold Hid TL; rw [hd] at h; exact h⟩
theorem TL.lr {w : World} {g : Nat} {D : List Lb} {r0 r1 : Value} (h : TL w g D r0 r1) : LR g D 0 w := by
  refine ⟨_, h, fun j hj _ => ?_⟩
  obtain ⟨g1, g2⟩ := flL_get D j hj
  have hl := flL_length D
  rw [List.getElem?_toArray, List.getElem?_toArray, List.getElem?_append_left (by omega), List.getElem?_append_left (by omega)]
  exact ⟨g1, g2⟩
set_option maxHeartbeats 16000000 in
set_option maxRecDepth 100000 in
theorem slabValues_walk (w : World) (X : Rq) (kd : Int) (nm hp : ByteArray) (la : Option Addr) (lc : Nat) (D : List Lb) (oX : X.Ok) (sx : SN w (.slice X.ao X.L.length X.cap) X.L) (sd : SLb w (.slice la D.length lc) D) (hlD : D.length ≤ 1048575) (hsz : ∀ x ∈ D, x.2.length ≤ 1048576) :
    Calls Tryz.prog 4 #[.agg #[.int .i64 kd, .string nm, .string hp, .slice la D.length lc], rpart X.hi X.lo (.slice X.ao X.L.length X.cap) X.n X.s X.c X.mn X.mx] w fun r w' => r = .returned (.bool true) ∧ Below w.heap.size w w' := by
  have OX := hid_of oX
  have SX := hid_of sx
  have SD := hid_of sd
  have HSZ := hid_of hsz
  clear oX sx sd hsz
  have HFX := hid_of fixed_any
  go_enter Tryz.func4, Tryz.ntmps4
  go_upto_region 1 with fail
  generalize hW1 : (w.alloc (.cells #[.int .i64 kd, .string nm, .string hp, .slice la D.length lc] 54)).alloc (.cells #[.int .i64 X.hi, .int .u64 X.lo, .slice X.ao X.L.length X.cap, .int .u64 (X.n : Int), .int .u64 (X.s : Int), .int .u64 (X.c : Int), .int .u64 (X.mn : Int), .int .u64 (X.mx : Int)] 27) = W1
  have HDX : Hid (W1.heap[w.heap.size]? = some (.cells #[.int .i64 kd, .string nm, .string hp, .slice la D.length lc] 54 (0, 0))) := by rw [← hW1]; exact Pr.new1 _ _ _
  have HPX : Hid (Px (w.heap.size + 1) X W1) := by rw [← hW1]; exact Pr.new2 _ _ _
  have HB1 : Hid (Below w.heap.size w W1) := by rw [← hW1]; exact bel2 _ _ _
  clear hW1
  generalize hkx : w.heap.size = kx at *
  have HKX := hid_of hkx
  clear hkx
  go_upto_region 2 with (first | (go_at_call 5; with_reducible refine Calls.mono (HFX.out _) ?_; rintro e W2 ⟨rfl, hb2⟩))
  have QD := hid_of (hkN HDX.out hb2)
  have QX := hid_of (show Px (kx + 1) X W2 from hkN HPX.out hb2)
  have HB2 : Hid (Below w.heap.size w W2) := bt (by rw [HKX.out]; exact HB1.out) hb2
  clear HDX HPX HB1 hb2 HFX
  obtain ⟨x0, x1, x2, x3, x4, x5, x6, x7⟩ := eight_cells QX
  have HOF := hid_of (zof_any X.hi X.lo X.ao X.cap X.n X.s X.c X.mn X.mx X.L (Nat.le_trans OX.out.hl (by decide)) W2 (SX.out.below HB2.out))
  have sF := store_f
  have sC := store_c
  go_upto_region 3 with (first | (go_at_call 6; with_reducible refine Calls.mono HOF.out ?_; rintro e w3 hq; unfold OfQ at hq; obtain ⟨ga, rfl, HGa, hga, HB3⟩ := hq))
  clear HOF x0 x1 x2 x3 x4 x5 x6 x7
  generalize hV3 : w3.alloc (.cells #[.int .i64 X.hi, .int .u64 X.lo, .slice (some ⟨ga, 0, none⟩) X.L.length (X.L.length + 2), .int .u64 (X.n : Int), .complex .f64 X.s X.c, .float .f64 X.mn, .float .f64 X.mx] 32) = V3
  have hb3 : Below w3.heap.size w3 V3 := by rw [← hV3]; exact bel1 _ _
  have HAX : Hid (Ax w3.heap.size ga X V3) := by rw [← hV3]; exact new_1 _ _
  have HG3 := hid_of (show Gx ga X.L V3 from hkN HGa.out hb3)
  have hb23 := bt HB3.out hb3
  have RD := hid_of (hkN QD.out hb23)
  have RX := hid_of (show Px (kx + 1) X V3 from hkN QX.out hb23)
  have HB4 := hid_of (bt HB2.out hb23)
  have HGE := hid_of (Nat.le_trans HB2.out.size hga)
  clear hV3 hb3 hb23 HGa QD QX HB2 HB3 hga
  generalize w3.heap.size = ka at *
  obtain ⟨d0, d1, d2, d3⟩ := four_cellsH RD
  go_upto_region 4 with fail
  generalize hV4 : V3.alloc (.cells #[.int .i64 kd, .string nm, .string hp, .slice la D.length lc] 54) = V4
  have hb4 : Below V3.heap.size V3 V4 := by rw [← hV4]; exact bel1 _ _
  have HM4 : Hid (V4.heap[V3.heap.size]? = some (.cells #[.int .i64 kd, .string nm, .string hp, .slice la D.length lc] 54 (0, 0))) := by rw [← hV4]; exact new_1 _ _
  have RD4 := hid_of (hkN RD.out hb4)
  have RX4 := hid_of (show Px (kx + 1) X V4 from hkN RX.out hb4)
  have AX4 := hid_of (show Ax ka ga X V4 from hkN HAX.out hb4)
  have GX4 := hid_of (show Gx ga X.L V4 from hkN HG3.out hb4)
  have HBw4 := hid_of (bt HB4.out hb4)
  have hlt3 : ∀ {k : Nat} {o : Obj}, V3.heap[k]? = some o → ¬ k = V3.heap.size := fun h e => by have := (Array.getElem?_eq_some_iff.1 h).1; omega
  have HKM := hid_of HB4.out.size
  have HNK := hid_of (And.intro (hlt3 RD.out) (And.intro (hlt3 RX.out) (And.intro (hlt3 HAX.out) (hlt3 HG3.out))))
  clear hV4 hb4 RD RX HAX HG3 HB4 d0 d1 d2 d3 hlt3
  generalize V3.heap.size = km at *
  obtain ⟨cs, hcs, hmk⟩ := madeL D.length (by omega)
  obtain ⟨w5, hw5⟩ : ∃ w5, V4.alloc (.cells cs 56) = w5 := ⟨_, rfl⟩
  have hb5 : Below V4.heap.size V4 w5 := by rw [← hw5]; exact bel1 _ _
  have HZ5 : w5.heap[V4.heap.size]? = some (.cells cs 56 (0, 0)) := by rw [← hw5]; exact new_1 _ _
  have RD5 := hid_of (hkN RD4.out hb5)
  have HBw5 := hid_of (bt HBw4.out hb5)
  obtain ⟨w6, hcp, hP6⟩ := copy_labels 3 V4.heap.size (D.length + 1) (D.length + 1) (.slice la D.length lc) D (SD.out.below HBw5.out) (by omega) cs 56 HZ5 (by omega)
  obtain ⟨r0, r1, HT6⟩ := TL.of hcs hP6.here
  obtain ⟨t0, t1, t2, t3⟩ := TL.facts HT6
  have HP6 := hid_of hP6
  have hlt4 : ∀ {k : Nat} {o : Obj}, V4.heap[k]? = some o → k ≠ V4.heap.size := fun h e => by have := (Array.getElem?_eq_some_iff.1 h).1; omega
  have RD6 := hid_of ((hP6.there _ (hlt4 RD4.out)).trans RD5.out)
  have RX6 := hid_of (show Px (kx + 1) X w6 from (hP6.there _ (hlt4 RX4.out)).trans (hkN RX4.out hb5))
  have AX6 := hid_of (show Ax ka ga X w6 from (hP6.there _ (hlt4 AX4.out)).trans (hkN AX4.out hb5))
  have GX6 := hid_of (show Gx ga X.L w6 from (hP6.there _ (hlt4 GX4.out)).trans (hkN GX4.out hb5))
  have HM6 := hid_of ((hP6.there _ (hlt4 HM4.out)).trans (hkN HM4.out hb5))
  have hws := HBw4.out.size
  have HBw6 := hid_of (hP6.below HBw5.out hws)
  have HSz6 : Hid (V4.heap.size < w6.heap.size) := by unfold Hid; rw [hP6.size]; exact (Array.getElem?_eq_some_iff.1 HZ5).1
  have HWs := hid_of hws
  have hkm := hlt4 HM4.out
  have hka := hlt4 AX4.out
  have hga := hlt4 GX4.out
  have hkx2 := hlt4 RX4.out
  have hkd2 := hlt4 RD4.out
  have HNE := hid_of (And.intro hkm (And.intro hka (And.intro hga (And.intro hkx2 hkd2))))
  obtain ⟨d0, d1, d2, d3⟩ := four_cellsH RD4
  obtain ⟨a0, a1, a2, a3⟩ := four_cellsH RD5
  obtain ⟨e0, e1, e2, e3⟩ := four_cellsH RD6
  obtain ⟨m0, m1, m2, m3⟩ := four_cellsH HM6
  have mf := (four_cells HM6.out).2.2.2.2 3
  clear hb5 hP6 HZ5 hlt4 hws hkm hka hga hkx2 hkd2 hcs HBw5 HBw4 RX4 AX4 GX4
  have i1 : ((D.length : Nat) : Int) < ((D.length + 1 : Nat) : Int) := by omega
  go_upto_region 7 with fail
  clear t0 t1 t2 t3 e0 e1 e2 e3 m0 m1 m2 m3 mf a0 a1 a2 a3 d0 d1 d2 d3
  generalize hw7 : (w6.setCell ⟨V4.heap.size, D.length * 2, none⟩ (.string ⟨#[98, 101, 104, 105, 110, 100]⟩)).setCell ⟨V4.heap.size, D.length * 2 + 1, none⟩ (.string ⟨#[]⟩) = w7
  have hc7 : Chg (fun x => x = V4.heap.size) w6 w7 := by rw [← hw7]; exact chg_moreG (chg_set _ _ _ _) rfl
  have HT7 : Hid (TL w7 V4.heap.size D (.string ⟨#[98, 101, 104, 105, 110, 100]⟩) (.string ⟨#[]⟩)) := by rw [← hw7]; exact HT6.out.set _ _
  have RD7 := hid_of (hc7.at_ RD6.out HNE.out.2.2.2.2)
  have RX7 := hid_of (show Px (kx + 1) X w7 from hc7.at_ RX6.out HNE.out.2.2.2.1)
  have AX7 := hid_of (show Ax ka ga X w7 from hc7.at_ AX6.out HNE.out.2.1)
  have GX7 := hid_of (show Gx ga X.L w7 from hc7.at_ GX6.out HNE.out.2.2.1)
  have HM7 := hid_of (hc7.at_ HM6.out HNE.out.1)
  have HBw7 := hid_of (HBw6.out.trans (hc7.below HBw6.out.size (fun x hx => by rw [hx]; exact HWs.out)))
  have HSz7 : Hid (V4.heap.size < w7.heap.size) := Nat.lt_of_lt_of_le HSz6.out hc7.size
  have HNM := hid_of HNE.out.1
  clear hw7 hc7 HT6 RD6 RX6 AX6 GX6 HM6 HBw6 HSz6 HNE
  generalize V4.heap.size = gl at *
  obtain ⟨e0, e1, e2, e3⟩ := four_cellsH RD7
  obtain ⟨m0, m1, m2, m3⟩ := four_cellsH HM7
  have mf := (four_cells HM7.out).2.2.2.2 3
  have i2 : (0 : Int) ≤ (D.length : Int) := by omega
  have i3 : (D.length : Int) ≤ ((D.length + 1 : Nat) : Int) := by omega
  go_upto_region 8 with fail
  clear e0 e1 e2 e3 m0 m1 m2 m3 mf
  generalize hw8 : w7.setCell ⟨km, 3, none⟩ (.slice (some ⟨gl, 0, none⟩) D.length (D.length + 1)) = w8
  have hc8 : Chg (fun x => x = km) w7 w8 := by rw [← hw8]; exact chg_set _ _ _ _
  have HM8 := by
    have h := heap_setCell_same w7 km 3 _ _ (.slice (some ⟨gl, 0, none⟩) D.length (D.length + 1)) HM7.out
    rw [hw8] at h
    exact h
  have HT8 : Hid (TL w8 gl D (.string ⟨#[98, 101, 104, 105, 110, 100]⟩) (.string ⟨#[]⟩)) := hc8.at_ HT7.out (fun e => HNM.out e.symm)
  have RD8 := hc8.at_ RD7.out HNK.out.1
  have RX8 := show Px (kx + 1) X w8 from hc8.at_ RX7.out HNK.out.2.1
  have AX8 := show Ax ka ga X w8 from hc8.at_ AX7.out HNK.out.2.2.1
  have GX8 := show Gx ga X.L w8 from hc8.at_ GX7.out HNK.out.2.2.2
  have hs7 := HBw7.out.size
  have hkm7 := (Array.getElem?_eq_some_iff.1 HM7.out).1
  have HBw8 := HBw7.out.trans (hc8.below hs7 (fun x hx => by rw [hx]; exact HKM.out))
  have hs8 := hc8.size
  have hsz7 := HSz7.out
  have hgM := (Array.getElem?_eq_some_iff.1 GX8).1
  have hk := HKX.out
  subst hk
  rename_i hKe
  exact sv_want w _ X kd nm hp la lc D w.heap.size km (w.heap.size + 1) ka ga gl SD.out (by omega) RX8 AX8 GX8 HGE.out hgM OX.out SX.out HBw8 RD8 HM8 (TL.lr HT8.out) (TL.facts HT8).1 HWs.out (by omega) HSZ.out _ _ _ _ _ _ _ _ _ _ _ _ _ _ _ _ _ _ _ _ _ _ _ _ _ _ _ _ _ _ _ _ _ _ _ _ _ _ _ _ _ _ _ _ _ _ _ _ _ _ _ _ _ _ _ _ _ _ _ _ _ _ _ _ _ _ _ _ _ _ _ _ _ _ _ _ _ _ _ _ _ _ _ _ _ _ _ _ _ _ _ _ _ _ _ _ _ _ _ _ _ _ _ _ _ _ _ _ _ _ _ _ _ _ _ _ _ _ _ _ _ _ _ _ _ _ _ _ _ _ _ _ _ _ _ _ _ _ _ _ _ _ _ _ _ _ _ _ _ _ _ _ _ _ _ _ _ _ _ _ _ _ _ _ _ _ _ hKe
end Go.Proofs.YtbgdmlekhobjdaaGreat
