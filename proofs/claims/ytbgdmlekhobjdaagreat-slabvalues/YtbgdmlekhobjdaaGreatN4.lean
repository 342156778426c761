/- VALUES: the code's Value. Own work of the verifier. -/
import Derived.Test.YtbgdmlekhobjdaaGreatNX
import Derived.Test.YtbgdmlekhobjdaaGreatV0
namespace Go.Proofs.YtbgdmlekhobjdaaGreat
open Go.RowKit
/-- What the code's Value tells. -/
def CvQ (kd hi lo : Int) (nm hp : ByteArray) (n s c mn mx : Nat) (D : List Lb) (A : List Cn) (w : World) (e : Ending) (w' : World) : Prop := ∃ la lm lc ca cm cc r, e = .returned (vval kd nm hp (.slice la lm lc) (gT kd hi) (gT kd lo) (.slice ca cm cc) (gN kd n) r (gF kd mn) (gF kd mx)) ∧ Hid (OwnL w.heap.size (.slice la lm lc) D w') ∧ Hid (OwnC w.heap.size (.slice ca cm cc) (gC kd A) w') ∧ Hid (Below w.heap.size w w') ∧ Hid (r < 18446744073709551616 ∧ Soft.one r = gF kd (Soft.fa s c))
theorem val_fin {B M : Nat} {w w6 F : World} {lv cv : Value} {D : List Lb} {C : List Cn} (hL : OwnL M lv D w6) (hC : OwnC M cv C w6) (hb : Below B w w6) (hM : B + 1 + 1 + 1 < M) (hS : M ≤ w6.heap.size) (hc : Chg (fun x => x = B + 1 + 1 ∨ x = B + 1 + 1 + 1) w6 F) : Hid (OwnL B lv D F) ∧ Hid (OwnC B cv C F) ∧ Hid (Below B w F) :=
  ⟨own_leG (hc.row hL (fun x hx e => by have := (hL.lt x hx).1; omega)) (by omega), own_leG (hc.row hC (fun x hx e => by have := (hC.lt x hx).1; omega)) (by omega), hb.trans (hc.below (by omega) (fun x hx => by omega))⟩
theorem ownC_nil (B : Nat) (W : World) : OwnC B (.slice none 0 0) [] W := World.ownsRow_nil _ _ _ _
theorem oneZ_zero : Soft.one 0 = 0 := by decide
/-- A part's box, held. -/
abbrev PH (B : Nat) (hi lo : Int) (v : Value) (n s c mn mx : Nat) (W : World) : Prop := W.cell? ⟨B + 1, 0, none⟩ = some (.int .i64 hi) ∧ W.cell? ⟨B + 1, 1, none⟩ = some (.int .u64 lo) ∧ W.cell? ⟨B + 1, 2, none⟩ = some v ∧ W.cell? ⟨B + 1, 3, none⟩ = some (.int .u64 (n : Int)) ∧ W.cell? ⟨B + 1, 4, none⟩ = some (.complex .f64 s c) ∧ W.cell? ⟨B + 1, 5, none⟩ = some (.float .f64 mn) ∧ W.cell? ⟨B + 1, 6, none⟩ = some (.float .f64 mx)
theorem PH.kept {B : Nat} {hi lo : Int} {v : Value} {n s c mn mx : Nat} {W W' : World} (h : PH B hi lo v n s c mn mx W) (k : Below W.heap.size W W') : PH B hi lo v n s c mn mx W' := by
  obtain ⟨c0, c1, c2, c3, c4, c5, c6⟩ := h
  exact ⟨cell_kept k c0, cell_kept k c1, cell_kept k c2, cell_kept k c3, cell_kept k c4, cell_kept k c5, cell_kept k c6⟩
theorem PH.set1 {B : Nat} {hi lo : Int} {v : Value} {n s c mn mx : Nat} {W : World} (h : PH B hi lo v n s c mn mx W) (j : Nat) (u : Value) : PH B hi lo v n s c mn mx (W.setCell ⟨B + 1 + 1 + 1, j, none⟩ u) := by
  obtain ⟨c0, c1, c2, c3, c4, c5, c6⟩ := h
  have k : ∀ (i : Nat) (x : Value), W.cell? ⟨B + 1, i, none⟩ = some x → (W.setCell ⟨B + 1 + 1 + 1, j, none⟩ u).cell? ⟨B + 1, i, none⟩ = some x := fun i x hx => (World.cell?_setCell_other W ⟨B + 1 + 1 + 1, j, none⟩ ⟨B + 1, i, none⟩ u (fun e => by injection e; omega)).trans hx
  exact ⟨k _ _ c0, k _ _ c1, k _ _ c2, k _ _ c3, k _ _ c4, k _ _ c5, k _ _ c6⟩
set_option maxRecDepth 10000 in
set_option maxHeartbeats 8000000 in
theorem cval_1 (hi lo : Int) (nm hp : ByteArray) (la : Option Addr) (lc : Nat) (D : List Lb) (ca : Option Addr) (cc n s c mn mx : Nat) (A : List Cn) (w : World) (hD : SLb w (.slice la D.length lc) D) (hA : SN w (.slice ca A.length cc) A) (hlD : D.length ≤ 1048576) (_hlA : A.length ≤ 1048576) (hs : s < 18446744073709551616) (hc : c < 18446744073709551616) :
    Calls Tryz.prog 16 #[.agg #[.int .i64 1, .string nm, .string hp, .slice la D.length lc], part hi lo (.slice ca A.length cc) n s c mn mx] w fun e w' => CvQ 1 hi lo nm hp n s c mn mx D A w e w' := by
  have sF := store_f
  have HTO : Hid (∀ W, Calls Tryz.prog 37 #[.complex .f64 s c] W fun e w' => ∃ r, e = .returned (.float .f64 r) ∧ Hid (Below W.heap.size W w') ∧ Hid (r < 18446744073709551616 ∧ Soft.one r = Soft.fa s c)) := fun W => (Pr.zptotal s c hs hc W).mono fun e w' ⟨r, k, e1, e2, e3, e4⟩ => ⟨r, e1, by rw [e2]; exact below_drew W k, e3, e4⟩
  clear hs hc
  go_enter Tryz.func16, Tryz.ntmps16
  go_upto_region 2 with fail
  generalize hw4 : (((w.alloc (.cells #[.int .i64 1, .string nm, .string hp, .slice la D.length lc] 54)).alloc (.cells #[.int .i64 hi, .int .u64 lo, .slice ca A.length cc, .int .u64 (n : Int), .complex .f64 s c, .float .f64 mn, .float .f64 mx] 32)).alloc (.cells #[.int .i64 0, .string ⟨#[]⟩, .string ⟨#[]⟩, .slice none 0 0, .int .i64 0, .int .u64 0, .slice none 0 0, .int .u64 0, .float .f64 0, .float .f64 0, .float .f64 0] 58)).alloc (.cells #[.int .i64 1, .string nm, .string hp, .slice la D.length lc, .int .i64 0, .int .u64 0, .slice none 0 0, .int .u64 0, .float .f64 0, .float .f64 0, .float .f64 0] 58) = w4
  have HB4 : Hid (Below w.heap.size w w4) := by rw [← hw4]; exact bel4 _ _ _ _ _
  have HD : Hid (w4.heap[w.heap.size]? = some (.cells #[.int .i64 1, .string nm, .string hp, .slice la D.length lc] 54 (0, 0))) := by rw [← hw4]; exact new4_0 _ _ _ _ _
  have HP : Hid (w4.heap[w.heap.size + 1]? = some (.cells #[.int .i64 hi, .int .u64 lo, .slice ca A.length cc, .int .u64 (n : Int), .complex .f64 s c, .float .f64 mn, .float .f64 mx] 32 (0, 0))) := by rw [← hw4]; exact new4_1 _ _ _ _ _
  have HR : Hid (w4.heap[w.heap.size + 1 + 1]? = some (.cells #[.int .i64 0, .string ⟨#[]⟩, .string ⟨#[]⟩, .slice none 0 0, .int .i64 0, .int .u64 0, .slice none 0 0, .int .u64 0, .float .f64 0, .float .f64 0, .float .f64 0] 58 (0, 0))) := by rw [← hw4]; exact new4_2 _ _ _ _ _
  have HV : Hid (w4.heap[w.heap.size + 1 + 1 + 1]? = some (.cells #[.int .i64 1, .string nm, .string hp, .slice la D.length lc, .int .i64 0, .int .u64 0, .slice none 0 0, .int .u64 0, .float .f64 0, .float .f64 0, .float .f64 0] 58 (0, 0))) := by rw [← hw4]; exact new4_3 _ _ _ _ _
  have HSL := hid_of (hD.below HB4.out)
  have HSC := hid_of (hA.below HB4.out)
  have hA0 := hid_of hA
  clear hD hA
  obtain ⟨d0, d1, d2, d3⟩ := four_cellsH HD
  clear hw4
  generalize hB : w.heap.size = B at *
  have HBB := hid_of hB
  clear hB
  obtain ⟨v0, v1, v2, v3, v4, v5, v6, v7, v8, v9, v10⟩ := eleven_cells HV
  obtain ⟨f0, f1, f2, f3, f4, f5, f6, f7, f8, f9, f10⟩ := eleven_fr HV
  go_upto_region 3 with (first
    | (at_builtin; refine wpList_run _ rfl _ _ 52 rfl (.slice none 0 0) (.slice la D.length lc) rfl rfl (run_copyL HSL.out hlD _) ?_; intro lv w5 hq5; obtain ⟨hq5, hb5⟩ := hq5; obtain ⟨a5, b5, c5, rfl, -⟩ := own_slice hq5; have HL5 := hid_of hq5; have HV5 := hid_of (hkN HV.out hb5); have HB5 := hid_of hb5; have v3' := (eleven_cells HV5).2.2.2.1; have f3' := (eleven_fr HV5).2.2.2.1))
  have hM : B + 1 + 1 + 1 < w4.heap.size := (Array.getElem?_eq_some_iff.1 HV.out).1
  have HV6 : Hid ((w5.setCell ⟨B + 1 + 1 + 1, 3, none⟩ (.slice a5 D.length c5)).heap[B + 1 + 1 + 1]? = some (.cells #[.int .i64 1, .string nm, .string hp, .slice a5 D.length c5, .int .i64 0, .int .u64 0, .slice none 0 0, .int .u64 0, .float .f64 0, .float .f64 0, .float .f64 0] 58 (0, 0))) := by unfold Hid; rw [heap_setCell_same _ _ 3 _ _ _ HV5.out]; rfl
  have hc6 := chg_set w5 (B + 1 + 1 + 1) 3 (.slice a5 D.length c5)
  have HD6 := hid_of (hc6.at_ (hkN HD.out HB5.out) (by omega))
  have HP6 := hid_of (hc6.at_ (hkN HP.out HB5.out) (by omega))
  have HR6 := hid_of (hc6.at_ (hkN HR.out HB5.out) (by omega))
  have HL6 : Hid (OwnL w4.heap.size (.slice a5 D.length c5) D (w5.setCell ⟨B + 1 + 1 + 1, 3, none⟩ (.slice a5 D.length c5))) := hc6.row HL5.out (fun x hx e => by have := (HL5.out.lt x hx).1; omega)
  have HB6 : Hid (Below B w (w5.setCell ⟨B + 1 + 1 + 1, 3, none⟩ (.slice a5 D.length c5))) := HB4.out.trans ((HB5.out.mono (by omega)).trans (hc6.below (by have := HB5.out.size; omega) (fun x hx => by omega)))
  have HS6 : Hid (w4.heap.size ≤ (w5.setCell ⟨B + 1 + 1 + 1, 3, none⟩ (.slice a5 D.length c5)).heap.size) := Nat.le_trans HB5.out.size hc6.size
  have HM := hid_of hM
  clear hc6 hM HV5 HB5 HL5 HD HP HR HV HB4 HSL d0 d1 d2 d3 v0 f0 v1 f1 v2 f2 v3 f3 v4 f4 v5 f5 v6 f6 v7 f7 v8 f8 v9 f9 v10 f10 v3' f3' hq5 hb5
  generalize w5.setCell ⟨B + 1 + 1 + 1, 3, none⟩ (.slice a5 D.length c5) = w6 at *
  generalize w4.heap.size = M at *
  obtain ⟨d0, d1, d2, d3⟩ := four_cellsH HD6
  obtain ⟨p0, p1, p2, p3, p4, p5, p6⟩ := seven_cells HP6
  obtain ⟨v0, v1, v2, v3, v4, v5, v6, v7, v8, v9, v10⟩ := eleven_cells HV6
  obtain ⟨f0, f1, f2, f3, f4, f5, f6, f7, f8, f9, f10⟩ := eleven_fr HV6
  go_upto_region 11 with fail
  have HV7 : Hid (((w6.setCell ⟨B + 1 + 1 + 1, 4, none⟩ (.int .i64 hi)).setCell ⟨B + 1 + 1 + 1, 5, none⟩ (.int .u64 lo)).heap[B + 1 + 1 + 1]? = some (.cells #[.int .i64 1, .string nm, .string hp, .slice a5 D.length c5, .int .i64 hi, .int .u64 lo, .slice none 0 0, .int .u64 0, .float .f64 0, .float .f64 0, .float .f64 0] 58 (0, 0))) := by unfold Hid; rw [heap_setCell_same _ _ 5 _ _ _ (heap_setCell_same _ _ 4 _ _ _ HV6.out)]; rfl
  have hc7 : Chg (fun x => x = B + 1 + 1 ∨ x = B + 1 + 1 + 1) w6 ((w6.setCell ⟨B + 1 + 1 + 1, 4, none⟩ (.int .i64 hi)).setCell ⟨B + 1 + 1 + 1, 5, none⟩ (.int .u64 lo)) := chg_moreG (chg_moreG (Chg.refl _ _) (Or.inr rfl)) (Or.inr rfl)
  have HR7 := hid_of (((chg_set w6 (B + 1 + 1 + 1) 4 (.int .i64 hi)).trans (chg_set _ (B + 1 + 1 + 1) 5 (.int .u64 lo)) (fun x hx => Or.inl hx)).at_ HR6.out (by omega))
  rename_i hKe
  refine cval_tail B _ 1 hi lo nm hp a5 none D.length c5 0 0 0 0 0 0 _ HV7 HR7 ?_ _ _ _ _ _ _ _ _ _ _ _ _ _ _ _ _ _ _ _ _ _ _ _ _ _ _ _ _ _ _ _ _ _ _ _ _ _ _ _ _ _ _ _ _ _ _ _ hKe
  have hf := fun (t0 t1 t2 t3 t4 t5 t6 t7 t8 t9 t10 : Value) => val_fin HL6.out (ownC_nil M w6) HB6.out HM.out HS6.out (hc7.trans (chg_put11 _ _ t0 t1 t2 t3 t4 t5 t6 t7 t8 t9 t10) (fun x hx => Or.inl (Or.inl hx)))
  have hBB := HBB.out
  subst hBB
  exact ⟨a5, D.length, c5, none, 0, 0, 0, rfl, (hf _ _ _ _ _ _ _ _ _ _ _).1, (hf _ _ _ _ _ _ _ _ _ _ _).2.1, (hf _ _ _ _ _ _ _ _ _ _ _).2.2, by decide, by rw [show gF 1 (Soft.fa s c) = 0 from if_neg (by decide)]; exact oneZ_zero⟩
set_option maxRecDepth 10000 in
set_option maxHeartbeats 8000000 in
theorem cval_0 (kd hi lo : Int) (nm hp : ByteArray) (la : Option Addr) (lc : Nat) (D : List Lb) (ca : Option Addr) (cc n s c mn mx : Nat) (A : List Cn) (w : World) (hD : SLb w (.slice la D.length lc) D) (hA : SN w (.slice ca A.length cc) A) (hlD : D.length ≤ 1048576) (_hlA : A.length ≤ 1048576) (hs : s < 18446744073709551616) (hc : c < 18446744073709551616) (g1 : ¬ kd = 1) (g2 : ¬ kd = 2) (g3 : ¬ kd = 3) :
    Calls Tryz.prog 16 #[.agg #[.int .i64 kd, .string nm, .string hp, .slice la D.length lc], part hi lo (.slice ca A.length cc) n s c mn mx] w fun e w' => CvQ kd hi lo nm hp n s c mn mx D A w e w' := by
  have sF := store_f
  have HTO : Hid (∀ W, Calls Tryz.prog 37 #[.complex .f64 s c] W fun e w' => ∃ r, e = .returned (.float .f64 r) ∧ Hid (Below W.heap.size W w') ∧ Hid (r < 18446744073709551616 ∧ Soft.one r = Soft.fa s c)) := fun W => (Pr.zptotal s c hs hc W).mono fun e w' ⟨r, k, e1, e2, e3, e4⟩ => ⟨r, e1, by rw [e2]; exact below_drew W k, e3, e4⟩
  clear hs hc
  go_enter Tryz.func16, Tryz.ntmps16
  go_upto_region 2 with fail
  generalize hw4 : (((w.alloc (.cells #[.int .i64 kd, .string nm, .string hp, .slice la D.length lc] 54)).alloc (.cells #[.int .i64 hi, .int .u64 lo, .slice ca A.length cc, .int .u64 (n : Int), .complex .f64 s c, .float .f64 mn, .float .f64 mx] 32)).alloc (.cells #[.int .i64 0, .string ⟨#[]⟩, .string ⟨#[]⟩, .slice none 0 0, .int .i64 0, .int .u64 0, .slice none 0 0, .int .u64 0, .float .f64 0, .float .f64 0, .float .f64 0] 58)).alloc (.cells #[.int .i64 kd, .string nm, .string hp, .slice la D.length lc, .int .i64 0, .int .u64 0, .slice none 0 0, .int .u64 0, .float .f64 0, .float .f64 0, .float .f64 0] 58) = w4
  have HB4 : Hid (Below w.heap.size w w4) := by rw [← hw4]; exact bel4 _ _ _ _ _
  have HD : Hid (w4.heap[w.heap.size]? = some (.cells #[.int .i64 kd, .string nm, .string hp, .slice la D.length lc] 54 (0, 0))) := by rw [← hw4]; exact new4_0 _ _ _ _ _
  have HP : Hid (w4.heap[w.heap.size + 1]? = some (.cells #[.int .i64 hi, .int .u64 lo, .slice ca A.length cc, .int .u64 (n : Int), .complex .f64 s c, .float .f64 mn, .float .f64 mx] 32 (0, 0))) := by rw [← hw4]; exact new4_1 _ _ _ _ _
  have HR : Hid (w4.heap[w.heap.size + 1 + 1]? = some (.cells #[.int .i64 0, .string ⟨#[]⟩, .string ⟨#[]⟩, .slice none 0 0, .int .i64 0, .int .u64 0, .slice none 0 0, .int .u64 0, .float .f64 0, .float .f64 0, .float .f64 0] 58 (0, 0))) := by rw [← hw4]; exact new4_2 _ _ _ _ _
  have HV : Hid (w4.heap[w.heap.size + 1 + 1 + 1]? = some (.cells #[.int .i64 kd, .string nm, .string hp, .slice la D.length lc, .int .i64 0, .int .u64 0, .slice none 0 0, .int .u64 0, .float .f64 0, .float .f64 0, .float .f64 0] 58 (0, 0))) := by rw [← hw4]; exact new4_3 _ _ _ _ _
  have HSL := hid_of (hD.below HB4.out)
  have HSC := hid_of (hA.below HB4.out)
  have hA0 := hid_of hA
  clear hD hA
  obtain ⟨d0, d1, d2, d3⟩ := four_cellsH HD
  clear hw4
  generalize hB : w.heap.size = B at *
  have HBB := hid_of hB
  clear hB
  obtain ⟨v0, v1, v2, v3, v4, v5, v6, v7, v8, v9, v10⟩ := eleven_cells HV
  obtain ⟨f0, f1, f2, f3, f4, f5, f6, f7, f8, f9, f10⟩ := eleven_fr HV
  go_upto_region 3 with (first
    | (at_builtin; refine wpList_run _ rfl _ _ 52 rfl (.slice none 0 0) (.slice la D.length lc) rfl rfl (run_copyL HSL.out hlD _) ?_; intro lv w5 hq5; obtain ⟨hq5, hb5⟩ := hq5; obtain ⟨a5, b5, c5, rfl, -⟩ := own_slice hq5; have HL5 := hid_of hq5; have HV5 := hid_of (hkN HV.out hb5); have HB5 := hid_of hb5; have v3' := (eleven_cells HV5).2.2.2.1; have f3' := (eleven_fr HV5).2.2.2.1))
  have hM : B + 1 + 1 + 1 < w4.heap.size := (Array.getElem?_eq_some_iff.1 HV.out).1
  have HV6 : Hid ((w5.setCell ⟨B + 1 + 1 + 1, 3, none⟩ (.slice a5 D.length c5)).heap[B + 1 + 1 + 1]? = some (.cells #[.int .i64 kd, .string nm, .string hp, .slice a5 D.length c5, .int .i64 0, .int .u64 0, .slice none 0 0, .int .u64 0, .float .f64 0, .float .f64 0, .float .f64 0] 58 (0, 0))) := by unfold Hid; rw [heap_setCell_same _ _ 3 _ _ _ HV5.out]; rfl
  have hc6 := chg_set w5 (B + 1 + 1 + 1) 3 (.slice a5 D.length c5)
  have HD6 := hid_of (hc6.at_ (hkN HD.out HB5.out) (by omega))
  have HP6 := hid_of (hc6.at_ (hkN HP.out HB5.out) (by omega))
  have HR6 := hid_of (hc6.at_ (hkN HR.out HB5.out) (by omega))
  have HL6 : Hid (OwnL w4.heap.size (.slice a5 D.length c5) D (w5.setCell ⟨B + 1 + 1 + 1, 3, none⟩ (.slice a5 D.length c5))) := hc6.row HL5.out (fun x hx e => by have := (HL5.out.lt x hx).1; omega)
  have HB6 : Hid (Below B w (w5.setCell ⟨B + 1 + 1 + 1, 3, none⟩ (.slice a5 D.length c5))) := HB4.out.trans ((HB5.out.mono (by omega)).trans (hc6.below (by have := HB5.out.size; omega) (fun x hx => by omega)))
  have HS6 : Hid (w4.heap.size ≤ (w5.setCell ⟨B + 1 + 1 + 1, 3, none⟩ (.slice a5 D.length c5)).heap.size) := Nat.le_trans HB5.out.size hc6.size
  have HM := hid_of hM
  clear hc6 hM HV5 HB5 HL5 HD HP HR HV HB4 HSL d0 d1 d2 d3 v0 f0 v1 f1 v2 f2 v3 f3 v4 f4 v5 f5 v6 f6 v7 f7 v8 f8 v9 f9 v10 f10 v3' f3' hq5 hb5
  generalize w5.setCell ⟨B + 1 + 1 + 1, 3, none⟩ (.slice a5 D.length c5) = w6 at *
  generalize w4.heap.size = M at *
  obtain ⟨d0, d1, d2, d3⟩ := four_cellsH HD6
  obtain ⟨p0, p1, p2, p3, p4, p5, p6⟩ := seven_cells HP6
  obtain ⟨v0, v1, v2, v3, v4, v5, v6, v7, v8, v9, v10⟩ := eleven_cells HV6
  obtain ⟨f0, f1, f2, f3, f4, f5, f6, f7, f8, f9, f10⟩ := eleven_fr HV6
  go_upto_region 11 with fail
  rename_i hKe
  refine cval_tail B _ kd 0 0 nm hp a5 none D.length c5 0 0 0 0 0 0 _ HV6 HR6 ?_ _ _ _ _ _ _ _ _ _ _ _ _ _ _ _ _ _ _ _ _ _ _ _ _ _ _ _ _ _ _ _ _ _ _ _ _ _ _ _ _ _ _ _ _ _ _ _ hKe
  have hf := fun (t0 t1 t2 t3 t4 t5 t6 t7 t8 t9 t10 : Value) => val_fin HL6.out (ownC_nil M w6) HB6.out HM.out HS6.out (Chg.trans (Chg.refl _ _) (chg_put11 _ _ t0 t1 t2 t3 t4 t5 t6 t7 t8 t9 t10) (fun x hx => Or.inl (Or.inl hx)))
  have hBB := HBB.out
  subst hBB
  have e1 : gT kd hi = 0 := by unfold gT; rw [if_neg (by omega)]
  have e2 : gT kd lo = 0 := by unfold gT; rw [if_neg (by omega)]
  have e3 : gC kd A = [] := by unfold gC; rw [if_neg g2]
  have e4 : gN kd n = 0 := by unfold gN; rw [if_neg (by omega)]
  have e5 : ∀ x, gF kd x = 0 := fun x => by unfold gF; rw [if_neg g3]
  refine ⟨a5, D.length, c5, none, 0, 0, 0, ?_, (hf _ _ _ _ _ _ _ _ _ _ _).1, ?_, (hf _ _ _ _ _ _ _ _ _ _ _).2.2, by decide, ?_⟩
  · rw [e1, e2, e4, e5, e5]
  · rw [e3]; exact (hf _ _ _ _ _ _ _ _ _ _ _).2.1
  · rw [e5]; exact oneZ_zero
set_option maxRecDepth 10000 in
set_option maxHeartbeats 8000000 in
theorem cval_2 (hi lo : Int) (nm hp : ByteArray) (la : Option Addr) (lc : Nat) (D : List Lb) (ca : Option Addr) (cc n s c mn mx : Nat) (A : List Cn) (w : World) (hD : SLb w (.slice la D.length lc) D) (hA : SN w (.slice ca A.length cc) A) (hlD : D.length ≤ 1048576) (hlA : A.length ≤ 1048576) (hs : s < 18446744073709551616) (hc : c < 18446744073709551616) :
    Calls Tryz.prog 16 #[.agg #[.int .i64 2, .string nm, .string hp, .slice la D.length lc], part hi lo (.slice ca A.length cc) n s c mn mx] w fun e w' => CvQ 2 hi lo nm hp n s c mn mx D A w e w' := by
  have sF := store_f
  have HTO : Hid (∀ W, Calls Tryz.prog 37 #[.complex .f64 s c] W fun e w' => ∃ r, e = .returned (.float .f64 r) ∧ Hid (Below W.heap.size W w') ∧ Hid (r < 18446744073709551616 ∧ Soft.one r = Soft.fa s c)) := fun W => (Pr.zptotal s c hs hc W).mono fun e w' ⟨r, k, e1, e2, e3, e4⟩ => ⟨r, e1, by rw [e2]; exact below_drew W k, e3, e4⟩
  clear hs hc
  go_enter Tryz.func16, Tryz.ntmps16
  go_upto_region 2 with fail
  generalize hw4 : (((w.alloc (.cells #[.int .i64 2, .string nm, .string hp, .slice la D.length lc] 54)).alloc (.cells #[.int .i64 hi, .int .u64 lo, .slice ca A.length cc, .int .u64 (n : Int), .complex .f64 s c, .float .f64 mn, .float .f64 mx] 32)).alloc (.cells #[.int .i64 0, .string ⟨#[]⟩, .string ⟨#[]⟩, .slice none 0 0, .int .i64 0, .int .u64 0, .slice none 0 0, .int .u64 0, .float .f64 0, .float .f64 0, .float .f64 0] 58)).alloc (.cells #[.int .i64 2, .string nm, .string hp, .slice la D.length lc, .int .i64 0, .int .u64 0, .slice none 0 0, .int .u64 0, .float .f64 0, .float .f64 0, .float .f64 0] 58) = w4
  have HB4 : Hid (Below w.heap.size w w4) := by rw [← hw4]; exact bel4 _ _ _ _ _
  have HD : Hid (w4.heap[w.heap.size]? = some (.cells #[.int .i64 2, .string nm, .string hp, .slice la D.length lc] 54 (0, 0))) := by rw [← hw4]; exact new4_0 _ _ _ _ _
  have HP : Hid (w4.heap[w.heap.size + 1]? = some (.cells #[.int .i64 hi, .int .u64 lo, .slice ca A.length cc, .int .u64 (n : Int), .complex .f64 s c, .float .f64 mn, .float .f64 mx] 32 (0, 0))) := by rw [← hw4]; exact new4_1 _ _ _ _ _
  have HR : Hid (w4.heap[w.heap.size + 1 + 1]? = some (.cells #[.int .i64 0, .string ⟨#[]⟩, .string ⟨#[]⟩, .slice none 0 0, .int .i64 0, .int .u64 0, .slice none 0 0, .int .u64 0, .float .f64 0, .float .f64 0, .float .f64 0] 58 (0, 0))) := by rw [← hw4]; exact new4_2 _ _ _ _ _
  have HV : Hid (w4.heap[w.heap.size + 1 + 1 + 1]? = some (.cells #[.int .i64 2, .string nm, .string hp, .slice la D.length lc, .int .i64 0, .int .u64 0, .slice none 0 0, .int .u64 0, .float .f64 0, .float .f64 0, .float .f64 0] 58 (0, 0))) := by rw [← hw4]; exact new4_3 _ _ _ _ _
  have HSL := hid_of (hD.below HB4.out)
  have HSC := hid_of (hA.below HB4.out)
  have hA0 := hid_of hA
  clear hD hA
  obtain ⟨d0, d1, d2, d3⟩ := four_cellsH HD
  clear hw4
  generalize hB : w.heap.size = B at *
  have HBB := hid_of hB
  clear hB
  obtain ⟨v0, v1, v2, v3, v4, v5, v6, v7, v8, v9, v10⟩ := eleven_cells HV
  obtain ⟨f0, f1, f2, f3, f4, f5, f6, f7, f8, f9, f10⟩ := eleven_fr HV
  go_upto_region 3 with (first
    | (at_builtin; refine wpList_run _ rfl _ _ 52 rfl (.slice none 0 0) (.slice la D.length lc) rfl rfl (run_copyL HSL.out hlD _) ?_; intro lv w5 hq5; obtain ⟨hq5, hb5⟩ := hq5; obtain ⟨a5, b5, c5, rfl, -⟩ := own_slice hq5; have HL5 := hid_of hq5; have HV5 := hid_of (hkN HV.out hb5); have HB5 := hid_of hb5; have v3' := (eleven_cells HV5).2.2.2.1; have f3' := (eleven_fr HV5).2.2.2.1))
  have hM : B + 1 + 1 + 1 < w4.heap.size := (Array.getElem?_eq_some_iff.1 HV.out).1
  have HV6 : Hid ((w5.setCell ⟨B + 1 + 1 + 1, 3, none⟩ (.slice a5 D.length c5)).heap[B + 1 + 1 + 1]? = some (.cells #[.int .i64 2, .string nm, .string hp, .slice a5 D.length c5, .int .i64 0, .int .u64 0, .slice none 0 0, .int .u64 0, .float .f64 0, .float .f64 0, .float .f64 0] 58 (0, 0))) := by unfold Hid; rw [heap_setCell_same _ _ 3 _ _ _ HV5.out]; rfl
  have hc6 := chg_set w5 (B + 1 + 1 + 1) 3 (.slice a5 D.length c5)
  have HD6 := hid_of (hc6.at_ (hkN HD.out HB5.out) (by omega))
  have HP6 := hid_of (hc6.at_ (hkN HP.out HB5.out) (by omega))
  have HR6 := hid_of (hc6.at_ (hkN HR.out HB5.out) (by omega))
  have HL6 : Hid (OwnL w4.heap.size (.slice a5 D.length c5) D (w5.setCell ⟨B + 1 + 1 + 1, 3, none⟩ (.slice a5 D.length c5))) := hc6.row HL5.out (fun x hx e => by have := (HL5.out.lt x hx).1; omega)
  have HB6 : Hid (Below B w (w5.setCell ⟨B + 1 + 1 + 1, 3, none⟩ (.slice a5 D.length c5))) := HB4.out.trans ((HB5.out.mono (by omega)).trans (hc6.below (by have := HB5.out.size; omega) (fun x hx => by omega)))
  have HS6 : Hid (w4.heap.size ≤ (w5.setCell ⟨B + 1 + 1 + 1, 3, none⟩ (.slice a5 D.length c5)).heap.size) := Nat.le_trans HB5.out.size hc6.size
  have HM := hid_of hM
  clear hc6 hM HV5 HB5 HL5 HD HP HR HV HB4 HSL d0 d1 d2 d3 v0 f0 v1 f1 v2 f2 v3 f3 v4 f4 v5 f5 v6 f6 v7 f7 v8 f8 v9 f9 v10 f10 v3' f3' hq5 hb5
  generalize w5.setCell ⟨B + 1 + 1 + 1, 3, none⟩ (.slice a5 D.length c5) = w6 at *
  generalize w4.heap.size = M at *
  obtain ⟨d0, d1, d2, d3⟩ := four_cellsH HD6
  obtain ⟨p0, p1, p2, p3, p4, p5, p6⟩ := seven_cells HP6
  obtain ⟨v0, v1, v2, v3, v4, v5, v6, v7, v8, v9, v10⟩ := eleven_cells HV6
  obtain ⟨f0, f1, f2, f3, f4, f5, f6, f7, f8, f9, f10⟩ := eleven_fr HV6
  go_upto_region 7 with fail
  go_cut [20] from 22 (fun _ V => Hid (V.heap[B + 1 + 1 + 1]? = some (.cells #[.int .i64 2, .string nm, .string hp, .slice a5 D.length c5, .int .i64 hi, .int .u64 lo, .slice none 0 0, .int .u64 (n : Int), .float .f64 0, .float .f64 0, .float .f64 0] 58 (0, 0))) ∧ Hid (Chg (fun x => x = B + 1 + 1 + 1) w6 V))
  case first =>
    go_region
    go_wp2_with fail
    go_meet
    have e1 : (((w6.setCell ⟨B + 1 + 1 + 1, 4, none⟩ (.int .i64 hi)).setCell ⟨B + 1 + 1 + 1, 5, none⟩ (.int .u64 lo)).setCell ⟨B + 1 + 1 + 1, 7, none⟩ (.int .u64 (n : Int))).heap[B + 1 + 1 + 1]? = some (.cells #[.int .i64 2, .string nm, .string hp, .slice a5 D.length c5, .int .i64 hi, .int .u64 lo, .slice none 0 0, .int .u64 (n : Int), .float .f64 0, .float .f64 0, .float .f64 0] 58 (0, 0)) := by rw [heap_setCell_same _ _ 7 _ _ _ (heap_setCell_same _ _ 5 _ _ _ (heap_setCell_same _ _ 4 _ _ _ HV6.out))]; rfl
    have e2 : Chg (fun x => x = B + 1 + 1 + 1) w6 (((w6.setCell ⟨B + 1 + 1 + 1, 4, none⟩ (.int .i64 hi)).setCell ⟨B + 1 + 1 + 1, 5, none⟩ (.int .u64 lo)).setCell ⟨B + 1 + 1 + 1, 7, none⟩ (.int .u64 (n : Int))) := chg_moreG (chg_moreG (chg_moreG (Chg.refl _ _) rfl) rfl) rfl
    exact ⟨e1, ⟨e2.os, e2.tape, e2.output, e2.size, e2.block⟩⟩
  case rest =>
  obtain ⟨HV7, HC7⟩ := hcut
  have HP7 := hid_of (HC7.out.at_ HP6.out (by omega))
  have HR7 := hid_of (HC7.out.at_ HR6.out (by omega))
  have hm := HM.out
  have HL7 : Hid (OwnL M (.slice a5 D.length c5) D wc) := HC7.out.row HL6.out (fun x hx e => by have := (HL6.out.lt x hx).1; omega)
  have HB7 : Hid (Below B w wc) := HB6.out.trans (HC7.out.below (by have := HS6.out; omega) (fun x hx => by omega))
  have HS7 := hid_of (Nat.le_trans HS6.out HC7.out.size)
  have HSN7 := hid_of (hA0.out.below (show Below w.heap.size w wc by rw [HBB.out]; exact HB7.out))
  clear HV6 HP6 HR6 HL6 HB6 HS6 HC7 HD6 HSC hm d0 d1 d2 d3 p0 p1 p2 p3 p4 p5 p6 v0 f0 v1 f1 v2 f2 v3 f3 v4 f4 v5 f5 v6 f6 v7 f7 v8 f8 v9 f9 v10 f10
  obtain ⟨p0, p1, p2, p3, p4, p5, p6⟩ := seven_cells HP7
  obtain ⟨v0, v1, v2, v3, v4, v5, v6, v7, v8, v9, v10⟩ := eleven_cells HV7
  obtain ⟨f0, f1, f2, f3, f4, f5, f6, f7, f8, f9, f10⟩ := eleven_fr HV7
  go_upto_region 11 with (first
    | (at_builtin; refine wpList_run _ rfl _ _ 25 rfl (.slice none 0 0) (.slice ca A.length cc) rfl rfl (run_copyC HSN7.out hlA _) ?_; intro cv w8 hq8; obtain ⟨hq8, hb8⟩ := hq8; obtain ⟨a8, b8, c8, rfl, -⟩ := own_slice hq8; have HC8 := hid_of hq8; have HV8 := hid_of (hkN HV7.out hb8); have HB8 := hid_of hb8; have v6' := (eleven_cells HV8).2.2.2.2.2.2.1; have f6' := (eleven_fr HV8).2.2.2.2.2.2.1))
  have HV9 : Hid ((w8.setCell ⟨B + 1 + 1 + 1, 6, none⟩ (.slice a8 A.length c8)).heap[B + 1 + 1 + 1]? = some (.cells #[.int .i64 2, .string nm, .string hp, .slice a5 D.length c5, .int .i64 hi, .int .u64 lo, .slice a8 A.length c8, .int .u64 (n : Int), .float .f64 0, .float .f64 0, .float .f64 0] 58 (0, 0))) := by unfold Hid; rw [heap_setCell_same _ _ 6 _ _ _ HV8.out]; rfl
  have hc9 := chg_set w8 (B + 1 + 1 + 1) 6 (.slice a8 A.length c8)
  have HR9 := hid_of (hc9.at_ (hkN HR7.out HB8.out) (by omega))
  have hs7 := HS7.out
  have hs8 := HB8.out.size
  have hf := fun (t0 t1 t2 t3 t4 t5 t6 t7 t8 t9 t10 : Value) => val_fin (HL7.out.bel HB8.out) (own_leG HC8.out hs7) (HB7.out.trans (HB8.out.mono (by have := HM.out; omega))) HM.out (Nat.le_trans hs7 hs8) ((Chg.trans (Chg.refl (fun x => x = B + 1 + 1 ∨ x = B + 1 + 1 + 1) _) hc9 (fun x hx => Or.inl (Or.inr hx))).trans (chg_put11 _ (B + 1 + 1) t0 t1 t2 t3 t4 t5 t6 t7 t8 t9 t10) (fun x hx => Or.inl (Or.inl hx)))
  rename_i hKe
  refine cval_tail B _ 2 hi lo nm hp a5 a8 D.length c5 A.length c8 n 0 0 0 _ HV9 HR9 ?_ _ _ _ _ _ _ _ _ _ _ _ _ _ _ _ _ _ _ _ _ _ _ _ _ _ _ _ _ _ _ _ _ _ _ _ _ _ _ _ _ _ _ _ _ _ _ _ hKe
  have hBB := HBB.out
  subst hBB
  exact ⟨a5, D.length, c5, a8, A.length, c8, 0, rfl, (hf _ _ _ _ _ _ _ _ _ _ _).1, (hf _ _ _ _ _ _ _ _ _ _ _).2.1, (hf _ _ _ _ _ _ _ _ _ _ _).2.2, by decide, by rw [show gF 2 (Soft.fa s c) = 0 from if_neg (by decide)]; exact oneZ_zero⟩
set_option maxRecDepth 10000 in
set_option maxHeartbeats 8000000 in
theorem cval_3 (hi lo : Int) (nm hp : ByteArray) (la : Option Addr) (lc : Nat) (D : List Lb) (ca : Option Addr) (cc n s c mn mx : Nat) (A : List Cn) (w : World) (hD : SLb w (.slice la D.length lc) D) (hA : SN w (.slice ca A.length cc) A) (hlD : D.length ≤ 1048576) (_hlA : A.length ≤ 1048576) (hs : s < 18446744073709551616) (hc : c < 18446744073709551616) :
    Calls Tryz.prog 16 #[.agg #[.int .i64 3, .string nm, .string hp, .slice la D.length lc], part hi lo (.slice ca A.length cc) n s c mn mx] w fun e w' => CvQ 3 hi lo nm hp n s c mn mx D A w e w' := by
  have sF := store_f
  have HTO : Hid (∀ W, Calls Tryz.prog 37 #[.complex .f64 s c] W fun e w' => ∃ r, e = .returned (.float .f64 r) ∧ Hid (Below W.heap.size W w') ∧ Hid (r < 18446744073709551616 ∧ Soft.one r = Soft.fa s c)) := fun W => (Pr.zptotal s c hs hc W).mono fun e w' ⟨r, k, e1, e2, e3, e4⟩ => ⟨r, e1, by rw [e2]; exact below_drew W k, e3, e4⟩
  clear hs hc
  go_enter Tryz.func16, Tryz.ntmps16
  go_upto_region 2 with fail
  generalize hw4 : (((w.alloc (.cells #[.int .i64 3, .string nm, .string hp, .slice la D.length lc] 54)).alloc (.cells #[.int .i64 hi, .int .u64 lo, .slice ca A.length cc, .int .u64 (n : Int), .complex .f64 s c, .float .f64 mn, .float .f64 mx] 32)).alloc (.cells #[.int .i64 0, .string ⟨#[]⟩, .string ⟨#[]⟩, .slice none 0 0, .int .i64 0, .int .u64 0, .slice none 0 0, .int .u64 0, .float .f64 0, .float .f64 0, .float .f64 0] 58)).alloc (.cells #[.int .i64 3, .string nm, .string hp, .slice la D.length lc, .int .i64 0, .int .u64 0, .slice none 0 0, .int .u64 0, .float .f64 0, .float .f64 0, .float .f64 0] 58) = w4
  have HB4 : Hid (Below w.heap.size w w4) := by rw [← hw4]; exact bel4 _ _ _ _ _
  have HD : Hid (w4.heap[w.heap.size]? = some (.cells #[.int .i64 3, .string nm, .string hp, .slice la D.length lc] 54 (0, 0))) := by rw [← hw4]; exact new4_0 _ _ _ _ _
  have HP : Hid (w4.heap[w.heap.size + 1]? = some (.cells #[.int .i64 hi, .int .u64 lo, .slice ca A.length cc, .int .u64 (n : Int), .complex .f64 s c, .float .f64 mn, .float .f64 mx] 32 (0, 0))) := by rw [← hw4]; exact new4_1 _ _ _ _ _
  have HR : Hid (w4.heap[w.heap.size + 1 + 1]? = some (.cells #[.int .i64 0, .string ⟨#[]⟩, .string ⟨#[]⟩, .slice none 0 0, .int .i64 0, .int .u64 0, .slice none 0 0, .int .u64 0, .float .f64 0, .float .f64 0, .float .f64 0] 58 (0, 0))) := by rw [← hw4]; exact new4_2 _ _ _ _ _
  have HV : Hid (w4.heap[w.heap.size + 1 + 1 + 1]? = some (.cells #[.int .i64 3, .string nm, .string hp, .slice la D.length lc, .int .i64 0, .int .u64 0, .slice none 0 0, .int .u64 0, .float .f64 0, .float .f64 0, .float .f64 0] 58 (0, 0))) := by rw [← hw4]; exact new4_3 _ _ _ _ _
  have HSL := hid_of (hD.below HB4.out)
  have HSC := hid_of (hA.below HB4.out)
  have hA0 := hid_of hA
  clear hD hA
  obtain ⟨d0, d1, d2, d3⟩ := four_cellsH HD
  clear hw4
  generalize hB : w.heap.size = B at *
  have HBB := hid_of hB
  clear hB
  obtain ⟨v0, v1, v2, v3, v4, v5, v6, v7, v8, v9, v10⟩ := eleven_cells HV
  obtain ⟨f0, f1, f2, f3, f4, f5, f6, f7, f8, f9, f10⟩ := eleven_fr HV
  go_upto_region 3 with (first
    | (at_builtin; refine wpList_run _ rfl _ _ 52 rfl (.slice none 0 0) (.slice la D.length lc) rfl rfl (run_copyL HSL.out hlD _) ?_; intro lv w5 hq5; obtain ⟨hq5, hb5⟩ := hq5; obtain ⟨a5, b5, c5, rfl, -⟩ := own_slice hq5; have HL5 := hid_of hq5; have HV5 := hid_of (hkN HV.out hb5); have HB5 := hid_of hb5; have v3' := (eleven_cells HV5).2.2.2.1; have f3' := (eleven_fr HV5).2.2.2.1))
  have hM : B + 1 + 1 + 1 < w4.heap.size := (Array.getElem?_eq_some_iff.1 HV.out).1
  have HV6 : Hid ((w5.setCell ⟨B + 1 + 1 + 1, 3, none⟩ (.slice a5 D.length c5)).heap[B + 1 + 1 + 1]? = some (.cells #[.int .i64 3, .string nm, .string hp, .slice a5 D.length c5, .int .i64 0, .int .u64 0, .slice none 0 0, .int .u64 0, .float .f64 0, .float .f64 0, .float .f64 0] 58 (0, 0))) := by unfold Hid; rw [heap_setCell_same _ _ 3 _ _ _ HV5.out]; rfl
  have hc6 := chg_set w5 (B + 1 + 1 + 1) 3 (.slice a5 D.length c5)
  have HD6 := hid_of (hc6.at_ (hkN HD.out HB5.out) (by omega))
  have HP6 := hid_of (hc6.at_ (hkN HP.out HB5.out) (by omega))
  have HR6 := hid_of (hc6.at_ (hkN HR.out HB5.out) (by omega))
  have HL6 : Hid (OwnL w4.heap.size (.slice a5 D.length c5) D (w5.setCell ⟨B + 1 + 1 + 1, 3, none⟩ (.slice a5 D.length c5))) := hc6.row HL5.out (fun x hx e => by have := (HL5.out.lt x hx).1; omega)
  have HB6 : Hid (Below B w (w5.setCell ⟨B + 1 + 1 + 1, 3, none⟩ (.slice a5 D.length c5))) := HB4.out.trans ((HB5.out.mono (by omega)).trans (hc6.below (by have := HB5.out.size; omega) (fun x hx => by omega)))
  have HS6 : Hid (w4.heap.size ≤ (w5.setCell ⟨B + 1 + 1 + 1, 3, none⟩ (.slice a5 D.length c5)).heap.size) := Nat.le_trans HB5.out.size hc6.size
  have HM := hid_of hM
  clear hc6 hM HV5 HB5 HL5 HD HP HR HV HB4 HSL d0 d1 d2 d3 v0 f0 v1 f1 v2 f2 v3 f3 v4 f4 v5 f5 v6 f6 v7 f7 v8 f8 v9 f9 v10 f10 v3' f3' hq5 hb5
  generalize w5.setCell ⟨B + 1 + 1 + 1, 3, none⟩ (.slice a5 D.length c5) = w6 at *
  generalize w4.heap.size = M at *
  obtain ⟨d0, d1, d2, d3⟩ := four_cellsH HD6
  obtain ⟨p0, p1, p2, p3, p4, p5, p6⟩ := seven_cells HP6
  obtain ⟨v0, v1, v2, v3, v4, v5, v6, v7, v8, v9, v10⟩ := eleven_cells HV6
  obtain ⟨f0, f1, f2, f3, f4, f5, f6, f7, f8, f9, f10⟩ := eleven_fr HV6
  go_upto_region 10 with fail
  have HK0 : Hid (PH B hi lo (.slice ca A.length cc) n s c mn mx w6) := ⟨p0, p1, p2, p3, p4, p5, p6⟩
  have HV6d : Hid (w6.drew.heap[B + 1 + 1 + 1]? = some (.cells #[.int .i64 3, .string nm, .string hp, .slice a5 D.length c5, .int .i64 0, .int .u64 0, .slice none 0 0, .int .u64 0, .float .f64 0, .float .f64 0, .float .f64 0] 58 (0, 0))) := HV6.out
  have HKd : Hid (PH B hi lo (.slice ca A.length cc) n s c mn mx w6.drew) := ⟨p0, p1, p2, p3, p4, p5, p6⟩
  clear v0 v1 v2 v3 v4 v5 v6 v7 v8 v9 v10 f0 f1 f2 f3 f4 f5 f6 f7 f8 f9 f10 p0 p1 p2 p3 p4 p5 p6
  go_region_held3 (fun V => PH B hi lo (.slice ca A.length cc) n s c mn mx V)
    (first | with_reducible assumption | with_reducible exact HK0.out | with_reducible exact HKd.out | with_reducible exact PH.set1 (by assumption) _ _ | with_reducible exact PH.set1 (PH.set1 (by assumption) _ _) _ _ | with_reducible exact PH.set1 (PH.set1 (PH.set1 (by assumption) _ _) _ _) _ _ | with_reducible exact PH.set1 (PH.set1 (PH.set1 (PH.set1 (by assumption) _ _) _ _) _ _) _ _)
    (first
      | (go_at_call 37; with_reducible refine Calls.mono (HTO.out _) ?_; rintro e w7 ⟨r, rfl, HB7, HQ7⟩; have hk7 := PH.kept (by assumption) HB7.out; have HV7 := hid_of (hkN HV6d.out HB7.out); have v7 := (eleven_cells HV7).2.2.2.2.2.2.2.1; have v8 := (eleven_cells HV7).2.2.2.2.2.2.2.2.1; have v9 := (eleven_cells HV7).2.2.2.2.2.2.2.2.2.1; have v10 := (eleven_cells HV7).2.2.2.2.2.2.2.2.2.2; have f7 := (eleven_fr HV7).2.2.2.2.2.2.2.1; have f8 := (eleven_fr HV7).2.2.2.2.2.2.2.2.1; have f9 := (eleven_fr HV7).2.2.2.2.2.2.2.2.2.1; have f10 := (eleven_fr HV7).2.2.2.2.2.2.2.2.2.2))
  rename_i hHeld
  clear hHeld
  have HV8 : Hid (((((w7.setCell ⟨B + 1 + 1 + 1, 7, none⟩ (.int .u64 (n : Int))).setCell ⟨B + 1 + 1 + 1, 8, none⟩ (.float .f64 r)).setCell ⟨B + 1 + 1 + 1, 9, none⟩ (.float .f64 mn)).setCell ⟨B + 1 + 1 + 1, 10, none⟩ (.float .f64 mx)).heap[B + 1 + 1 + 1]? = some (.cells #[.int .i64 3, .string nm, .string hp, .slice a5 D.length c5, .int .i64 0, .int .u64 0, .slice none 0 0, .int .u64 (n : Int), .float .f64 r, .float .f64 mn, .float .f64 mx] 58 (0, 0))) := by unfold Hid; rw [heap_setCell_same _ _ 10 _ _ _ (heap_setCell_same _ _ 9 _ _ _ (heap_setCell_same _ _ 8 _ _ _ (heap_setCell_same _ _ 7 _ _ _ HV7.out)))]; rfl
  have hc8 : Chg (fun x => x = B + 1 + 1 + 1) w7 ((((w7.setCell ⟨B + 1 + 1 + 1, 7, none⟩ (.int .u64 (n : Int))).setCell ⟨B + 1 + 1 + 1, 8, none⟩ (.float .f64 r)).setCell ⟨B + 1 + 1 + 1, 9, none⟩ (.float .f64 mn)).setCell ⟨B + 1 + 1 + 1, 10, none⟩ (.float .f64 mx)) := chg_moreG (chg_moreG (chg_moreG (chg_moreG (Chg.refl _ _) rfl) rfl) rfl) rfl
  have hb7 : Below w6.heap.size w6 w7 := ⟨HB7.out.os, HB7.out.tape, HB7.out.output, HB7.out.size, HB7.out.block⟩
  have hm := HM.out
  have hs6 := HS6.out
  have hs7 := hb7.size
  have HR8 := hid_of (hc8.at_ (hkN HR6.out hb7) (by omega))
  have hf := fun (t0 t1 t2 t3 t4 t5 t6 t7 t8 t9 t10 : Value) => val_fin (HL6.out.bel hb7) (ownC_nil M w7) (HB6.out.trans (hb7.mono (by omega))) HM.out (Nat.le_trans hs6 hs7) ((Chg.trans (Chg.refl (fun x => x = B + 1 + 1 ∨ x = B + 1 + 1 + 1) _) hc8 (fun x hx => Or.inl (Or.inr hx))).trans (chg_put11 _ (B + 1 + 1) t0 t1 t2 t3 t4 t5 t6 t7 t8 t9 t10) (fun x hx => Or.inl (Or.inl hx)))
  have HF := hid_of hf
  clear hf hc8 hb7 hm hs6 hs7 HV7 HB7 hk7 v7 v8 v9 v10 f7 f8 f9 f10
  go_upto_region 11 with fail
  have hf := HF.out
  rename_i hKe
  refine cval_tail B _ 3 0 0 nm hp a5 none D.length c5 0 0 n r mn mx _ HV8 HR8 ?_ _ _ _ _ _ _ _ _ _ _ _ _ _ _ _ _ _ _ _ _ _ _ _ _ _ _ _ _ _ _ _ _ _ _ _ _ _ _ _ _ _ _ _ _ _ _ _ hKe
  have hBB := HBB.out
  subst hBB
  exact ⟨a5, D.length, c5, none, 0, 0, r, rfl, (hf _ _ _ _ _ _ _ _ _ _ _).1, (hf _ _ _ _ _ _ _ _ _ _ _).2.1, (hf _ _ _ _ _ _ _ _ _ _ _).2.2, HQ7.out.1, HQ7.out.2⟩
theorem cval_any (kd hi lo : Int) (nm hp : ByteArray) (la : Option Addr) (lc : Nat) (D : List Lb) (ca : Option Addr) (cc n s c mn mx : Nat) (A : List Cn) (w : World) (hD : SLb w (.slice la D.length lc) D) (hA : SN w (.slice ca A.length cc) A) (hlD : D.length ≤ 1048576) (hlA : A.length ≤ 1048576) (hs : s < 18446744073709551616) (hc : c < 18446744073709551616) :
    Calls Tryz.prog 16 #[.agg #[.int .i64 kd, .string nm, .string hp, .slice la D.length lc], part hi lo (.slice ca A.length cc) n s c mn mx] w fun e w' => CvQ kd hi lo nm hp n s c mn mx D A w e w' := by
  by_cases g1 : kd = 1
  · subst g1; exact cval_1 hi lo nm hp la lc D ca cc n s c mn mx A w hD hA hlD hlA hs hc
  by_cases g2 : kd = 2
  · subst g2; exact cval_2 hi lo nm hp la lc D ca cc n s c mn mx A w hD hA hlD hlA hs hc
  by_cases g3 : kd = 3
  · subst g3; exact cval_3 hi lo nm hp la lc D ca cc n s c mn mx A w hD hA hlD hlA hs hc
  exact cval_0 kd hi lo nm hp la lc D ca cc n s c mn mx A w hD hA hlD hlA hs hc g1 g2 g3
end Go.Proofs.YtbgdmlekhobjdaaGreat
