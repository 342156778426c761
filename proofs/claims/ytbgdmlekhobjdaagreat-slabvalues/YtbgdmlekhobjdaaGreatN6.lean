/- VALUES: the document's Value. Own work of the verifier. -/
import Derived.Test.YtbgdmlekhobjdaaGreatN4
import Derived.Test.YtbgdmlekhobjdaaGreatV2
namespace Go.Proofs.YtbgdmlekhobjdaaGreat
open Go.RowKit
/-- What the document's Value tells. -/
def DvQ (kd hi lo : Int) (nm hp : ByteArray) (lv : Value) (n s c mn mx : Nat) (A : List Cn) (w : World) (e : Ending) (w' : World) : Prop := ∃ ca cm cc, e = .returned (vval kd nm hp lv (gT kd hi) (gT kd lo) (.slice ca cm cc) (gN kd n) (gF kd (Soft.fa s c)) (gF kd mn) (gF kd mx)) ∧ Hid (OwnC w.heap.size (.slice ca cm cc) (gC kd A) w') ∧ Hid (Below w.heap.size w w')
theorem val_finD {B M : Nat} {w w6 F : World} {cv : Value} {C : List Cn} (hC : OwnC M cv C w6) (hb : Below B w w6) (hM : B + 1 + 1 + 1 < M) (hS : M ≤ w6.heap.size) (hc : Chg (fun x => x = B + 1 + 1 ∨ x = B + 1 + 1 + 1) w6 F) : Hid (OwnC B cv C F) ∧ Hid (Below B w F) :=
  ⟨own_leG (hc.row hC (fun x hx e => by have := (hC.lt x hx).1; omega)) (by omega), hb.trans (hc.below (by omega) (fun x hx => by omega))⟩
set_option maxRecDepth 10000 in
set_option maxHeartbeats 8000000 in
theorem dval_1 (hi lo : Int) (nm hp : ByteArray) (la : Option Addr) (lc : Nat) (D : List Lb) (ca : Option Addr) (cc n s c mn mx : Nat) (A : List Cn) (w : World) (hA : SN w (.slice ca A.length cc) A) (_hlA : A.length ≤ 1048576) (hs : s < 18446744073709551616) (hc : c < 18446744073709551616) :
    Calls Tryz.prog 15 #[.agg #[.int .i64 1, .string nm, .string hp, .slice la D.length lc], rpart hi lo (.slice ca A.length cc) n s c mn mx] w fun e w' => DvQ 1 hi lo nm hp (.slice la D.length lc) n s c mn mx A w e w' := by
  have sF := store_f
  have hfb := Pr.mf64from
  have HTO : Hid (∀ W, Calls Tryz.prog 36 #[.agg #[.int .u64 (s : Int), .int .u64 (c : Int)]] W fun e w' => e = .returned (.int .u64 ((Soft.fa s c : Nat) : Int)) ∧ Hid (Below W.heap.size W w')) := fun W => Pr.ztotal s c hs hc W
  clear hs hc
  go_enter Tryz.func15, Tryz.ntmps15
  go_upto_region 2 with fail
  generalize hw4 : (((w.alloc (.cells #[.int .i64 1, .string nm, .string hp, .slice la D.length lc] 54)).alloc (.cells #[.int .i64 hi, .int .u64 lo, .slice ca A.length cc, .int .u64 (n : Int), .int .u64 (s : Int), .int .u64 (c : Int), .int .u64 (mn : Int), .int .u64 (mx : Int)] 37)).alloc (.cells #[.int .i64 0, .string ⟨#[]⟩, .string ⟨#[]⟩, .slice none 0 0, .int .i64 0, .int .u64 0, .slice none 0 0, .int .u64 0, .float .f64 0, .float .f64 0, .float .f64 0] 58)).alloc (.cells #[.int .i64 1, .string nm, .string hp, .slice la D.length lc, .int .i64 0, .int .u64 0, .slice none 0 0, .int .u64 0, .float .f64 0, .float .f64 0, .float .f64 0] 58) = w6
  have HB6 : Hid (Below w.heap.size w w6) := by rw [← hw4]; exact bel4 _ _ _ _ _
  have HD6 : Hid (w6.heap[w.heap.size]? = some (.cells #[.int .i64 1, .string nm, .string hp, .slice la D.length lc] 54 (0, 0))) := by rw [← hw4]; exact new4_0 _ _ _ _ _
  have HP6 : Hid (w6.heap[w.heap.size + 1]? = some (.cells #[.int .i64 hi, .int .u64 lo, .slice ca A.length cc, .int .u64 (n : Int), .int .u64 (s : Int), .int .u64 (c : Int), .int .u64 (mn : Int), .int .u64 (mx : Int)] 37 (0, 0))) := by rw [← hw4]; exact new4_1 _ _ _ _ _
  have HR6 : Hid (w6.heap[w.heap.size + 1 + 1]? = some (.cells #[.int .i64 0, .string ⟨#[]⟩, .string ⟨#[]⟩, .slice none 0 0, .int .i64 0, .int .u64 0, .slice none 0 0, .int .u64 0, .float .f64 0, .float .f64 0, .float .f64 0] 58 (0, 0))) := by rw [← hw4]; exact new4_2 _ _ _ _ _
  have HV6 : Hid (w6.heap[w.heap.size + 1 + 1 + 1]? = some (.cells #[.int .i64 1, .string nm, .string hp, .slice la D.length lc, .int .i64 0, .int .u64 0, .slice none 0 0, .int .u64 0, .float .f64 0, .float .f64 0, .float .f64 0] 58 (0, 0))) := by rw [← hw4]; exact new4_3 _ _ _ _ _
  have hA0 := hid_of (hA.below HB6.out)
  clear hA hw4
  generalize hB : w.heap.size = B at *
  have HBB := hid_of hB
  clear hB
  have hM : B + 1 + 1 + 1 < w6.heap.size := (Array.getElem?_eq_some_iff.1 HV6.out).1
  have HM := hid_of hM
  clear hM
  obtain ⟨d0, d1, d2, d3⟩ := four_cellsH HD6
  obtain ⟨p0, p1, p2, p3, p4, p5, p6, p7⟩ := eight_cells HP6
  obtain ⟨v0, v1, v2, v3, v4, v5, v6, v7, v8, v9, v10⟩ := eleven_cells HV6
  obtain ⟨f0, f1, f2, f3, f4, f5, f6, f7, f8, f9, f10⟩ := eleven_fr HV6
  go_upto_region 14 with fail
  have HV7 : Hid (((w6.setCell ⟨B + 1 + 1 + 1, 4, none⟩ (.int .i64 hi)).setCell ⟨B + 1 + 1 + 1, 5, none⟩ (.int .u64 lo)).heap[B + 1 + 1 + 1]? = some (.cells #[.int .i64 1, .string nm, .string hp, .slice la D.length lc, .int .i64 hi, .int .u64 lo, .slice none 0 0, .int .u64 0, .float .f64 0, .float .f64 0, .float .f64 0] 58 (0, 0))) := by unfold Hid; rw [(heap_setCell_same _ _ 5 _ _ _ (heap_setCell_same _ _ 4 _ _ _ HV6.out))]; rfl
  have hc7 : Chg (fun x => x = B + 1 + 1 ∨ x = B + 1 + 1 + 1) w6 ((w6.setCell ⟨B + 1 + 1 + 1, 4, none⟩ (.int .i64 hi)).setCell ⟨B + 1 + 1 + 1, 5, none⟩ (.int .u64 lo)) := (chg_moreG (chg_moreG (Chg.refl _ _) (Or.inr rfl)) (Or.inr rfl))
  have hc8 : Chg (fun x => x = B + 1 + 1 + 1) w6 ((w6.setCell ⟨B + 1 + 1 + 1, 4, none⟩ (.int .i64 hi)).setCell ⟨B + 1 + 1 + 1, 5, none⟩ (.int .u64 lo)) := (chg_moreG (chg_moreG (Chg.refl _ _) rfl) rfl)
  have HR7 := hid_of (hc8.at_ HR6.out (by omega))
  have hf := fun (t0 t1 t2 t3 t4 t5 t6 t7 t8 t9 t10 : Value) => val_finD (ownC_nil w6.heap.size w6) HB6.out HM.out (Nat.le_refl _) (hc7.trans (chg_put11 _ (B + 1 + 1) t0 t1 t2 t3 t4 t5 t6 t7 t8 t9 t10) (fun x hx => Or.inl (Or.inl hx)))
  rename_i hKe
  refine dval_tail B _ 1 hi lo nm hp la none D.length lc 0 0 0 0 0 0 _ HV7 HR7 ?_ _ _ _ _ _ _ _ _ _ _ _ _ _ _ _ _ _ _ _ _ _ _ _ _ _ _ _ _ _ _ _ _ _ _ _ _ _ _ _ _ _ _ _ _ _ _ hKe
  have hBB := HBB.out
  subst hBB
  exact ⟨none, 0, 0, rfl, (hf _ _ _ _ _ _ _ _ _ _ _).1, (hf _ _ _ _ _ _ _ _ _ _ _).2⟩
set_option maxRecDepth 10000 in
set_option maxHeartbeats 8000000 in
theorem dval_0 (kd hi lo : Int) (nm hp : ByteArray) (la : Option Addr) (lc : Nat) (D : List Lb) (ca : Option Addr) (cc n s c mn mx : Nat) (A : List Cn) (w : World) (hA : SN w (.slice ca A.length cc) A) (_hlA : A.length ≤ 1048576) (hs : s < 18446744073709551616) (hc : c < 18446744073709551616) (g1 : ¬ kd = 1) (g2 : ¬ kd = 2) (g3 : ¬ kd = 3) :
    Calls Tryz.prog 15 #[.agg #[.int .i64 kd, .string nm, .string hp, .slice la D.length lc], rpart hi lo (.slice ca A.length cc) n s c mn mx] w fun e w' => DvQ kd hi lo nm hp (.slice la D.length lc) n s c mn mx A w e w' := by
  have sF := store_f
  have hfb := Pr.mf64from
  have HTO : Hid (∀ W, Calls Tryz.prog 36 #[.agg #[.int .u64 (s : Int), .int .u64 (c : Int)]] W fun e w' => e = .returned (.int .u64 ((Soft.fa s c : Nat) : Int)) ∧ Hid (Below W.heap.size W w')) := fun W => Pr.ztotal s c hs hc W
  clear hs hc
  go_enter Tryz.func15, Tryz.ntmps15
  go_upto_region 2 with fail
  generalize hw4 : (((w.alloc (.cells #[.int .i64 kd, .string nm, .string hp, .slice la D.length lc] 54)).alloc (.cells #[.int .i64 hi, .int .u64 lo, .slice ca A.length cc, .int .u64 (n : Int), .int .u64 (s : Int), .int .u64 (c : Int), .int .u64 (mn : Int), .int .u64 (mx : Int)] 37)).alloc (.cells #[.int .i64 0, .string ⟨#[]⟩, .string ⟨#[]⟩, .slice none 0 0, .int .i64 0, .int .u64 0, .slice none 0 0, .int .u64 0, .float .f64 0, .float .f64 0, .float .f64 0] 58)).alloc (.cells #[.int .i64 kd, .string nm, .string hp, .slice la D.length lc, .int .i64 0, .int .u64 0, .slice none 0 0, .int .u64 0, .float .f64 0, .float .f64 0, .float .f64 0] 58) = w6
  have HB6 : Hid (Below w.heap.size w w6) := by rw [← hw4]; exact bel4 _ _ _ _ _
  have HD6 : Hid (w6.heap[w.heap.size]? = some (.cells #[.int .i64 kd, .string nm, .string hp, .slice la D.length lc] 54 (0, 0))) := by rw [← hw4]; exact new4_0 _ _ _ _ _
  have HP6 : Hid (w6.heap[w.heap.size + 1]? = some (.cells #[.int .i64 hi, .int .u64 lo, .slice ca A.length cc, .int .u64 (n : Int), .int .u64 (s : Int), .int .u64 (c : Int), .int .u64 (mn : Int), .int .u64 (mx : Int)] 37 (0, 0))) := by rw [← hw4]; exact new4_1 _ _ _ _ _
  have HR6 : Hid (w6.heap[w.heap.size + 1 + 1]? = some (.cells #[.int .i64 0, .string ⟨#[]⟩, .string ⟨#[]⟩, .slice none 0 0, .int .i64 0, .int .u64 0, .slice none 0 0, .int .u64 0, .float .f64 0, .float .f64 0, .float .f64 0] 58 (0, 0))) := by rw [← hw4]; exact new4_2 _ _ _ _ _
  have HV6 : Hid (w6.heap[w.heap.size + 1 + 1 + 1]? = some (.cells #[.int .i64 kd, .string nm, .string hp, .slice la D.length lc, .int .i64 0, .int .u64 0, .slice none 0 0, .int .u64 0, .float .f64 0, .float .f64 0, .float .f64 0] 58 (0, 0))) := by rw [← hw4]; exact new4_3 _ _ _ _ _
  have hA0 := hid_of (hA.below HB6.out)
  clear hA hw4
  generalize hB : w.heap.size = B at *
  have HBB := hid_of hB
  clear hB
  have hM : B + 1 + 1 + 1 < w6.heap.size := (Array.getElem?_eq_some_iff.1 HV6.out).1
  have HM := hid_of hM
  clear hM
  obtain ⟨d0, d1, d2, d3⟩ := four_cellsH HD6
  obtain ⟨p0, p1, p2, p3, p4, p5, p6, p7⟩ := eight_cells HP6
  obtain ⟨v0, v1, v2, v3, v4, v5, v6, v7, v8, v9, v10⟩ := eleven_cells HV6
  obtain ⟨f0, f1, f2, f3, f4, f5, f6, f7, f8, f9, f10⟩ := eleven_fr HV6
  go_upto_region 14 with fail
  have hf := fun (t0 t1 t2 t3 t4 t5 t6 t7 t8 t9 t10 : Value) => val_finD (ownC_nil w6.heap.size w6) HB6.out HM.out (Nat.le_refl _) (Chg.trans (Chg.refl _ _) (chg_put11 _ (B + 1 + 1) t0 t1 t2 t3 t4 t5 t6 t7 t8 t9 t10) (fun x hx => Or.inl (Or.inl hx)))
  rename_i hKe
  refine dval_tail B _ kd 0 0 nm hp la none D.length lc 0 0 0 0 0 0 _ HV6 HR6 ?_ _ _ _ _ _ _ _ _ _ _ _ _ _ _ _ _ _ _ _ _ _ _ _ _ _ _ _ _ _ _ _ _ _ _ _ _ _ _ _ _ _ _ _ _ _ _ hKe
  have hBB := HBB.out
  subst hBB
  have e1 : gT kd hi = 0 := by unfold gT; rw [if_neg (by omega)]
  have e2 : gT kd lo = 0 := by unfold gT; rw [if_neg (by omega)]
  have e3 : gC kd A = [] := by unfold gC; rw [if_neg g2]
  have e4 : gN kd n = 0 := by unfold gN; rw [if_neg (by omega)]
  have e5 : ∀ x, gF kd x = 0 := fun x => by unfold gF; rw [if_neg g3]
  refine ⟨none, 0, 0, ?_, ?_, (hf _ _ _ _ _ _ _ _ _ _ _).2⟩
  · rw [e1, e2, e4, e5, e5, e5]
  · rw [e3]; exact (hf _ _ _ _ _ _ _ _ _ _ _).1
set_option maxRecDepth 10000 in
set_option maxHeartbeats 8000000 in
theorem dval_2 (hi lo : Int) (nm hp : ByteArray) (la : Option Addr) (lc : Nat) (D : List Lb) (ca : Option Addr) (cc n s c mn mx : Nat) (A : List Cn) (w : World) (hA : SN w (.slice ca A.length cc) A) (hlA : A.length ≤ 1048576) (hs : s < 18446744073709551616) (hc : c < 18446744073709551616) :
    Calls Tryz.prog 15 #[.agg #[.int .i64 2, .string nm, .string hp, .slice la D.length lc], rpart hi lo (.slice ca A.length cc) n s c mn mx] w fun e w' => DvQ 2 hi lo nm hp (.slice la D.length lc) n s c mn mx A w e w' := by
  have sF := store_f
  have hfb := Pr.mf64from
  have HTO : Hid (∀ W, Calls Tryz.prog 36 #[.agg #[.int .u64 (s : Int), .int .u64 (c : Int)]] W fun e w' => e = .returned (.int .u64 ((Soft.fa s c : Nat) : Int)) ∧ Hid (Below W.heap.size W w')) := fun W => Pr.ztotal s c hs hc W
  clear hs hc
  go_enter Tryz.func15, Tryz.ntmps15
  go_upto_region 2 with fail
  generalize hw4 : (((w.alloc (.cells #[.int .i64 2, .string nm, .string hp, .slice la D.length lc] 54)).alloc (.cells #[.int .i64 hi, .int .u64 lo, .slice ca A.length cc, .int .u64 (n : Int), .int .u64 (s : Int), .int .u64 (c : Int), .int .u64 (mn : Int), .int .u64 (mx : Int)] 37)).alloc (.cells #[.int .i64 0, .string ⟨#[]⟩, .string ⟨#[]⟩, .slice none 0 0, .int .i64 0, .int .u64 0, .slice none 0 0, .int .u64 0, .float .f64 0, .float .f64 0, .float .f64 0] 58)).alloc (.cells #[.int .i64 2, .string nm, .string hp, .slice la D.length lc, .int .i64 0, .int .u64 0, .slice none 0 0, .int .u64 0, .float .f64 0, .float .f64 0, .float .f64 0] 58) = w6
  have HB6 : Hid (Below w.heap.size w w6) := by rw [← hw4]; exact bel4 _ _ _ _ _
  have HD6 : Hid (w6.heap[w.heap.size]? = some (.cells #[.int .i64 2, .string nm, .string hp, .slice la D.length lc] 54 (0, 0))) := by rw [← hw4]; exact new4_0 _ _ _ _ _
  have HP6 : Hid (w6.heap[w.heap.size + 1]? = some (.cells #[.int .i64 hi, .int .u64 lo, .slice ca A.length cc, .int .u64 (n : Int), .int .u64 (s : Int), .int .u64 (c : Int), .int .u64 (mn : Int), .int .u64 (mx : Int)] 37 (0, 0))) := by rw [← hw4]; exact new4_1 _ _ _ _ _
  have HR6 : Hid (w6.heap[w.heap.size + 1 + 1]? = some (.cells #[.int .i64 0, .string ⟨#[]⟩, .string ⟨#[]⟩, .slice none 0 0, .int .i64 0, .int .u64 0, .slice none 0 0, .int .u64 0, .float .f64 0, .float .f64 0, .float .f64 0] 58 (0, 0))) := by rw [← hw4]; exact new4_2 _ _ _ _ _
  have HV6 : Hid (w6.heap[w.heap.size + 1 + 1 + 1]? = some (.cells #[.int .i64 2, .string nm, .string hp, .slice la D.length lc, .int .i64 0, .int .u64 0, .slice none 0 0, .int .u64 0, .float .f64 0, .float .f64 0, .float .f64 0] 58 (0, 0))) := by rw [← hw4]; exact new4_3 _ _ _ _ _
  have hA0 := hid_of (hA.below HB6.out)
  have hAw := hid_of hA
  clear hA hw4
  generalize hB : w.heap.size = B at *
  have HBB := hid_of hB
  clear hB
  have hM : B + 1 + 1 + 1 < w6.heap.size := (Array.getElem?_eq_some_iff.1 HV6.out).1
  have HM := hid_of hM
  clear hM
  obtain ⟨d0, d1, d2, d3⟩ := four_cellsH HD6
  obtain ⟨p0, p1, p2, p3, p4, p5, p6, p7⟩ := eight_cells HP6
  obtain ⟨v0, v1, v2, v3, v4, v5, v6, v7, v8, v9, v10⟩ := eleven_cells HV6
  obtain ⟨f0, f1, f2, f3, f4, f5, f6, f7, f8, f9, f10⟩ := eleven_fr HV6
  go_upto_region 7 with fail
  have HV7 : Hid (((w6.setCell ⟨B + 1 + 1 + 1, 4, none⟩ (.int .i64 hi)).setCell ⟨B + 1 + 1 + 1, 5, none⟩ (.int .u64 lo)).heap[B + 1 + 1 + 1]? = some (.cells #[.int .i64 2, .string nm, .string hp, .slice la D.length lc, .int .i64 hi, .int .u64 lo, .slice none 0 0, .int .u64 0, .float .f64 0, .float .f64 0, .float .f64 0] 58 (0, 0))) := by unfold Hid; rw [(heap_setCell_same _ _ 5 _ _ _ (heap_setCell_same _ _ 4 _ _ _ HV6.out))]; rfl
  have hc7 : Chg (fun x => x = B + 1 + 1 + 1) w6 ((w6.setCell ⟨B + 1 + 1 + 1, 4, none⟩ (.int .i64 hi)).setCell ⟨B + 1 + 1 + 1, 5, none⟩ (.int .u64 lo)) := (chg_moreG (chg_moreG (Chg.refl _ _) rfl) rfl)
  have HP7 := hid_of (hc7.at_ HP6.out (by omega))
  have HR7 := hid_of (hc7.at_ HR6.out (by omega))
  have hm := HM.out
  have HB7 : Hid (Below B w ((w6.setCell ⟨B + 1 + 1 + 1, 4, none⟩ (.int .i64 hi)).setCell ⟨B + 1 + 1 + 1, 5, none⟩ (.int .u64 lo))) := HB6.out.trans (hc7.below (by omega) (fun x hx => by omega))
  have HS7 : Hid (w6.heap.size ≤ ((w6.setCell ⟨B + 1 + 1 + 1, 4, none⟩ (.int .i64 hi)).setCell ⟨B + 1 + 1 + 1, 5, none⟩ (.int .u64 lo)).heap.size) := hc7.size
  have HSN7 : Hid (SN ((w6.setCell ⟨B + 1 + 1 + 1, 4, none⟩ (.int .i64 hi)).setCell ⟨B + 1 + 1 + 1, 5, none⟩ (.int .u64 lo)) (.slice ca A.length cc) A) := by
    have q := hAw.out
    exact q.below (show Below w.heap.size w _ by rw [HBB.out]; exact HB7.out)
  clear HV6 HP6 HR6 HB6 hc7 HD6 hA0 hm d0 d1 d2 d3 p0 p1 p2 p3 p4 p5 p6 p7 v0 f0 v1 f1 v2 f2 v3 f3 v4 f4 v5 f5 v6 f6 v7 f7 v8 f8 v9 f9 v10 f10
  generalize ((w6.setCell ⟨B + 1 + 1 + 1, 4, none⟩ (.int .i64 hi)).setCell ⟨B + 1 + 1 + 1, 5, none⟩ (.int .u64 lo)) = w7 at *
  generalize w6.heap.size = M at *
  obtain ⟨p0, p1, p2, p3, p4, p5, p6, p7⟩ := eight_cells HP7
  have HG : Hid ((w7.alloc (.cells #[] 45)).heap[w7.heap.size]? = some (.cells #[] 45 (0, 0))) := new_1 _ _
  have p2a : (w7.alloc (.cells #[] 45)).cell? ⟨B + 1, 2, none⟩ = some (.slice ca A.length cc) := cell_kept (bel1 _ _) p2
  go_upto_region 8 with (first
    | (at_builtin; refine wpList_run _ rfl _ _ 25 rfl (.slice (some ⟨w7.heap.size, 0, none⟩) 0 0) (.slice ca A.length cc) rfl rfl (run_copyE (HSN7.out.below (bel1 _ _)) hlA _ _ HG.out) ?_; intro cv w8 hq8; obtain ⟨hq8, hb8⟩ := hq8; obtain ⟨a8, b8, c8, rfl, -⟩ := own_slice hq8; have HC8 := hid_of hq8; have HB8 := hid_of (((bel1 w7 _).mono (Nat.le_refl _)).trans hb8); have HV8 := hid_of (hkN HV7.out HB8.out); have v6' := (eleven_cells HV8).2.2.2.2.2.2.1; have f6' := (eleven_fr HV8).2.2.2.2.2.2.1; have v7' := (eleven_cells HV8).2.2.2.2.2.2.2.1; have f7' := (eleven_fr HV8).2.2.2.2.2.2.2.1; have p3' := (eight_cells (hid_of (hkN HP7.out HB8.out))).2.2.2.1))
  go_upto_region 14 with fail
  have HV9 : Hid (((w8.setCell ⟨B + 1 + 1 + 1, 6, none⟩ (.slice a8 A.length c8)).setCell ⟨B + 1 + 1 + 1, 7, none⟩ (.int .u64 (n : Int))).heap[B + 1 + 1 + 1]? = some (.cells #[.int .i64 2, .string nm, .string hp, .slice la D.length lc, .int .i64 hi, .int .u64 lo, .slice a8 A.length c8, .int .u64 (n : Int), .float .f64 0, .float .f64 0, .float .f64 0] 58 (0, 0))) := by unfold Hid; rw [(heap_setCell_same _ _ 7 _ _ _ (heap_setCell_same _ _ 6 _ _ _ HV8.out))]; rfl
  have hc9 : Chg (fun x => x = B + 1 + 1 + 1) w8 ((w8.setCell ⟨B + 1 + 1 + 1, 6, none⟩ (.slice a8 A.length c8)).setCell ⟨B + 1 + 1 + 1, 7, none⟩ (.int .u64 (n : Int))) := (chg_moreG (chg_moreG (Chg.refl _ _) rfl) rfl)
  have HR9 := hid_of (hc9.at_ (hkN HR7.out HB8.out) (by omega))
  have hs7 := HS7.out
  have hs8 := HB8.out.size
  have hf := fun (t0 t1 t2 t3 t4 t5 t6 t7 t8 t9 t10 : Value) => val_finD (own_leG HC8.out hs7) (HB7.out.trans (HB8.out.mono (by have := HM.out; omega))) HM.out (Nat.le_trans hs7 hs8) ((Chg.trans (Chg.refl (fun x => x = B + 1 + 1 ∨ x = B + 1 + 1 + 1) _) hc9 (fun x hx => Or.inl (Or.inr hx))).trans (chg_put11 _ (B + 1 + 1) t0 t1 t2 t3 t4 t5 t6 t7 t8 t9 t10) (fun x hx => Or.inl (Or.inl hx)))
  rename_i hKe
  refine dval_tail B _ 2 hi lo nm hp la a8 D.length lc A.length c8 n 0 0 0 _ HV9 HR9 ?_ _ _ _ _ _ _ _ _ _ _ _ _ _ _ _ _ _ _ _ _ _ _ _ _ _ _ _ _ _ _ _ _ _ _ _ _ _ _ _ _ _ _ _ _ _ _ hKe
  have hBB := HBB.out
  subst hBB
  exact ⟨a8, A.length, c8, rfl, (hf _ _ _ _ _ _ _ _ _ _ _).1, (hf _ _ _ _ _ _ _ _ _ _ _).2⟩
set_option maxRecDepth 10000 in
set_option maxHeartbeats 8000000 in
theorem dval_3 (hi lo : Int) (nm hp : ByteArray) (la : Option Addr) (lc : Nat) (D : List Lb) (ca : Option Addr) (cc n s c mn mx : Nat) (A : List Cn) (w : World) (hA : SN w (.slice ca A.length cc) A) (_hlA : A.length ≤ 1048576) (hs : s < 18446744073709551616) (hc : c < 18446744073709551616) :
    Calls Tryz.prog 15 #[.agg #[.int .i64 3, .string nm, .string hp, .slice la D.length lc], rpart hi lo (.slice ca A.length cc) n s c mn mx] w fun e w' => DvQ 3 hi lo nm hp (.slice la D.length lc) n s c mn mx A w e w' := by
  have sF := store_f
  have hfb := Pr.mf64from
  have HTO : Hid (∀ W, Calls Tryz.prog 36 #[.agg #[.int .u64 (s : Int), .int .u64 (c : Int)]] W fun e w' => e = .returned (.int .u64 ((Soft.fa s c : Nat) : Int)) ∧ Hid (Below W.heap.size W w')) := fun W => Pr.ztotal s c hs hc W
  clear hs hc
  go_enter Tryz.func15, Tryz.ntmps15
  go_upto_region 2 with fail
  generalize hw4 : (((w.alloc (.cells #[.int .i64 3, .string nm, .string hp, .slice la D.length lc] 54)).alloc (.cells #[.int .i64 hi, .int .u64 lo, .slice ca A.length cc, .int .u64 (n : Int), .int .u64 (s : Int), .int .u64 (c : Int), .int .u64 (mn : Int), .int .u64 (mx : Int)] 37)).alloc (.cells #[.int .i64 0, .string ⟨#[]⟩, .string ⟨#[]⟩, .slice none 0 0, .int .i64 0, .int .u64 0, .slice none 0 0, .int .u64 0, .float .f64 0, .float .f64 0, .float .f64 0] 58)).alloc (.cells #[.int .i64 3, .string nm, .string hp, .slice la D.length lc, .int .i64 0, .int .u64 0, .slice none 0 0, .int .u64 0, .float .f64 0, .float .f64 0, .float .f64 0] 58) = w6
  have HB6 : Hid (Below w.heap.size w w6) := by rw [← hw4]; exact bel4 _ _ _ _ _
  have HD6 : Hid (w6.heap[w.heap.size]? = some (.cells #[.int .i64 3, .string nm, .string hp, .slice la D.length lc] 54 (0, 0))) := by rw [← hw4]; exact new4_0 _ _ _ _ _
  have HP6 : Hid (w6.heap[w.heap.size + 1]? = some (.cells #[.int .i64 hi, .int .u64 lo, .slice ca A.length cc, .int .u64 (n : Int), .int .u64 (s : Int), .int .u64 (c : Int), .int .u64 (mn : Int), .int .u64 (mx : Int)] 37 (0, 0))) := by rw [← hw4]; exact new4_1 _ _ _ _ _
  have HR6 : Hid (w6.heap[w.heap.size + 1 + 1]? = some (.cells #[.int .i64 0, .string ⟨#[]⟩, .string ⟨#[]⟩, .slice none 0 0, .int .i64 0, .int .u64 0, .slice none 0 0, .int .u64 0, .float .f64 0, .float .f64 0, .float .f64 0] 58 (0, 0))) := by rw [← hw4]; exact new4_2 _ _ _ _ _
  have HV6 : Hid (w6.heap[w.heap.size + 1 + 1 + 1]? = some (.cells #[.int .i64 3, .string nm, .string hp, .slice la D.length lc, .int .i64 0, .int .u64 0, .slice none 0 0, .int .u64 0, .float .f64 0, .float .f64 0, .float .f64 0] 58 (0, 0))) := by rw [← hw4]; exact new4_3 _ _ _ _ _
  have hA0 := hid_of (hA.below HB6.out)
  clear hA hw4
  generalize hB : w.heap.size = B at *
  have HBB := hid_of hB
  clear hB
  have hM : B + 1 + 1 + 1 < w6.heap.size := (Array.getElem?_eq_some_iff.1 HV6.out).1
  have HM := hid_of hM
  clear hM
  obtain ⟨d0, d1, d2, d3⟩ := four_cellsH HD6
  obtain ⟨p0, p1, p2, p3, p4, p5, p6, p7⟩ := eight_cells HP6
  obtain ⟨v0, v1, v2, v3, v4, v5, v6, v7, v8, v9, v10⟩ := eleven_cells HV6
  obtain ⟨f0, f1, f2, f3, f4, f5, f6, f7, f8, f9, f10⟩ := eleven_fr HV6
  go_upto_region 11 with fail
  have HV7 : Hid ((w6.setCell ⟨B + 1 + 1 + 1, 7, none⟩ (.int .u64 (n : Int))).heap[B + 1 + 1 + 1]? = some (.cells #[.int .i64 3, .string nm, .string hp, .slice la D.length lc, .int .i64 0, .int .u64 0, .slice none 0 0, .int .u64 (n : Int), .float .f64 0, .float .f64 0, .float .f64 0] 58 (0, 0))) := by unfold Hid; rw [(heap_setCell_same _ _ 7 _ _ _ HV6.out)]; rfl
  have hc7 : Chg (fun x => x = B + 1 + 1 + 1) w6 (w6.setCell ⟨B + 1 + 1 + 1, 7, none⟩ (.int .u64 (n : Int))) := (chg_moreG (Chg.refl _ _) rfl)
  have HP7 := hid_of (hc7.at_ HP6.out (by omega))
  have HR7 := hid_of (hc7.at_ HR6.out (by omega))
  have hm := HM.out
  have HB7 : Hid (Below B w (w6.setCell ⟨B + 1 + 1 + 1, 7, none⟩ (.int .u64 (n : Int)))) := HB6.out.trans (hc7.below (by omega) (fun x hx => by omega))
  have HS7 : Hid (w6.heap.size ≤ (w6.setCell ⟨B + 1 + 1 + 1, 7, none⟩ (.int .u64 (n : Int))).heap.size) := hc7.size
  clear HV6 HP6 HR6 HB6 hc7 HD6 hA0 hm d0 d1 d2 d3 p0 p1 p2 p3 p4 p5 p6 p7 v0 f0 v1 f1 v2 f2 v3 f3 v4 f4 v5 f5 v6 f6 v7 f7 v8 f8 v9 f9 v10 f10
  generalize (w6.setCell ⟨B + 1 + 1 + 1, 7, none⟩ (.int .u64 (n : Int))) = w7 at *
  generalize w6.heap.size = M at *
  obtain ⟨p0, p1, p2, p3, p4, p5, p6, p7⟩ := eight_cells HP7
  go_upto_region 12 with (first
    | (go_at_call 36; with_reducible refine Calls.mono (HTO.out _) ?_; rintro e w8 ⟨rfl, HB8⟩; have HV8 := hid_of (hkN HV7.out HB8.out); have HP8 := hid_of (hkN HP7.out HB8.out); have v8' := (eleven_cells HV8).2.2.2.2.2.2.2.2.1; have v9' := (eleven_cells HV8).2.2.2.2.2.2.2.2.2.1; have v10' := (eleven_cells HV8).2.2.2.2.2.2.2.2.2.2; have f8' := (eleven_fr HV8).2.2.2.2.2.2.2.2.1; have f9' := (eleven_fr HV8).2.2.2.2.2.2.2.2.2.1; have f10' := (eleven_fr HV8).2.2.2.2.2.2.2.2.2.2; have p6' := (eight_cells HP8).2.2.2.2.2.2.1; have p7' := (eight_cells HP8).2.2.2.2.2.2.2))
  go_upto_region 14 with fail
  have HV9 : Hid ((((w8.setCell ⟨B + 1 + 1 + 1, 8, none⟩ (.float .f64 (Soft.fa s c))).setCell ⟨B + 1 + 1 + 1, 9, none⟩ (.float .f64 mn)).setCell ⟨B + 1 + 1 + 1, 10, none⟩ (.float .f64 mx)).heap[B + 1 + 1 + 1]? = some (.cells #[.int .i64 3, .string nm, .string hp, .slice la D.length lc, .int .i64 0, .int .u64 0, .slice none 0 0, .int .u64 (n : Int), .float .f64 (Soft.fa s c), .float .f64 mn, .float .f64 mx] 58 (0, 0))) := by unfold Hid; rw [(heap_setCell_same _ _ 10 _ _ _ (heap_setCell_same _ _ 9 _ _ _ (heap_setCell_same _ _ 8 _ _ _ HV8.out)))]; rfl
  have hc9 : Chg (fun x => x = B + 1 + 1 + 1) w8 (((w8.setCell ⟨B + 1 + 1 + 1, 8, none⟩ (.float .f64 (Soft.fa s c))).setCell ⟨B + 1 + 1 + 1, 9, none⟩ (.float .f64 mn)).setCell ⟨B + 1 + 1 + 1, 10, none⟩ (.float .f64 mx)) := (chg_moreG (chg_moreG (chg_moreG (Chg.refl _ _) rfl) rfl) rfl)
  have HR9 := hid_of (hc9.at_ (hkN HR7.out HB8.out) (by omega))
  have hs7 := HS7.out
  have hs8 := HB8.out.size
  have hf := fun (t0 t1 t2 t3 t4 t5 t6 t7 t8 t9 t10 : Value) => val_finD (ownC_nil M w8) (HB7.out.trans (HB8.out.mono (by have := HM.out; omega))) HM.out (Nat.le_trans hs7 hs8) ((Chg.trans (Chg.refl (fun x => x = B + 1 + 1 ∨ x = B + 1 + 1 + 1) _) hc9 (fun x hx => Or.inl (Or.inr hx))).trans (chg_put11 _ (B + 1 + 1) t0 t1 t2 t3 t4 t5 t6 t7 t8 t9 t10) (fun x hx => Or.inl (Or.inl hx)))
  rename_i hKe
  refine dval_tail B _ 3 0 0 nm hp la none D.length lc 0 0 n (Soft.fa s c) mn mx _ HV9 HR9 ?_ _ _ _ _ _ _ _ _ _ _ _ _ _ _ _ _ _ _ _ _ _ _ _ _ _ _ _ _ _ _ _ _ _ _ _ _ _ _ _ _ _ _ _ _ _ _ hKe
  have hBB := HBB.out
  subst hBB
  exact ⟨none, 0, 0, rfl, (hf _ _ _ _ _ _ _ _ _ _ _).1, (hf _ _ _ _ _ _ _ _ _ _ _).2⟩
theorem dval_any (kd hi lo : Int) (nm hp : ByteArray) (la : Option Addr) (lc : Nat) (D : List Lb) (ca : Option Addr) (cc n s c mn mx : Nat) (A : List Cn) (w : World) (hA : SN w (.slice ca A.length cc) A) (hlA : A.length ≤ 1048576) (hs : s < 18446744073709551616) (hc : c < 18446744073709551616) :
    Calls Tryz.prog 15 #[.agg #[.int .i64 kd, .string nm, .string hp, .slice la D.length lc], rpart hi lo (.slice ca A.length cc) n s c mn mx] w fun e w' => DvQ kd hi lo nm hp (.slice la D.length lc) n s c mn mx A w e w' := by
  by_cases g1 : kd = 1
  · subst g1; exact dval_1 hi lo nm hp la lc D ca cc n s c mn mx A w hA hlA hs hc
  by_cases g2 : kd = 2
  · subst g2; exact dval_2 hi lo nm hp la lc D ca cc n s c mn mx A w hA hlA hs hc
  by_cases g3 : kd = 3
  · subst g3; exact dval_3 hi lo nm hp la lc D ca cc n s c mn mx A w hA hlA hs hc
  exact dval_0 kd hi lo nm hp la lc D ca cc n s c mn mx A w hA hlA hs hc g1 g2 g3
end Go.Proofs.YtbgdmlekhobjdaaGreat
