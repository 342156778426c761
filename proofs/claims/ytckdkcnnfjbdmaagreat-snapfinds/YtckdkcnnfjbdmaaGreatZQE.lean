/- SnapFinds: the walk. Own work of the verifier. -/
import Derived.Test.YtckdkcnnfjbdmaaGreatZQD
import Derived.Test.YtckdkcnnfjbdmaaGreatZD7
import Derived.Test.YtckdkcnnfjbdmaaGreatZP7
import Derived.Test.YtckdkcnnfjbdmaaGreatZDE
namespace Go.Proofs.YtckdkcnnfjbdmaaGreat
open Go.RowKit Me

theorem sF_refl (x : Nat) : Re.sF x x = true := by rw [Re.sF_eq]; simp
theorem smV_refl (x : Vl) : smV x x = true := by
  unfold smV
  simp [sF_refl]
theorem smL_refl (L : List Vl) : smL L L = true := by
  induction L with
  | nil => rfl
  | cons x L ih => rw [smL, smV_refl, ih]; rfl
theorem smS_refl (s : Sn) : smS s s = true := by
  unfold smS
  simp [smL_refl]
theorem ten_cells {W : World} {b : Nat} {a0 a1 a2 a3 a4 a5 a6 a7 a8 a9 : Value} {t : TypeId} (h : W.heap[b]? = some (.cells #[a0, a1, a2, a3, a4, a5, a6, a7, a8, a9] t (0, 0))) : W.cell? ⟨b, 0, none⟩ = some a0 ∧ W.cell? ⟨b, 1, none⟩ = some a1 ∧ W.cell? ⟨b, 2, none⟩ = some a2 ∧ W.cell? ⟨b, 3, none⟩ = some a3 ∧ W.cell? ⟨b, 4, none⟩ = some a4 ∧ W.cell? ⟨b, 5, none⟩ = some a5 ∧ W.cell? ⟨b, 6, none⟩ = some a6 ∧ W.cell? ⟨b, 7, none⟩ = some a7 ∧ W.cell? ⟨b, 8, none⟩ = some a8 ∧ W.cell? ⟨b, 9, none⟩ = some a9 := by
  refine ⟨?_, ?_, ?_, ?_, ?_, ?_, ?_, ?_, ?_, ?_⟩ <;> simp [World.cell?, h]
/-- What is asked, in a block of its own. -/
structure Ak (w : World) (A B : Sn) (ua ub lv : Value) (n : List UInt8) (num den : Int) (W : World) : Prop where
  h : W.heap[w.heap.size]? = some (.cells #[.int .i64 A.p, ua, .int .u64 (A.r : Int), .int .i64 B.p, ub, .int .u64 (B.r : Int), .string ⟨n.toArray⟩, lv, .int .i64 num, .int .i64 den] 36 (0, 0))
  bl : Below w.heap.size w W
theorem Ak.below {w W W1 : World} {A B : Sn} {ua ub lv : Value} {n : List UInt8} {num den : Int} (h : Ak w A B ua ub lv n num den W) (hb : Below W.heap.size W W1) : Ak w A B ua ub lv n num den W1 := ⟨hkN h.h hb, bt h.bl hb⟩
/-- A value that was told, in a block of its own. -/
structure Vb (b : Nat) (V : Vl) (lv cv : Value) (W : World) : Prop where
  x : B11 W b V lv cv
  l : SLb W lv V.d.labels
  c : SN W cv V.cs
theorem Vb.below {b : Nat} {V : Vl} {lv cv : Value} {W W1 : World} (h : Vb b V lv cv W) (hb : Below W.heap.size W W1) : Vb b V lv cv W1 := ⟨h.x.below hb, h.l.below hb, h.c.below hb⟩
/-- What the last region holds on to. -/
abbrev S7f (w : World) (A B : Sn) (ua ub lv : Value) (n : List UInt8) (num den : Int) (V : Vl) (bv bw : Nat) (l1 c1 l2 c2 : Value) (W : World) : Prop :=
  W.cell? ⟨w.heap.size, 0, none⟩ = some (.int .i64 A.p) ∧ W.cell? ⟨w.heap.size, 1, none⟩ = some ua ∧ W.cell? ⟨w.heap.size, 2, none⟩ = some (.int .u64 (A.r : Int)) ∧ W.cell? ⟨w.heap.size, 3, none⟩ = some (.int .i64 B.p) ∧ W.cell? ⟨w.heap.size, 4, none⟩ = some ub ∧ W.cell? ⟨w.heap.size, 5, none⟩ = some (.int .u64 (B.r : Int)) ∧ cB bv V l1 c1 W ∧ cB bw V l2 c2 W ∧ Hid (Ak w A B ua ub lv n num den W) ∧ Hid (Vb bv V l1 c1 W) ∧ Hid (Vb bw V l2 c2 W)
theorem s7_of {w W : World} {A B : Sn} {ua ub lv : Value} {n : List UInt8} {num den : Int} {V : Vl} {bv bw : Nat} {l1 c1 l2 c2 : Value} (h1 : Ak w A B ua ub lv n num den W) (h2 : Vb bv V l1 c1 W) (h3 : Vb bw V l2 c2 W) : S7f w A B ua ub lv n num den V bv bw l1 c1 l2 c2 W := by
  obtain ⟨a0, a1, a2, a3, a4, a5, -⟩ := ten_cells h1.h
  exact ⟨a0, a1, a2, a3, a4, a5, h2.x.cB, h3.x.cB, h1, h2, h3⟩
theorem keep7 {w W W1 : World} {A B : Sn} {ua ub lv : Value} {n : List UInt8} {num den : Int} {V : Vl} {bv bw : Nat} {l1 c1 l2 c2 : Value} (hb : Below W.heap.size W W1) (h : S7f w A B ua ub lv n num den V bv bw l1 c1 l2 c2 W) : S7f w A B ua ub lv n num den V bv bw l1 c1 l2 c2 W1 := s7_of (h.2.2.2.2.2.2.2.2.1.out.below hb) (h.2.2.2.2.2.2.2.2.2.1.out.below hb) (h.2.2.2.2.2.2.2.2.2.2.out.below hb)
theorem RowS.two {W : World} {A B : Sn} {ua ub : Value} (hA : SV W ua A.vs) (hB : SV W ub B.vs) (t : TypeId) : RowS (W.alloc (.cells #[.int .i64 A.p, ua, .int .u64 (A.r : Int), .int .i64 B.p, ub, .int .u64 (B.r : Int)] t)) W.heap.size [A, B] := by
  have hb := bel1 W (.cells #[.int .i64 A.p, ua, .int .u64 (A.r : Int), .int .i64 B.p, ub, .int .u64 (B.r : Int)] t)
  intro i hi
  match i, hi with
  | 0, _ => exact ⟨ua, by simp [go_sem], by simp [go_sem], by simp [go_sem], hA.below hb⟩
  | 1, _ => exact ⟨ub, by simp [go_sem], by simp [go_sem], by simp [go_sem], hB.below hb⟩
set_option maxRecDepth 100000 in
set_option maxHeartbeats 8000000 in
theorem finds_walk (A B : Sn) (ua ub lv : Value) (n : List UInt8) (lb : List La.Lb) (num den : Int) (w : World) (sA : SV w ua A.vs) (wA : SnW A) (lA : SnL A) (sB : SV w ub B.vs) (wB : SnW B) (lB : SnL B) (sl : SLb w lv lb) (hd : den < 9223372036854775808) :
    Calls Tryz.prog 6 #[.agg #[.int .i64 A.p, ua, .int .u64 (A.r : Int), .int .i64 B.p, ub, .int .u64 (B.r : Int), .string ⟨n.toArray⟩, lv, .int .i64 num, .int .i64 den]] w fun e w' => e = .returned (.bool true) ∧ Below w.heap.size w w' := by
  have HX : Hid (∀ W, Calls Tryz.prog 9 #[] W fun r w' => r = .returned (.bool true) ∧ Below W.heap.size W w') := fun W => fixed_any W
  have HFe : Hid (∀ W, Below w.heap.size w W → Calls Tryz.prog 15 #[.slice (some ⟨W.heap.size, 0, none⟩) 2 2] (W.alloc (.cells #[.int .i64 A.p, ua, .int .u64 (A.r : Int), .int .i64 B.p, ub, .int .u64 (B.r : Int)] 26)) fun e w' => e = .returned (.bool (decide (wgtS [A, B] ≤ 1048576))) ∧ Below (W.alloc (.cells #[.int .i64 A.p, ua, .int .u64 (A.r : Int), .int .i64 B.p, ub, .int .u64 (B.r : Int)] 26)).heap.size (W.alloc (.cells #[.int .i64 A.p, ua, .int .u64 (A.r : Int), .int .i64 B.p, ub, .int .u64 (B.r : Int)] 26)) w') := fun W hb => few_any W.heap.size 2 [A, B] (by simp) _ (RowS.two (sA.below hb) (sB.below hb) _) (fun s hs x hx => by
    rcases List.mem_cons.1 hs with rfl | hs
    · exact ⟨(wA.vs x hx).cl, lA x hx⟩
    · rw [List.mem_singleton] at hs
      subst hs
      exact ⟨(wB.vs x hx).cl, lB x hx⟩)
  have HF1 : Hid (wgtS [A, B] ≤ 1048576 → ∀ W, Below w.heap.size w W → Calls Tryz.prog 16 #[.agg #[.int .i64 A.p, ua, .int .u64 (A.r : Int)], .string ⟨n.toArray⟩, lv] W fun e w' => FnQ W A n lb e w') := fun hf W hb => find_any A _ n lv lb W ⟨ua, rfl, sA.below hb⟩ (sl.below hb) (fun x hx => by
    have h1 := wgt_mem hx
    have h2 : wgtS [A, B] = wgtL A.vs + (wgtL B.vs + 0) := rfl
    omega)
  have HF2 : Hid (∀ W, Below w.heap.size w W → Calls Tryz.prog 17 #[.agg #[.int .i64 A.p, ua, .int .u64 (A.r : Int)], .string ⟨n.toArray⟩, lv] W fun e w' => RfQ W A n lb e w') := fun W hb => rfind_any A _ n lv lb W ⟨ua, rfl, sA.below hb⟩ (sl.below hb)
  have HQ1 : Hid (∀ W, Below w.heap.size w W → Calls Tryz.prog 18 #[.agg #[.int .i64 A.p, ua, .int .u64 (A.r : Int)], .string ⟨n.toArray⟩, lv, .int .i64 num, .int .i64 den] W fun e w' => e = two (qtS A n lb num den).1 (qtS A n lb num den).2 ∧ Below W.heap.size W w') := fun W hb => cquantile_any A _ n lv lb num den hd wA W ⟨ua, rfl, sA.below hb⟩ (sl.below hb)
  have HQ2 : Hid (∀ W, Below w.heap.size w W → Calls Tryz.prog 19 #[.agg #[.int .i64 A.p, ua, .int .u64 (A.r : Int)], .string ⟨n.toArray⟩, lv, .int .i64 num, .int .i64 den] W fun e w' => e = two (qtS A n lb num den).1 (qtS A n lb num den).2 ∧ Below W.heap.size W w') := fun W hb => rquantile_any A _ n lv lb num den hd wA W ⟨ua, rfl, sA.below hb⟩ (sl.below hb)
  have HS1 : Hid (∀ W, Below w.heap.size w W → Calls Tryz.prog 21 #[.agg #[.int .i64 A.p, ua, .int .u64 (A.r : Int)], .agg #[.int .i64 B.p, ub, .int .u64 (B.r : Int)]] W fun e w' => e = .returned (.bool (smS A B)) ∧ Below W.heap.size W w') := fun W hb => csames_any A B _ _ wA wB W ⟨ua, rfl, sA.below hb⟩ ⟨ub, rfl, sB.below hb⟩
  have HS2 : Hid (∀ W, Below w.heap.size w W → Calls Tryz.prog 14 #[.agg #[.int .i64 A.p, ua, .int .u64 (A.r : Int)], .agg #[.int .i64 B.p, ub, .int .u64 (B.r : Int)]] W fun e w' => e = .returned (.bool (smS A B)) ∧ Below W.heap.size W w') := fun W hb => rsames_any A B _ _ wA wB W ⟨ua, rfl, sA.below hb⟩ ⟨ub, rfl, sB.below hb⟩
  have HS3 : Hid (∀ W, Below w.heap.size w W → Calls Tryz.prog 21 #[.agg #[.int .i64 A.p, ua, .int .u64 (A.r : Int)], .agg #[.int .i64 A.p, ua, .int .u64 (A.r : Int)]] W fun e w' => e = .returned (.bool true) ∧ Below W.heap.size W w') := fun W hb => by
    have := csames_any A A _ _ wA wA W ⟨ua, rfl, sA.below hb⟩ ⟨ua, rfl, sA.below hb⟩
    rw [smS_refl] at this
    exact this
  have HVw := hid_of (fnd_w wA n lb)
  obtain ⟨ao, b1, o1, cp1, rfl, -⟩ := sA.open
  obtain ⟨bo, b2, o2, cp2, rfl, -⟩ := sB.open
  obtain ⟨la, lc, rfl⟩ := sl.form
  have HN : Hid (Ak w A B (.slice ao A.vs.length cp1) (.slice bo B.vs.length cp2) (.slice la lb.length lc) n num den (w.alloc (.cells #[.int .i64 A.p, .slice ao A.vs.length cp1, .int .u64 (A.r : Int), .int .i64 B.p, .slice bo B.vs.length cp2, .int .u64 (B.r : Int), .string ⟨n.toArray⟩, .slice la lb.length lc, .int .i64 num, .int .i64 den] 36))) := ⟨new_1 w _, bel1 _ _⟩
  clear sA wA lA sB wB lB sl hd
  unfold FnQ at HF1
  unfold RfQ at HF2
  generalize qtS A n lb num den = qt at *
  obtain ⟨qa, qb⟩ := qt
  generalize smS A B = sm at *
  generalize fndS A n lb = fv at *
  obtain ⟨V, er⟩ := fv
  simp only at HF1 HF2 HQ1 HQ2 HVw
  have sF := store_f
  go_enter Tryz.func6, Tryz.ntmps6
  go_upto_region 1 with fail
  generalize w.alloc (.cells #[.int .i64 A.p, .slice ao A.vs.length cp1, .int .u64 (A.r : Int), .int .i64 B.p, .slice bo B.vs.length cp2, .int .u64 (B.r : Int), .string ⟨n.toArray⟩, .slice la lb.length lc, .int .i64 num, .int .i64 den] 36) = w0 at HN ⊢
  obtain ⟨a0, a1, a2, a3, a4, a5, a6, a7, a8, a9⟩ := ten_cells HN.out.h
  by_cases hfew : wgtS [A, B] ≤ 1048576
  · rw [decide_eq_true hfew] at HFe
    have HF1' := hid_of (HF1.out hfew)
    clear HF1 hfew
    go_upto_region 3 with (go_at_call 15; (with_reducible refine (HFe.out _ HN.out.bl).mono ?_); rintro e w1 ⟨rfl, hb1⟩)
    have HA1 := hid_of (HN.out.below (bt (bel1 _ _) hb1))
    clear a0 a1 a2 a3 a4 a5 a6 a7 a8 a9 HN HFe hb1
    obtain ⟨a0, a1, a2, a3, a4, a5, a6, a7, a8, a9⟩ := ten_cells HA1.out.h
    go_upto_region 4 with (go_at_call 16; (with_reducible refine (HF1'.out _ HA1.out.bl).mono ?_); rintro e w2 ⟨l2, c2, rfl, hl2, hc2, hb2⟩; obtain ⟨l2a, l2b, l2c, rfl, -⟩ := own_slice hl2; obtain ⟨c2a, c2b, c2c, rfl, -⟩ := own_slice hc2)
    have hbn := bel1 w2 (.cells (vc V (.slice l2a V.d.labels.length l2c) (.slice c2a V.cs.length c2c)) 45)
    have HV2 : Hid (Vb w2.heap.size V (.slice l2a V.d.labels.length l2c) (.slice c2a V.cs.length c2c) (w2.alloc (.cells (vc V (.slice l2a V.d.labels.length l2c) (.slice c2a V.cs.length c2c)) 45))) := ⟨newB11 w2 V _ _ _, (OwnL.slb hl2).below hbn, (OwnC.sn hc2 hb2.size).below hbn⟩
    have HA2 := hid_of (HA1.out.below (bt hb2 hbn))
    obtain ⟨w3, hw3⟩ : ∃ w3, w2.alloc (.cells (vc V (.slice l2a V.d.labels.length l2c) (.slice c2a V.cs.length c2c)) 45) = w3 := ⟨_, rfl⟩
    rw [hw3] at HV2 HA2
    simp only [vc] at hw3
    rw [hw3]
    clear a0 a1 a2 a3 a4 a5 a6 a7 a8 a9 HA1 HF1' hl2 hc2 hb2 hbn hw3
    generalize w2.heap.size = bv at *
    obtain ⟨a0, a1, a2, a3, a4, a5, a6, a7, a8, a9⟩ := ten_cells HA2.out.h
    go_upto_region 5 with (go_at_call 17; (with_reducible refine (HF2.out _ HA2.out.bl).mono ?_); rintro e w4 ⟨l4a, l4c, c4a, c4c, rfl, hl4, hc4, hb4⟩)
    have hbn := bel1 w4 (.cells (vc V (.slice l4a V.d.labels.length l4c) (.slice c4a V.cs.length c4c)) 45)
    have HV4 : Hid (Vb w4.heap.size V (.slice l4a V.d.labels.length l4c) (.slice c4a V.cs.length c4c) (w4.alloc (.cells (vc V (.slice l4a V.d.labels.length l4c) (.slice c4a V.cs.length c4c)) 45))) := ⟨newB11 w4 V _ _ _, (hl4.below hb4).below hbn, (hc4.below hb4).below hbn⟩
    have HA4 := hid_of (HA2.out.below (bt hb4 hbn))
    have HV3 := hid_of (HV2.out.below (bt hb4 hbn))
    obtain ⟨w5, hw5⟩ : ∃ w5, w4.alloc (.cells (vc V (.slice l4a V.d.labels.length l4c) (.slice c4a V.cs.length c4c)) 45) = w5 := ⟨_, rfl⟩
    rw [hw5] at HV4 HA4 HV3
    simp only [vc] at hw5
    rw [hw5]
    clear a0 a1 a2 a3 a4 a5 a6 a7 a8 a9 HA2 HV2 HF2 hl4 hc4 hb4 hbn hw5
    generalize w4.heap.size = bw at *
    obtain ⟨a0, a1, a2, a3, a4, a5, a6, a7, a8, a9⟩ := ten_cells HA4.out.h
    go_upto_region 6 with (go_at_call 18; (with_reducible refine (HQ1.out _ HA4.out.bl).mono ?_); rintro e w6 ⟨rfl, hb6⟩)
    have HA6 := hid_of (HA4.out.below hb6)
    obtain ⟨a0, a1, a2, a3, a4, a5, a6, a7, a8, a9⟩ := ten_cells HA6.out.h
    go_upto_region 7 with (go_at_call 19; (with_reducible refine (HQ2.out _ HA6.out.bl).mono ?_); rintro e w7 ⟨rfl, hb7⟩)
    have hS0 := s7_of (HA6.out.below hb7) ((HV3.out.below hb6).below hb7) ((HV4.out.below hb6).below hb7)
    have HSv : Hid (∀ W, S7f w A B (.slice ao A.vs.length cp1) (.slice bo B.vs.length cp2) (.slice la lb.length lc) n num den V bv bw (.slice l2a V.d.labels.length l2c) (.slice c2a V.cs.length c2c) (.slice l4a V.d.labels.length l4c) (.slice c4a V.cs.length c4c) W → Calls Tryz.prog 20 #[vx V (.slice l2a V.d.labels.length l2c) (.slice c2a V.cs.length c2c), vx V (.slice l4a V.d.labels.length l4c) (.slice c4a V.cs.length c4c)] W fun e w' => e = .returned (.bool true) ∧ Below W.heap.size W w') := fun W k => by
      have := rsamev_any V V _ _ HVw.out HVw.out W ⟨_, _, rfl, k.2.2.2.2.2.2.2.2.2.1.out.l, k.2.2.2.2.2.2.2.2.2.1.out.c⟩ ⟨_, _, rfl, k.2.2.2.2.2.2.2.2.2.2.out.l, k.2.2.2.2.2.2.2.2.2.2.out.c⟩
      rw [smV_refl] at this
      exact this
    have hsm : (sm == sm) = true := by cases sm <;> rfl
    clear a0 a1 a2 a3 a4 a5 a6 a7 a8 a9 HA4 HA6 HV3 HV4 hb6 hb7 HQ1 HQ2 HVw sF
    go_region_held3 (fun W => S7f w A B (.slice ao A.vs.length cp1) (.slice bo B.vs.length cp2) (.slice la lb.length lc) n num den V bv bw (.slice l2a V.d.labels.length l2c) (.slice c2a V.cs.length c2c) (.slice l4a V.d.labels.length l4c) (.slice c4a V.cs.length c4c) W)
      (first | with_reducible assumption | with_reducible exact keep7 (by with_reducible assumption) (by with_reducible assumption) | with_reducible exact keep7 (drew_bel _) hS0)
      (first
        | (go_at_call 20; (with_reducible refine Calls.mono (HSv.out _ (by first | with_reducible assumption | with_reducible exact keep7 (by with_reducible assumption) (by with_reducible assumption) | with_reducible exact keep7 (drew_bel _) hS0)) ?_); rintro e x1 ⟨rfl, hx1⟩; have hk1 := keep7 hx1 (by first | with_reducible assumption | with_reducible exact keep7 (by with_reducible assumption) (by with_reducible assumption) | with_reducible exact keep7 (drew_bel _) hS0))
        | (go_at_call 21; (with_reducible refine Calls.mono (HS1.out _ hk1.2.2.2.2.2.2.2.2.1.out.bl) ?_); rintro e x2 ⟨rfl, hx2⟩; have hk2 := keep7 hx2 hk1)
        | (go_at_call 14; (first | (with_reducible refine Calls.mono (HS2.out _ hk2.2.2.2.2.2.2.2.2.1.out.bl) ?_) | (with_reducible refine Calls.mono (HS2.out _ hk1.2.2.2.2.2.2.2.2.1.out.bl) ?_)); rintro e x3 ⟨rfl, hx3⟩; (first | (with_reducible have hk3 := keep7 hx3 hk2) | (with_reducible have hk3 := keep7 hx3 hk1)))
        | (go_at_call 21; (with_reducible refine Calls.mono (HS3.out _ hk3.2.2.2.2.2.2.2.2.1.out.bl) ?_); rintro e x4 ⟨rfl, hx4⟩; have hk4 := keep7 hx4 hk3)
        | (go_at_call 9; (with_reducible refine Calls.mono (HX.out _) ?_); rintro e x5 ⟨rfl, hx5⟩; have hk5 := keep7 hx5 hk4))
    all_goals
      rename_i hSe
      go_wp2_with fail
      go_ret
      exact ⟨rfl, hSe.2.2.2.2.2.2.2.2.1.out.bl⟩
  · rw [decide_eq_false hfew] at HFe
    clear HF1 HF2 HQ1 HQ2 HS1 HS2 HS3 hfew
    go_wp2_with (first
      | (go_at_call 15; (with_reducible refine (HFe.out _ HN.out.bl).mono ?_); rintro e w1 ⟨rfl, hb1⟩)
      | (go_at_call 9; (with_reducible refine (HX.out _).mono ?_); rintro e w2 ⟨rfl, hb2⟩))
    go_ret
    exact ⟨rfl, bt (HN.out.below (bt (bel1 _ _) hb1)).bl hb2⟩
end Go.Proofs.YtckdkcnnfjbdmaaGreat
