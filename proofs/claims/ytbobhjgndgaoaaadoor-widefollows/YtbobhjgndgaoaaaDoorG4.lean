/- WideFollows: THE WALK. Own work of the verifier. -/
import Derived.Test.YtbobhjgndgaoaaaDoorG1
import Derived.Test.YtbobhjgndgaoaaaDoorG2
import Derived.Test.YtbobhjgndgaoaaaDoorG3
import Derived.Deep.RegionHeld3
import Derived.Deep.DeepCutAuto
namespace Go.Proofs.YtbobhjgndgaoaaaDoor
open Go.RowKit Go.Sort

/-- What stays as it is in every world of the walk. -/
structure Rest (w W : World) (p q : Nat) (x y z : Int) : Prop where
  p1 : p < W.heap.size
  q1 : q < W.heap.size
  s1 : w.heap.size < W.heap.size
  cx : W.cell? ⟨w.heap.size, 4, none⟩ = some (.int .u64 x)
  cy : W.cell? ⟨w.heap.size, 5, none⟩ = some (.int .u64 y)
  cz : W.cell? ⟨w.heap.size, 6, none⟩ = some (.int .u64 z)
  below : Below w.heap.size w W
  tab : Tab W
theorem keepA {w W W1 : World} {p q : Nat} {x y z : Int} {x0 x1 y0 y1 : Value} (hb : Below W.heap.size W W1)
    (h : W.cell? ⟨p, 0, none⟩ = some x0 ∧ W.cell? ⟨p, 1, none⟩ = some x1 ∧ W.cell? ⟨q, 0, none⟩ = some y0 ∧ W.cell? ⟨q, 1, none⟩ = some y1 ∧ Rest w W p q x y z) :
    W1.cell? ⟨p, 0, none⟩ = some x0 ∧ W1.cell? ⟨p, 1, none⟩ = some x1 ∧ W1.cell? ⟨q, 0, none⟩ = some y0 ∧ W1.cell? ⟨q, 1, none⟩ = some y1 ∧ Rest w W1 p q x y z := by
  obtain ⟨h1, h2, h3, h4, r⟩ := h
  have hs := hb.size
  obtain ⟨p1, q1, s1, cx, cy, cz, B, T⟩ := r
  refine ⟨?_, ?_, ?_, ?_, by omega, by omega, by omega, ?_, ?_, ?_, B.trans (hb.mono B.size), T.below hb⟩
  · rw [hb.cell (p := ⟨p, 0, none⟩) p1, h1]
  · rw [hb.cell (p := ⟨p, 1, none⟩) p1, h2]
  · rw [hb.cell (p := ⟨q, 0, none⟩) q1, h3]
  · rw [hb.cell (p := ⟨q, 1, none⟩) q1, h4]
  · rw [hb.cell (p := ⟨w.heap.size, 4, none⟩) s1, cx]
  · rw [hb.cell (p := ⟨w.heap.size, 5, none⟩) s1, cy]
  · rw [hb.cell (p := ⟨w.heap.size, 6, none⟩) s1, cz]
theorem keepC {w W W1 : World} {p q r : Nat} {x y z : Int} {x0 x1 y0 y1 c0 c1 : Value} (hb : Below W.heap.size W W1)
    (h : W.cell? ⟨p, 0, none⟩ = some x0 ∧ W.cell? ⟨p, 1, none⟩ = some x1 ∧ W.cell? ⟨q, 0, none⟩ = some y0 ∧ W.cell? ⟨q, 1, none⟩ = some y1 ∧ W.cell? ⟨r, 0, none⟩ = some c0 ∧ W.cell? ⟨r, 1, none⟩ = some c1 ∧ (r < W.heap.size ∧ Rest w W p q x y z)) :
    W1.cell? ⟨p, 0, none⟩ = some x0 ∧ W1.cell? ⟨p, 1, none⟩ = some x1 ∧ W1.cell? ⟨q, 0, none⟩ = some y0 ∧ W1.cell? ⟨q, 1, none⟩ = some y1 ∧ W1.cell? ⟨r, 0, none⟩ = some c0 ∧ W1.cell? ⟨r, 1, none⟩ = some c1 ∧ (r < W1.heap.size ∧ Rest w W1 p q x y z) := by
  obtain ⟨h1, h2, h3, h4, h5, h6, hr, R⟩ := h
  obtain ⟨k1, k2, k3, k4, K⟩ := keepA hb ⟨h1, h2, h3, h4, R⟩
  exact ⟨k1, k2, k3, k4, by rw [hb.cell (p := ⟨r, 0, none⟩) hr, h5], by rw [hb.cell (p := ⟨r, 1, none⟩) hr, h6], Nat.lt_of_lt_of_le hr hb.size, K⟩
theorem startP (w : World) (t u : TypeId) (ah al bh bl x y z : Int) (e0 e1 f0 f1 : Value) (W : World)
    (hW : W = (((w.alloc (.cells #[.int .i64 ah, .int .u64 al, .int .i64 bh, .int .u64 bl, .int .u64 x, .int .u64 y, .int .u64 z] t)).alloc (.cells #[e0, e1] u)).alloc (.cells #[f0, f1] u)).drew) (htab : Tab w) :
    W.cell? ⟨w.heap.size + 1, 0, none⟩ = some e0 ∧ W.cell? ⟨w.heap.size + 1, 1, none⟩ = some e1 ∧ W.cell? ⟨w.heap.size + 1 + 1, 0, none⟩ = some f0 ∧ W.cell? ⟨w.heap.size + 1 + 1, 1, none⟩ = some f1 ∧ Rest w W (w.heap.size + 1) (w.heap.size + 1 + 1) x y z := by
  subst hW
  refine ⟨by simp [go_sem], by simp [go_sem], by simp [go_sem], by simp [go_sem], by simp [go_sem], by simp [go_sem], by simp [go_sem], by simp [go_sem], by simp [go_sem], by simp [go_sem], Below.drew (bel3 w _ _ _), ?_⟩
  exact htab.below (Below.mono (Below.drew (bel3 w _ _ _)) (Nat.le_refl _))
theorem startC {w : World} {p q : Nat} {x y z : Int} {x0 x1 y0 y1 : Value} (W : World) (t : TypeId) (c0 c1 : Value)
    (h : W.cell? ⟨p, 0, none⟩ = some x0 ∧ W.cell? ⟨p, 1, none⟩ = some x1 ∧ W.cell? ⟨q, 0, none⟩ = some y0 ∧ W.cell? ⟨q, 1, none⟩ = some y1 ∧ Rest w W p q x y z) :
    (W.alloc (.cells #[c0, c1] t)).cell? ⟨p, 0, none⟩ = some x0 ∧ (W.alloc (.cells #[c0, c1] t)).cell? ⟨p, 1, none⟩ = some x1 ∧ (W.alloc (.cells #[c0, c1] t)).cell? ⟨q, 0, none⟩ = some y0 ∧ (W.alloc (.cells #[c0, c1] t)).cell? ⟨q, 1, none⟩ = some y1 ∧
      (W.alloc (.cells #[c0, c1] t)).cell? ⟨W.heap.size, 0, none⟩ = some c0 ∧ (W.alloc (.cells #[c0, c1] t)).cell? ⟨W.heap.size, 1, none⟩ = some c1 ∧ (W.heap.size < (W.alloc (.cells #[c0, c1] t)).heap.size ∧ Rest w (W.alloc (.cells #[c0, c1] t)) p q x y z) := by
  obtain ⟨k1, k2, k3, k4, K⟩ := keepA (bel1 W (.cells #[c0, c1] t)) h
  exact ⟨k1, k2, k3, k4, by simp [go_sem], by simp [go_sem], by simp, K⟩
theorem run_neg (P : Program) (X : Nat) (W : World) : (Op.unary .neg (.float .f64 X)).run P W = .ok (.float .f64 (Op.negFloat .f64 X)) W := rfl
theorem Rest.swap {w W : World} {p q : Nat} {x y z : Int} (h : Rest w W p q x y z) : Rest w W q p x y z := ⟨h.q1, h.p1, h.s1, h.cx, h.cy, h.cz, h.below, h.tab⟩

set_option maxHeartbeats 8000000 in
set_option maxRecDepth 100000 in
theorem follows_walk (ah al bh bl x y z : Int) (h1 : Wf ah al) (h2 : Wf bh bl) (x0 : 0 ≤ x) (x1 : x < 18446744073709551616) (y0 : 0 ≤ y) (y1 : y < 18446744073709551616) (z0 : 0 ≤ z) (z1 : z < 18446744073709551616) (w : World) (htab : Tab w) :
    Calls Tryd.prog 8 #[.agg #[.int .i64 ah, .int .u64 al, .int .i64 bh, .int .u64 bl, .int .u64 x, .int .u64 y, .int .u64 z]] w fun e w' => e = .returned (.bool true) ∧ Below w.heap.size w w' := by
  have hc := wf_rnd (val ah al + val bh bl)
  have hvc := val_hl (rnd (val ah al + val bh bl))
  have HAdd : Hid _ := fun W => add_any ah al bh bl h1 h2 W
  have HSub1 : Hid _ := fun W => sub_any _ _ _ _ hc h2 W
  have HSub2 : Hid _ := fun W => sub_any _ _ _ _ hc h1 W
  rw [hvc, num_of ⟨(undo1 (bh := bh) (bl := bl) h1).1.symm, (undo1 (bh := bh) (bl := bl) h1).2.symm⟩] at HSub1
  rw [hvc, num_of ⟨(undo2 (ah := ah) (al := al) h2).1.symm, (undo2 (ah := ah) (al := al) h2).2.symm⟩] at HSub2
  have HAdd2 : Hid _ := fun W => add_any bh bl ah al h2 h1 W
  rw [Int.add_comm (val bh bl)] at HAdd2
  have HNeg : Hid _ := fun W => neg_any ah al h1 W
  have HAdd3 : Hid _ := fun W => add_any _ _ _ _ h1 (wf_rnd (-val ah al)) W
  rw [val_hl, undo3, num_of (h := 0) (l := 0) (by decide)] at HAdd3
  have HSub3 : Hid _ := fun W => sub_any ah al bh bl h1 h2 W
  have HSub4 : Hid _ := fun W => sub_any bh bl ah al h2 h1 W
  have HNeg2 : Hid _ := fun W => neg_any _ _ (wf_rnd (val bh bl - val ah al)) W
  rw [val_hl, undo4] at HNeg2
  have HCmp : Hid _ := fun W => cmp_any ah al bh bl h1 h2 W
  have HCmp2 : Hid _ := fun W => cmp_any bh bl ah al h2 h1 W
  have HSgn : Hid _ := fun W => sign_any _ _ (wf_rnd (val ah al - val bh bl)) W
  rw [val_hl] at HSgn
  have HNear : Hid _ := sign_near h1 h2
  have HPrint : Hid _ := fun W hW => print_any ah al h1 W hW
  have HParse : Hid _ := fun W hW => parse_print ah al h1 W hW
  have HFa : Hid _ := fun W => float_any ah al h1 W
  have HFb : Hid _ := fun W => float_any bh bl h2 W
  have HNegb : Hid _ := fun W => neg_any bh bl h2 W
  have HFn : Hid _ := fun W => float_any _ _ (wf_rnd (-val bh bl)) W
  rw [val_hl] at HFn
  have HPt : Hid _ := fun W => followparts_any x y z x0 x1 y0 y1 z0 z1 W
  have hcl : cmp (val ah al) (val bh bl) < 0 → val ah al ≤ val bh bl := by unfold cmp; split <;> (try split) <;> omega
  have hcg : 0 < cmp (val ah al) (val bh bl) → val bh bl ≤ val ah al := by unfold cmp; split <;> (try split) <;> omega
  have hce : cmp (val ah al) (val bh bl) = 0 ↔ val ah al = val bh bl := by unfold cmp; split <;> (try split) <;> omega
  have hcr : -1 ≤ cmp (val ah al) (val bh bl) ∧ cmp (val ah al) (val bh bl) ≤ 1 := by unfold cmp; split <;> (try split) <;> omega
  have HO1 : Hid (cmp (val ah al) (val bh bl) < 0 → (FloatKind.f64.format.order (fbits (val ah al)) (fbits (val bh bl)) == some .gt) = false) := fun h => order_le (inR_val h1) (inR_val h2) (hcl h)
  have HO2 : Hid (0 < cmp (val ah al) (val bh bl) → (FloatKind.f64.format.order (fbits (val ah al)) (fbits (val bh bl)) == some .lt) = false) := fun h => order_ge (inR_val h1) (inR_val h2) (hcg h)
  have HO3 : Hid (cmp (val ah al) (val bh bl) = 0 → (FloatKind.f64.format.order (fbits (val ah al)) (fbits (val bh bl)) != some .eq) = false) := fun h => by
    rw [hce.1 h]; exact order_same (inR_val h2)
  have HO4 : Hid (¬ (bh = -9223372036854775808 ∧ bl = 0) → (FloatKind.f64.format.order (fbits (rnd (-val bh bl))) (Op.negFloat .f64 (fbits (val bh bl))) != some .eq) = false) := fun h => order_neg (inR_val h2) (fun e => h (by obtain ⟨_, _, _, _⟩ := h2; unfold val at e; constructor <;> omega))
  have HE : Hid (cmp (val ah al) (val bh bl) = 0 ↔ ah = bh ∧ al = bl) := hce.trans (val_inj h1 h2)
  have hfl := cmp_flip (val ah al) (val bh bl)
  clear hcl hcg hce
  generalize cmp (val ah al) (val bh bl) = n at *
  generalize cmp (val bh bl) (val ah al) = m at *
  generalize fbits (rnd (-val bh bl)) = fn at *
  have hgb := run_neg Tryd.prog (fbits (val bh bl))
  unfold num at HAdd HAdd2 HNeg HSub3 HSub4 HNeg2 HNegb
  generalize Lib.itoa (val ah al) = tx at *
  generalize rnd (-val bh bl) = nb at *
  generalize hiOf (rnd (val ah al + val bh bl)) = ch at *
  generalize loOf (rnd (val ah al + val bh bl)) = cl at *
  generalize hiOf (rnd (-val ah al)) = nh at *
  generalize loOf (rnd (-val ah al)) = nl at *
  generalize hiOf nb = bnh at *
  generalize loOf nb = bnl at *
  generalize rnd (val ah al - val bh bl) = dd at *
  generalize rnd (val bh bl - val ah al) = ee at *
  generalize hiOf dd = dh at *
  generalize loOf dd = dl at *
  generalize hiOf ee = eh at *
  generalize loOf ee = el at *
  generalize fbits (val ah al) = fa at *
  generalize fbits (val bh bl) = fb at *
  generalize Op.negFloat .f64 fb = gb at *
  have HGB : Hid _ := hgb
  clear hc hvc hgb
  go_enter Tryd.func8, Tryd.ntmps8
  go_wp2
  go_cut [3, 4] (fun s t W => ∃ p q : Nat, s = .pointer (some ⟨p, 0, none⟩) ∧ t = .pointer (some ⟨q, 0, none⟩) ∧ W.cell? ⟨p, 0, none⟩ = some (.int .i64 ah) ∧ W.cell? ⟨p, 1, none⟩ = some (.int .u64 al) ∧ W.cell? ⟨q, 0, none⟩ = some (.int .i64 bh) ∧ W.cell? ⟨q, 1, none⟩ = some (.int .u64 bl) ∧ Rest w W p q x y z)
  case first =>
    go_region
    all_goals
      go_wp2_with fail
      go_meet
      first
        | exact ⟨_, _, rfl, rfl, startP w _ _ ah al bh bl x y z _ _ _ _ _ rfl htab⟩
        | (obtain ⟨k1, k2, k3, k4, K⟩ := startP w _ _ ah al bh bl x y z _ _ _ _ _ rfl htab; exact ⟨_, _, rfl, rfl, k3, k4, k1, k2, K.swap⟩)
  case rest =>
    obtain ⟨p, q, rfl, rfl, hS⟩ := hcut
    obtain ⟨a0, a1, b0, b1, R⟩ := hS
    have hS : Hid _ := keepA (Below.refl _ _) ⟨a0, a1, b0, b1, R⟩
    go_wp2_with fail
    refine (HAdd.out _).mono ?_
    rintro e w1 ⟨rfl, hb1⟩
    have hS1 : Hid _ := keepA hb1 hS.out
    clear hS a0 a1 b0 b1 R hb1
    go_upto_region 3 with fail
    have hS2 := startC w1 25 (.int .i64 ch) (.int .u64 cl) hS1.out
    clear hS1
    go_cut [55] (fun s W => s = .bool false ∧ W.cell? ⟨p, 0, none⟩ = some (.int .i64 ah) ∧ W.cell? ⟨p, 1, none⟩ = some (.int .u64 al) ∧ W.cell? ⟨q, 0, none⟩ = some (.int .i64 bh) ∧ W.cell? ⟨q, 1, none⟩ = some (.int .u64 bl) ∧ Rest w W p q x y z)
    case first =>
      as_aux_lemma =>
        go_region_held3 (fun W => W.cell? ⟨p, 0, none⟩ = some (.int .i64 ah) ∧ W.cell? ⟨p, 1, none⟩ = some (.int .u64 al) ∧ W.cell? ⟨q, 0, none⟩ = some (.int .i64 bh) ∧ W.cell? ⟨q, 1, none⟩ = some (.int .u64 bl) ∧ W.cell? ⟨w1.heap.size, 0, none⟩ = some (.int .i64 ch) ∧ W.cell? ⟨w1.heap.size, 1, none⟩ = some (.int .u64 cl) ∧ (w1.heap.size < W.heap.size ∧ Rest w W p q x y z))
          (first | exact keepC (by assumption) (by assumption) | exact keepC (Below.drew (Below.refl _ _)) hS2)
          (first
            | (go_at_call 12; first | with_reducible refine (HSub1.out _).mono ?_ | with_reducible refine (HSub2.out _).mono ?_ | with_reducible refine (HSub3.out _).mono ?_ | with_reducible refine (HSub4.out _).mono ?_
               rintro e w2 ⟨rfl, hb⟩)
            | (go_at_call 10; first | with_reducible refine (HAdd2.out _).mono ?_ | with_reducible refine (HAdd3.out _).mono ?_
               rintro e w2 ⟨rfl, hb⟩)
            | (go_at_call 14; first | with_reducible refine (HNeg.out _).mono ?_ | with_reducible refine (HNeg2.out _).mono ?_
               rintro e w2 ⟨rfl, hb⟩))
        rename_i hS3
        go_wp2_with fail
        go_meet
        exact ⟨rfl, hS3.1, hS3.2.1, hS3.2.2.1, hS3.2.2.2.1, hS3.2.2.2.2.2.2.2⟩
    case rest =>
    obtain ⟨rfl, a0, a1, b0, b1, R⟩ := hcut
    have hS : Hid _ := keepA (Below.refl _ _) ⟨a0, a1, b0, b1, R⟩
    clear hS2
    go_wp2_with fail
    with_reducible refine (HCmp.out _).mono ?_
    rintro e w3 ⟨rfl, hb3⟩
    obtain ⟨a0, a1, b0, b1, R⟩ := keepA hb3 hS.out
    have hS3 : Hid _ := keepA (Below.refl _ _) ⟨a0, a1, b0, b1, R⟩
    clear hS hb3
    go_upto_region 6 with fail
    go_cut [72] (fun s W => s = .bool false ∧ W.cell? ⟨p, 0, none⟩ = some (.int .i64 ah) ∧ W.cell? ⟨p, 1, none⟩ = some (.int .u64 al) ∧ W.cell? ⟨q, 0, none⟩ = some (.int .i64 bh) ∧ W.cell? ⟨q, 1, none⟩ = some (.int .u64 bl) ∧ Rest w W p q x y z)
    case first =>
      as_aux_lemma =>
        go_wp2_with fail
        with_reducible refine (HCmp2.out _).mono ?_
        rintro e w4 ⟨rfl, hb4⟩
        obtain ⟨a0, a1, b0, b1, R⟩ := keepA hb4 hS3.out
        have hS4 : Hid _ := keepA (Below.refl _ _) ⟨a0, a1, b0, b1, R⟩
        clear hS3 hb4
        have hmn : -m = n := by omega
        by_cases e1 : ah = bh
        · by_cases e2 : al = bl
          · obtain rfl : n = 0 := HE.out.2 ⟨e1, e2⟩
            subst e1 e2
            go_wp2_with fail
            go_meet
            exact ⟨rfl, hS4.out⟩
          · have e3 : ¬ n = 0 := fun h => e2 (HE.out.1 h).2
            have e4 : (n == 0) = false := by rw [beq_eq_false_iff_ne]; exact e3
            subst e1
            go_wp2_with fail
            go_meet
            exact ⟨rfl, hS4.out⟩
        · have e3 : ¬ n = 0 := fun h => e1 (HE.out.1 h).1
          have e4 : (n == 0) = false := by rw [beq_eq_false_iff_ne]; exact e3
          go_wp2_with fail
          go_meet
          exact ⟨rfl, hS4.out⟩
    case rest =>
    obtain ⟨rfl, a0, a1, b0, b1, R⟩ := hcut
    have hS : Hid _ := keepA (Below.refl _ _) ⟨a0, a1, b0, b1, R⟩
    clear hS3
    go_upto_region 8 with fail
    go_cut [7] (fun s W => s = .bool (decide (-4611686018427387904 < ah ∧ ah < 4611686018427387904 ∧ -4611686018427387904 < bh ∧ bh < 4611686018427387904)) ∧ W.cell? ⟨p, 0, none⟩ = some (.int .i64 ah) ∧ W.cell? ⟨p, 1, none⟩ = some (.int .u64 al) ∧ W.cell? ⟨q, 0, none⟩ = some (.int .i64 bh) ∧ W.cell? ⟨q, 1, none⟩ = some (.int .u64 bl) ∧ Rest w W p q x y z)
    case first =>
      as_aux_lemma =>
        by_cases c1 : -4611686018427387904 < ah
        · by_cases c2 : ah < 4611686018427387904
          · by_cases c3 : -4611686018427387904 < bh
            · by_cases c4 : bh < 4611686018427387904
              · go_wp2_with fail
                go_meet
                exact ⟨by rw [decide_eq_true ⟨c1, c2, c3, c4⟩], hS.out⟩
              · go_wp2_with fail
                go_meet
                exact ⟨by rw [decide_eq_false (by omega)], hS.out⟩
            · go_wp2_with fail
              go_meet
              exact ⟨by rw [decide_eq_false (by omega)], hS.out⟩
          · go_wp2_with fail
            go_meet
            exact ⟨by rw [decide_eq_false (by omega)], hS.out⟩
        · go_wp2_with fail
          go_meet
          exact ⟨by rw [decide_eq_false (by omega)], hS.out⟩
    case rest =>
    clear a0 a1 b0 b1 R hS
    obtain ⟨rfl, a0, a1, b0, b1, R⟩ := hcut
    have hS : Hid _ := keepA (Below.refl _ _) ⟨a0, a1, b0, b1, R⟩
    go_upto_region 9 with fail
    go_cut [7, 99] (fun _ s W => s = .bool false ∧ W.cell? ⟨p, 0, none⟩ = some (.int .i64 ah) ∧ W.cell? ⟨p, 1, none⟩ = some (.int .u64 al) ∧ W.cell? ⟨q, 0, none⟩ = some (.int .i64 bh) ∧ W.cell? ⟨q, 1, none⟩ = some (.int .u64 bl) ∧ Rest w W p q x y z)
    case first =>
      as_aux_lemma =>
        by_cases hnear : -4611686018427387904 < ah ∧ ah < 4611686018427387904 ∧ -4611686018427387904 < bh ∧ bh < 4611686018427387904
        · rw [decide_eq_true hnear]
          have hd : cmp dd 0 = n := HNear.out hnear.1 hnear.2.1 hnear.2.2.1 hnear.2.2.2
          rw [hd] at HSgn
          go_wp2_with fail
          with_reducible refine (HSub3.out _).mono ?_
          rintro e w5 ⟨rfl, hb5⟩
          go_wp2_with fail
          with_reducible refine (HSgn.out _).mono ?_
          rintro e w6 ⟨rfl, hb6⟩
          go_wp2_with fail
          go_meet
          exact ⟨rfl, keepA (hb5.trans (hb6.mono hb5.size)) hS.out⟩
        · rw [decide_eq_false hnear]
          go_wp2_with fail
          go_meet
          exact ⟨rfl, hS.out⟩
    case rest =>
    clear a0 a1 b0 b1 R hS
    obtain ⟨rfl, a0, a1, b0, b1, R⟩ := hcut
    have hS : Hid _ := keepA (Below.refl _ _) ⟨a0, a1, b0, b1, R⟩
    go_wp2_with fail
    with_reducible refine (HPrint.out _ R.tab).mono ?_
    rintro e w6 ⟨rfl, hb6⟩
    clear a0 a1 b0 b1 R
    obtain ⟨a0, a1, b0, b1, R⟩ := keepA hb6 hS.out
    have hS6 : Hid _ := keepA (Below.refl _ _) ⟨a0, a1, b0, b1, R⟩
    clear hS hb6
    go_wp2_with fail
    with_reducible refine (HParse.out _ R.tab).mono ?_
    rintro e w7 ⟨rfl, hb7⟩
    clear a0 a1 b0 b1 R
    obtain ⟨a0, a1, b0, b1, R⟩ := keepA hb7 hS6.out
    have hS7 : Hid _ := keepA (bel1 w7 (.cells #[.int .i64 ah, .int .u64 al] 25)) ⟨a0, a1, b0, b1, R⟩
    clear hS6 hb7
    clear a0 a1 b0 b1 R
    have hS8 := hS7.out
    obtain ⟨a0, a1, b0, b1, R⟩ := hS7.out
    clear hS7
    go_wp2_with fail
    clear a0 a1 b0 b1 R
    go_region_held3 (fun W => W.cell? ⟨p, 0, none⟩ = some (.int .i64 ah) ∧ W.cell? ⟨p, 1, none⟩ = some (.int .u64 al) ∧ W.cell? ⟨q, 0, none⟩ = some (.int .i64 bh) ∧ W.cell? ⟨q, 1, none⟩ = some (.int .u64 bl) ∧ Rest w W p q x y z)
      (first | exact keepA (by assumption) (by assumption) | exact keepA (Below.drew (Below.refl _ _)) hS8)
      (first
        | (go_at_call 29; first | with_reducible refine (HFa.out _).mono ?_ | with_reducible refine (HFb.out _).mono ?_
           rintro e w8 ⟨rfl, hb⟩))
    rename_i hS9
    obtain ⟨a0, a1, b0, b1, R⟩ := hS9
    have hS : Hid _ := keepA (Below.refl _ _) ⟨a0, a1, b0, b1, R⟩
    clear hS8
    go_upto_region 15 with fail
    go_cut [154] (fun s W => s = .bool false ∧ W.cell? ⟨p, 0, none⟩ = some (.int .i64 ah) ∧ W.cell? ⟨p, 1, none⟩ = some (.int .u64 al) ∧ W.cell? ⟨q, 0, none⟩ = some (.int .i64 bh) ∧ W.cell? ⟨q, 1, none⟩ = some (.int .u64 bl) ∧ Rest w W p q x y z)
    case first =>
      as_aux_lemma =>
        have FIN : Hid (∀ c, (FloatKind.f64.format.order fn gb != some .eq) = c → (c = false ∨ bh = -9223372036854775808 ∧ bl = 0)) := by
          intro c hc
          by_cases hm : bh = -9223372036854775808 ∧ bl = 0
          · exact Or.inr hm
          · exact Or.inl (by rw [← hc]; exact HO4.out hm)
        rcases Int.lt_trichotomy n 0 with hn | hn | hn
        · have o1 := HO1.out hn
          have o2 : (n == 0) = false := by rw [beq_eq_false_iff_ne]; omega
          have o3 : ¬ 0 < n := by omega
          go_wp2_with fail
          with_reducible refine (HNegb.out _).mono ?_
          rintro e w5 ⟨rfl, hb5⟩
          go_wp2_with fail
          with_reducible refine (HFn.out _).mono ?_
          rintro e w6 ⟨rfl, hb6⟩
          clear a0 a1 b0 b1 R
          obtain ⟨a0, a1, b0, b1, R⟩ := keepA (hb5.trans (hb6.mono hb5.size)) hS.out
          have hS6 : Hid _ := keepA (Below.refl _ _) ⟨a0, a1, b0, b1, R⟩
          clear hS hb5 hb6
          have HGB' := HGB.out
          cases hcc : (FloatKind.f64.format.order fn gb != some .eq) with
          | false =>
            go_wp2_with fail
            go_meet
            exact ⟨rfl, hS6.out⟩
          | true =>
            obtain ⟨rfl, rfl⟩ := (FIN.out _ hcc).resolve_left (by decide)
            go_wp2_with fail
            go_meet
            exact ⟨rfl, hS6.out⟩
        · have o1 := HO3.out hn
          subst hn
          go_wp2_with fail
          with_reducible refine (HNegb.out _).mono ?_
          rintro e w5 ⟨rfl, hb5⟩
          go_wp2_with fail
          with_reducible refine (HFn.out _).mono ?_
          rintro e w6 ⟨rfl, hb6⟩
          clear a0 a1 b0 b1 R
          obtain ⟨a0, a1, b0, b1, R⟩ := keepA (hb5.trans (hb6.mono hb5.size)) hS.out
          have hS6 : Hid _ := keepA (Below.refl _ _) ⟨a0, a1, b0, b1, R⟩
          clear hS hb5 hb6
          have HGB' := HGB.out
          cases hcc : (FloatKind.f64.format.order fn gb != some .eq) with
          | false =>
            go_wp2_with fail
            go_meet
            exact ⟨rfl, hS6.out⟩
          | true =>
            obtain ⟨rfl, rfl⟩ := (FIN.out _ hcc).resolve_left (by decide)
            go_wp2_with fail
            go_meet
            exact ⟨rfl, hS6.out⟩
        · have o1 := HO2.out hn
          have o2 : (n == 0) = false := by rw [beq_eq_false_iff_ne]; omega
          have o3 : ¬ n < 0 := by omega
          go_wp2_with fail
          with_reducible refine (HNegb.out _).mono ?_
          rintro e w5 ⟨rfl, hb5⟩
          go_wp2_with fail
          with_reducible refine (HFn.out _).mono ?_
          rintro e w6 ⟨rfl, hb6⟩
          clear a0 a1 b0 b1 R
          obtain ⟨a0, a1, b0, b1, R⟩ := keepA (hb5.trans (hb6.mono hb5.size)) hS.out
          have hS6 : Hid _ := keepA (Below.refl _ _) ⟨a0, a1, b0, b1, R⟩
          clear hS hb5 hb6
          have HGB' := HGB.out
          cases hcc : (FloatKind.f64.format.order fn gb != some .eq) with
          | false =>
            go_wp2_with fail
            go_meet
            exact ⟨rfl, hS6.out⟩
          | true =>
            obtain ⟨rfl, rfl⟩ := (FIN.out _ hcc).resolve_left (by decide)
            go_wp2_with fail
            go_meet
            exact ⟨rfl, hS6.out⟩
    case rest =>
    clear a0 a1 b0 b1 R hS
    obtain ⟨rfl, a0, a1, b0, b1, R⟩ := hcut
    have hS : Hid _ := keepA (Below.refl _ _) ⟨a0, a1, b0, b1, R⟩
    have cx := R.cx
    have cy := R.cy
    have cz := R.cz
    go_wp2_with fail
    with_reducible refine (HPt.out _).mono ?_
    rintro e w9 ⟨rfl, hb9⟩
    have R9 : Hid _ := (keepA hb9 hS.out).2.2.2.2
    clear hS hb9 a0 a1 b0 b1 R cx cy cz
    go_wp2_with fail
    refine (fixed_any _ R9.out.tab).mono ?_
    rintro e w10 ⟨rfl, hb10⟩
    go_wp2
    go_ret
    exact ⟨rfl, R9.out.below.trans (hb10.mono R9.out.below.size)⟩
end Go.Proofs.YtbobhjgndgaoaaaDoor
