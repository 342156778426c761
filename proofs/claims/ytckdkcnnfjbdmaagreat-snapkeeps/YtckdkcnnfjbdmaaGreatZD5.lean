/- TWO VALUES OF ONE SERIES, the document's: two. Own work of the verifier. -/
import Derived.Test.YtckdkcnnfjbdmaaGreatZG7
import Derived.Test.YtckdkcnnfjbdmaaGreatZD1
namespace Go.Proofs.YtckdkcnnfjbdmaaGreat
open Go.RowKit Me

/-- The document's Merge of counts. -/
theorem rmerge_sn (W : World) (v v' : Value) (A C : List Cn) (hA : SN W v A) (hC : SN W v' C) (hW : Wc (A ++ C)) (lA : A.length ≤ 1048576) (lC : C.length ≤ 1048576) : Calls Tryz.prog 46 #[v, v'] W fun e w' => Md W (A ++ C) e w' := by
  rcases hA with ⟨rfl, rfl⟩ | ⟨a1, cap, rfl, _, hr⟩
  · rcases hC with ⟨rfl, rfl⟩ | ⟨a2, cap', rfl, _, hr'⟩
    · exact merge_none W
    · exact merge_left _ C cap' lC W hr' hW
  · rcases hC with ⟨rfl, rfl⟩ | ⟨a2, cap', rfl, _, hr'⟩
    · exact merge_right _ A cap lA W hr hW
    · exact merge_some _ A cap _ C cap' lA lC W hr (fun W' hW' => hr'.below hW') hW
/-- What the document's two tells. -/
def JdQ (w : World) (x y : Vl) (lx : Value) (e : Ending) (w' : World) : Prop := ∃ lv cv, e = .returned (.tuple #[vx (joinV x y).1 lv cv, .int .i64 (joinV x y).2]) ∧ (∀ W0, SLb W0 lx x.d.labels → SLb W0 lv (joinV x y).1.d.labels) ∧ OwnC w.heap.size cv (joinV x y).1.cs w' ∧ Below w.heap.size w w'
theorem jd_err {w W : World} {x y : Vl} {lx : Value} {e : Int} (hj : joinV x y = (zV, e)) (hb : Below w.heap.size w W) : JdQ w x y lx (.returned (.tuple #[.agg zc, .int .i64 e])) W := ⟨.slice none 0 0, .slice none 0 0, by rw [hj, vx_zero], fun _ _ => by rw [hj]; exact Or.inl ⟨rfl, rfl⟩, by rw [hj]; exact World.ownsRow_nil _ _ _ _, hb⟩
theorem hi_lt {t : Int} : hiOf t < 0 ↔ t < 0 := by unfold hiOf; omega
theorem jd_ok {w W : World} {x y V : Vl} {la : Option Addr} {lc : Nat} {a6 : Option Addr} {n6 c6 : Nat} (hR : joinV x y = (V, 0)) (hd : V.d = x.d) (ho : OwnC w.heap.size (.slice a6 n6 c6) V.cs W) (hb : Below w.heap.size w W) : JdQ w x y (.slice la x.d.labels.length lc) (.returned (.tuple #[vx V (.slice la x.d.labels.length lc) (.slice a6 n6 c6), .int .i64 0])) W :=
  ⟨_, _, by rw [hR], fun W0 h => by rw [hR, hd]; exact h, by rw [hR]; exact ho, hb⟩
theorem Re.sg_cases (a b : Nat) : Re.sg a b = -1 ∨ Re.sg a b = 0 ∨ Re.sg a b = 1 := by
  unfold Re.sg
  split
  · simp
  · split <;> simp
set_option maxRecDepth 100000 in
set_option maxHeartbeats 8000000 in
theorem rtwo_any (x y : Vl) (lx cx u : Value) (hx : VW x) (hy : VW y) (w : World) (hl : SLb w lx x.d.labels) (hC : SN w cx x.cs) (hu : VAt w y u) (sx : x.cs.length ≤ 1048576) (sy : y.cs.length ≤ 1048576) :
    Calls Tryz.prog 34 #[vx x lx cx, u] w fun e w' => JdQ w x y lx e w' := by
  obtain ⟨lw, cw, rfl, hl', hc'⟩ := hu
  obtain ⟨la, lc, rfl⟩ := hl.form
  obtain ⟨la', lc', rfl⟩ := hl'.form
  obtain ⟨ca, cc, rfl⟩ := hC.form
  obtain ⟨ca', cc', rfl⟩ := hc'.form
  have HAd : Hid (∀ W, Calls Tryz.prog 45 #[.agg #[.int .i64 (hiOf x.t), .int .u64 (loOf x.t)], .agg #[.int .i64 (hiOf y.t), .int .u64 (loOf y.t)]] W fun e w' => e = .returned (.agg #[.int .i64 (hiOf (rnd (x.t + y.t))), .int .u64 (loOf (rnd (x.t + y.t)))]) ∧ Below W.heap.size W w') := fun W => by
    have := refadd_any _ _ _ _ (wf_of hx.t) (wf_of hy.t) W
    rw [val_hl, val_hl] at this
    exact this
  have HMg : Hid (∀ W, Below w.heap.size w W → Calls Tryz.prog 46 #[.slice ca x.cs.length cc, .slice ca' y.cs.length cc'] W fun e w' => Md W (x.cs ++ y.cs) e w') := fun W hb => rmerge_sn W _ _ x.cs y.cs (hC.below hb) (hc'.below hb) (fun c hc => by rcases List.mem_append.1 hc with h | h; exact hx.cs c h; exact hy.cs c h) sx sy
  have HN : Hid (Jt w x y (.slice la x.d.labels.length lc) (.slice ca x.cs.length cc) (.slice la' y.d.labels.length lc') (.slice ca' y.cs.length cc') (vc x (.slice la x.d.labels.length lc) (.slice ca x.cs.length cc)) _) := Jt.new w x y _ _ _ _
  have HX := hid_of hx
  have HY := hid_of hy
  clear hC hl hl' hc' hx hy
  obtain ⟨T, hT⟩ : ∃ T, rnd (x.t + y.t) = T := ⟨_, rfl⟩
  obtain ⟨N, hN⟩ : ∃ N, (x.n + y.n) % 18446744073709551616 = N := ⟨_, rfl⟩
  have hwN := wrap_n x.n y.n
  rw [hT] at HAd
  rw [hN] at hwN
  have HTN := hid_of (⟨hT, hN⟩ : _ ∧ _)
  clear hT hN
  have sF := store_f
  go_enter Tryz.func34, Tryz.ntmps34
  go_upto_region 2 with fail
  obtain ⟨w2, hw2⟩ : ∃ w2, ((((w.alloc (.cells (vc x (.slice la x.d.labels.length lc) (.slice ca x.cs.length cc)) 45)).alloc (.cells (vc y (.slice la' y.d.labels.length lc') (.slice ca' y.cs.length cc')) 45)).alloc (.cells zc 45)).alloc (.cells (vc x (.slice la x.d.labels.length lc) (.slice ca x.cs.length cc)) 45)) = w2 := ⟨_, rfl⟩
  rw [hw2] at HN
  simp only [vc, zc] at hw2
  rw [hw2]
  clear hw2
  go_cut [] from 11 to 16 (fun W => Hid (Jt w x y (.slice la x.d.labels.length lc) (.slice ca x.cs.length cc) (.slice la' y.d.labels.length lc') (.slice ca' y.cs.length cc') (vc { x with t := T } (.slice la x.d.labels.length lc) (.slice ca x.cs.length cc)) W))
  case first =>
    clear HMg HX HY HTN
    as_aux_lemma =>
      obtain ⟨c0, c1, c2, c3, c4, c5, c6, c7, c8, c9, c10⟩ := eleven_cells (hid_of HN.out.g1)
      obtain ⟨d0, d1, d2, d3, d4, d5, d6, d7, d8, d9, d10⟩ := eleven_cells (hid_of HN.out.g2)
      go_wp2_with (go_at_call 45; with_reducible refine (HAd.out _).mono ?_; rintro e w5 ⟨rfl, hb5⟩; have hJ5 := HN.out.below hb5; obtain ⟨e0, e1, e2, e3, e4, e5, e6, e7, e8, e9, e10⟩ := eleven_cells (hid_of hJ5.g4); have f4 := hid_fr (hid_of hJ5.g4) 4; have f5 := hid_fr (hid_of hJ5.g4) 5)
      go_meet
      exact (hJ5.set 4 (.int .i64 (hiOf T)) rfl).set 5 (.int .u64 (loOf T)) rfl
  case rest =>
  have HJ := hcut
  clear HN HAd hcut
  obtain ⟨w3, hw3⟩ : ∃ w3, w3 = wc := ⟨_, rfl⟩
  subst hw3
  go_upto_region 3 with fail
  by_cases hT0 : hiOf T < 0
  · have HR : Hid (joinV x y = (zV, 3)) := by
      unfold Hid joinV
      rw [if_pos (Or.inl (by rw [HTN.out.1]; exact hi_lt.1 hT0))]
    clear HMg HX HY HTN
    obtain ⟨q0, q1, q2, q3, q4, q5, q6, q7, q8, q9, q10⟩ := eleven_cells (hid_of HJ.out.g4)
    obtain ⟨z0, z1, z2, z3, z4, z5, z6, z7, z8, z9, z10⟩ := eleven_cells (hid_of HJ.out.g3)
    obtain ⟨f0, f1, f2, f3, f4, f5, f6, f7, f8, f9, f10⟩ := eleven_fr (hid_of HJ.out.g3)
    go_wp2_with fail
    rw [put11_eq]
    have HS := hid_of (set_eleven (v0 := .int .i64 0) (v1 := .string ⟨#[]⟩) (v2 := .string ⟨#[]⟩) (v3 := .slice none 0 0) (v4 := .int .i64 0) (v5 := .int .u64 0) (v6 := .slice none 0 0) (v7 := .int .u64 0) (v8 := .float .f64 0) (v9 := .float .f64 0) (v10 := .float .f64 0) HJ.out.g3)
    obtain ⟨y0, y1, y2, y3, y4, y5, y6, y7, y8, y9, y10⟩ := eleven_cells HS
    simp [bodyPost, results, go_sem, y0, y1, y2, y3, y4, y5, y6, y7, y8, y9, y10]
    exact jd_err HR.out (put11_bel HJ.out.bl (by omega) _ _ _ _ _ _ _ _ _ _ _)
  by_cases hN0 : (9223372036854775807 : Int) < (N : Int)
  · have HR : Hid (joinV x y = (zV, 3)) := by
      unfold Hid joinV
      rw [if_pos (Or.inr (by rw [HTN.out.2]; omega))]
    clear HMg HX HY HTN
    obtain ⟨c0, c1, c2, c3, c4, c5, c6, c7, c8, c9, c10⟩ := eleven_cells (hid_of HJ.out.g1)
    obtain ⟨d0, d1, d2, d3, d4, d5, d6, d7, d8, d9, d10⟩ := eleven_cells (hid_of HJ.out.g2)
    obtain ⟨q0, q1, q2, q3, q4, q5, q6, q7, q8, q9, q10⟩ := eleven_cells (hid_of HJ.out.g4)
    obtain ⟨z0, z1, z2, z3, z4, z5, z6, z7, z8, z9, z10⟩ := eleven_cells (hid_of HJ.out.g3)
    obtain ⟨f0, f1, f2, f3, f4, f5, f6, f7, f8, f9, f10⟩ := eleven_fr (hid_of HJ.out.g3)
    go_wp2_with fail
    rw [put11_eq]
    have HS := hid_of (set_eleven (v0 := .int .i64 0) (v1 := .string ⟨#[]⟩) (v2 := .string ⟨#[]⟩) (v3 := .slice none 0 0) (v4 := .int .i64 0) (v5 := .int .u64 0) (v6 := .slice none 0 0) (v7 := .int .u64 0) (v8 := .float .f64 0) (v9 := .float .f64 0) (v10 := .float .f64 0) HJ.out.g3)
    obtain ⟨y0, y1, y2, y3, y4, y5, y6, y7, y8, y9, y10⟩ := eleven_cells HS
    simp [bodyPost, results, go_sem, y0, y1, y2, y3, y4, y5, y6, y7, y8, y9, y10]
    exact jd_err HR.out (put11_bel HJ.out.bl (by omega) _ _ _ _ _ _ _ _ _ _ _)
  have HR : Hid (joinV x y = if Re.finF (jF x y).1 = false then (zV, 2) else (jV x y, 0)) := by
    unfold Hid joinV
    rw [if_neg (by rw [HTN.out.1, HTN.out.2]; rintro (k | k); exact hT0 (hi_lt.2 k); omega)]
  obtain ⟨c0, c1, c2, c3, c4, c5, c6, c7, c8, c9, c10⟩ := eleven_cells (hid_of HJ.out.g1)
  obtain ⟨d0, d1, d2, d3, d4, d5, d6, d7, d8, d9, d10⟩ := eleven_cells (hid_of HJ.out.g2)
  obtain ⟨q0, q1, q2, q3, q4, q5, q6, q7, q8, q9, q10⟩ := eleven_cells (hid_of HJ.out.g4)
  go_upto_region 5 with fail
  clear c0 c1 c2 c3 c4 c5 c6 c7 c8 c9 c10 d0 d1 d2 d3 d4 d5 d6 d7 d8 d9 d10 q0 q1 q2 q3 q4 q5 q6 q7 q8 q9 q10
  go_cut [] from 30 to 35 (fun W => ∃ ao n cap O, Hid (IsMerge O (x.cs ++ y.cs)) ∧ Hid (OwnC (w.heap.size + 4) (.slice ao n cap) O W) ∧ Hid (Jt w x y (.slice la x.d.labels.length lc) (.slice ca x.cs.length cc) (.slice la' y.d.labels.length lc') (.slice ca' y.cs.length cc') (vc { x with t := T } (.slice la x.d.labels.length lc) (.slice ao n cap)) W))
  case first =>
    clear HX HY HTN HR
    obtain ⟨c0, c1, c2, c3, c4, c5, c6, c7, c8, c9, c10⟩ := eleven_cells (hid_of HJ.out.g1)
    obtain ⟨d0, d1, d2, d3, d4, d5, d6, d7, d8, d9, d10⟩ := eleven_cells (hid_of HJ.out.g2)
    have hs5 : w.heap.size + 4 ≤ w3.heap.size := (Array.getElem?_eq_some_iff.1 HJ.out.g4).1
    go_wp2_with (go_at_call 46; (refine (HMg.out _ HJ.out.bl).mono ?_; rintro e w6 ⟨v6, O, rfl, hO, hG6⟩; obtain ⟨a6, b6, n6, rfl, -⟩ := own_slice hG6.own; have hJ6 := HJ.out.below hG6.below; obtain ⟨q0, q1, q2, q3, q4, q5, q6, q7, q8, q9, q10⟩ := eleven_cells (hid_of hJ6.g4); have f6 := hid_fr (hid_of hJ6.g4) 6))
    go_meet
    refine ⟨a6, _, n6, O, hO, ?_, hJ6.set 6 _ rfl⟩
    have h1 : OwnC (w.heap.size + 4) (.slice a6 O.length n6) O w6 := own_leG hG6.own hs5
    exact own_set h1 (own_ne h1 (by show w.heap.size + 1 + 1 + 1 < _; omega)) _
  case rest =>
  obtain ⟨a6, n6, k6, O, HO, HOw5, HJ5⟩ := hcut
  clear HJ HMg
  obtain ⟨w5, hw5⟩ : ∃ w5, w5 = wc := ⟨_, rfl⟩
  subst hw5
  go_upto_region 6 with fail
  go_cut [] from 36 to 41 (fun W => Hid (OwnC (w.heap.size + 4) (.slice a6 n6 k6) O W) ∧ Hid (Jt w x y (.slice la x.d.labels.length lc) (.slice ca x.cs.length cc) (.slice la' y.d.labels.length lc') (.slice ca' y.cs.length cc') (vc { x with t := T, n := N } (.slice la x.d.labels.length lc) (.slice a6 n6 k6)) W))
  case first =>
    clear HX HY HTN HR HO
    obtain ⟨c0, c1, c2, c3, c4, c5, c6, c7, c8, c9, c10⟩ := eleven_cells (hid_of HJ5.out.g1)
    obtain ⟨d0, d1, d2, d3, d4, d5, d6, d7, d8, d9, d10⟩ := eleven_cells (hid_of HJ5.out.g2)
    obtain ⟨e0, e1, e2, e3, e4, e5, e6, e7, e8, e9, e10⟩ := eleven_cells (hid_of HJ5.out.g4)
    have f7 := hid_fr (hid_of HJ5.out.g4) 7
    go_wp2_with fail
    go_meet
    exact ⟨own_set HOw5.out (own_ne HOw5.out (by show w.heap.size + 1 + 1 + 1 < _; omega)) _, HJ5.out.set 7 (.int .u64 (N : Int)) rfl⟩
  case rest =>
  obtain ⟨HOw, HJ6⟩ := hcut
  clear HJ5 HOw5 hwN
  obtain ⟨w7, hw7⟩ : ∃ w7, w7 = wc := ⟨_, rfl⟩
  subst hw7
  by_cases hx0 : x.n = 0
  · have HFe : Hid (jF x y = (y.sum, y.mn, y.mx)) := by
      unfold Hid jF
      rw [if_pos hx0]
    have hx0' : ((x.n : Int) == 0) = true := by rw [beq_iff_eq]; omega
    have hx0n : decide (0 < x.n) = false := decide_eq_false (by omega)
    clear hx0
    obtain ⟨c0, c1, c2, c3, c4, c5, c6', c7, c8, c9, c10⟩ := eleven_cells (hid_of HJ6.out.g1)
    go_upto_region 8 with fail
    clear c0 c1 c2 c3 c4 c5 c6' c7 c8 c9 c10
    have hJd := HJ6.out
    obtain ⟨d0, d1, d2, d3, d4, d5, d6, d7, d8, d9, d10⟩ := eleven_cells (hid_of hJd.g2)
    obtain ⟨q0, q1, q2, q3, q4, q5, q6, q7, q8, q9, q10⟩ := eleven_cells (hid_of hJd.g4)
    have f8 := hid_fr (hid_of hJd.g4) 8
    have f9 := hid_fr (hid_of hJd.g4) 9
    have f10 := hid_fr (hid_of hJd.g4) 10
    clear hJd d0 d1 d2 d3 d4 d5 d6 d7 q0 q1 q2 q3 q4 q5 q6 q7
    go_region
    clear d8 d9 d10 q8 q9 q10 f8 f9 f10
    have HJ8 := hid_of ((((HJ6.out.set 8 (.float .f64 y.sum) rfl).set 9 (.float .f64 y.mn) rfl).set 10 (.float .f64 y.mx) rfl).below (drew_bel _))
    have hne := own_ne HOw.out (show w.heap.size + 1 + 1 + 1 < w.heap.size + 4 by omega)
    have HOw8 := hid_of (own_belG (own_set (own_set (own_set HOw.out (a := ⟨w.heap.size + 1 + 1 + 1, 8, none⟩) hne (.float .f64 y.sum)) (a := ⟨w.heap.size + 1 + 1 + 1, 9, none⟩) hne (.float .f64 y.mn)) (a := ⟨w.heap.size + 1 + 1 + 1, 10, none⟩) hne (.float .f64 y.mx)) (drew_bel _))
    clear HJ6 HOw hne
    generalize (((w7.setCell ⟨w.heap.size + 1 + 1 + 1, 8, none⟩ (.float .f64 y.sum)).setCell ⟨w.heap.size + 1 + 1 + 1, 9, none⟩ (.float .f64 y.mn)).setCell ⟨w.heap.size + 1 + 1 + 1, 10, none⟩ (.float .f64 y.mx)).drew = w8 at HJ8 HOw8 ⊢
    obtain ⟨c0, c1, c2, c3, c4, c5, c6', c7, c8, c9, c10⟩ := eleven_cells (hid_of HJ8.out.g1)
    have HFi : Hid (∀ W, _) := Re.dfin_any y.sum (by first | exact HX.out.sum | exact HY.out.sum | exact Soft.fa_lt _ _)
    obtain ⟨q0, q1, q2, q3, q4, q5, q6, q7, q8, q9, q10⟩ := eleven_cells (hid_of HJ8.out.g4)
    obtain ⟨z0, z1, z2, z3, z4, z5, z6, z7, z8, z9, z10⟩ := eleven_cells (hid_of HJ8.out.g3)
    obtain ⟨f0, f1, f2, f3, f4, f5, f6, f7, f8, f9, f10⟩ := eleven_fr (hid_of HJ8.out.g3)
    have HR1 : Hid (joinV x y = if Re.finF y.sum = false then (zV, 2) else (jV x y, 0)) := by have := HR.out; rw [HFe.out] at this; exact this
    have hV : Hid (jV x y = ⟨x.d, T, O, N, y.sum, y.mn, y.mx⟩) := by
      unfold Hid jV
      rw [HFe.out, HTN.out.1, HTN.out.2, mrgC_eq HO.out]
    clear HX HY HR HFe HO HTN
    cases hfin : Re.finF y.sum
    · rw [hfin, if_pos rfl] at HR1
      rw [hfin] at HFi
      clear hfin
      go_wp2_with (go_at_call 58; with_reducible refine (HFi.out _).mono ?_; rintro e w9 ⟨rfl, rfl⟩)
      rw [put11_eq]
      have HS := hid_of (set_eleven (v0 := .int .i64 0) (v1 := .string ⟨#[]⟩) (v2 := .string ⟨#[]⟩) (v3 := .slice none 0 0) (v4 := .int .i64 0) (v5 := .int .u64 0) (v6 := .slice none 0 0) (v7 := .int .u64 0) (v8 := .float .f64 0) (v9 := .float .f64 0) (v10 := .float .f64 0) HJ8.out.g3)
      obtain ⟨y0, y1, y2, y3, y4, y5, y6, y7, y8, y9, y10⟩ := eleven_cells HS
      simp [bodyPost, results, go_sem, y0, y1, y2, y3, y4, y5, y6, y7, y8, y9, y10]
      exact jd_err HR1.out (put11_bel HJ8.out.bl (by omega) _ _ _ _ _ _ _ _ _ _ _)
    · rw [hfin, if_neg (by decide), hV.out] at HR1
      rw [hfin] at HFi
      clear hfin
      go_wp2_with (go_at_call 58; with_reducible refine (HFi.out _).mono ?_; rintro e w9 ⟨rfl, rfl⟩)
      rw [put11_eq]
      have HS := hid_of (set_eleven (v0 := .int .i64 x.d.kind) (v1 := .string ⟨x.d.name.toArray⟩) (v2 := .string ⟨x.d.help.toArray⟩) (v3 := .slice la x.d.labels.length lc) (v4 := .int .i64 (hiOf T)) (v5 := .int .u64 (loOf T)) (v6 := .slice a6 n6 k6) (v7 := .int .u64 (N : Int)) (v8 := .float .f64 y.sum) (v9 := .float .f64 y.mn) (v10 := .float .f64 y.mx) HJ8.out.g3)
      obtain ⟨y0, y1, y2, y3, y4, y5, y6, y7, y8, y9, y10⟩ := eleven_cells HS
      simp [bodyPost, results, go_sem, y0, y1, y2, y3, y4, y5, y6, y7, y8, y9, y10]
      exact jd_ok HR1.out rfl (own_leG (own_put11 HOw8.out (own_ne HOw8.out (by omega)) _ _ _ _ _ _ _ _ _ _ _) (by omega)) (put11_bel HJ8.out.bl (by omega) _ _ _ _ _ _ _ _ _ _ _)
  have hx0' : ((x.n : Int) == 0) = false := by rw [beq_eq_false_iff_ne]; omega
  have hx0n : decide (0 < x.n) = true := decide_eq_true (by omega)
  by_cases hy0 : 0 < y.n
  · have hy0n : decide (0 < y.n) = true := decide_eq_true hy0
    have hy0' : (0 : Int) < (y.n : Int) := by omega
    have HAf : Hid (∀ W, Calls Tryz.prog 66 #[.int .u64 (x.sum : Int), .int .u64 (y.sum : Int)] W fun e w' => e = .returned (.int .u64 (Soft.fa x.sum y.sum : Nat)) ∧ w' = W) := fun W => Pr.refadd_any x.sum y.sum HX.out.sum HY.out.sum W
    have HO1 : Hid (∀ W, _) := Re.refcmp_any y.mn x.mn HY.out.mn HX.out.mn
    have HO2 : Hid (∀ W, _) := Re.refcmp_any y.mx x.mx HY.out.mx HX.out.mx
    have HFe : Hid (jF x y = (Soft.fa x.sum y.sum, Re.outF x.mn y.mn (-1), Re.outF x.mx y.mx 1)) := by
      unfold Hid jF
      rw [if_neg hx0, if_pos hy0]
    clear hx0 hy0
    obtain ⟨c0, c1, c2, c3, c4, c5, c6', c7, c8, c9, c10⟩ := eleven_cells (hid_of HJ6.out.g1)
    obtain ⟨d0, d1, d2, d3, d4, d5, d6, d7, d8, d9, d10⟩ := eleven_cells (hid_of HJ6.out.g2)
    go_upto_region 10 with fail
    clear c0 c1 c2 c3 c4 c5 c6' c7 c8 c9 c10 d0 d1 d2 d3 d4 d5 d6 d7 d8 d9 d10
    go_cut [] from 62 to 70 (fun W => Hid (OwnC (w.heap.size + 4) (.slice a6 n6 k6) O W) ∧ Hid (Jt w x y (.slice la x.d.labels.length lc) (.slice ca x.cs.length cc) (.slice la' y.d.labels.length lc') (.slice ca' y.cs.length cc') (vc { x with t := T, n := N, sum := Soft.fa x.sum y.sum } (.slice la x.d.labels.length lc) (.slice a6 n6 k6)) W))
    case first =>
      clear HX HY HTN HR HO HO1 HO2 HFe
      have HJd := hid_of (HJ6.out.below (drew_bel w7))
      have HOd := hid_of (own_belG HOw.out (drew_bel w7))
      obtain ⟨c0, c1, c2, c3, c4, c5, c6', c7, c8, c9, c10⟩ := eleven_cells (hid_of HJd.out.g1)
      obtain ⟨d0, d1, d2, d3, d4, d5, d6, d7, d8, d9, d10⟩ := eleven_cells (hid_of HJd.out.g2)
      obtain ⟨q0, q1, q2, q3, q4, q5, q6, q7, q8, q9, q10⟩ := eleven_cells (hid_of HJd.out.g4)
      have f8 := hid_fr (hid_of HJd.out.g4) 8
      clear c0 c1 c2 c3 c4 c5 c6' c7 c9 c10 d0 d1 d2 d3 d4 d5 d6 d7 d9 d10 q0 q1 q2 q3 q4 q5 q6 q7 q9 q10
      go_region_with (first
        | simp only [Re.mf64bits]
        | simp only [Pr.mf64from, Int.toNat_natCast]
        | (go_at_call 66; with_reducible refine (HAf.out _).mono ?_; rintro e w8 ⟨rfl, rfl⟩))
      all_goals
        go_wp2_with fail
        go_meet
        exact ⟨own_set HOd.out (own_ne HOd.out (by show w.heap.size + 1 + 1 + 1 < _; omega)) _, HJd.out.set 8 (.float .f64 (Soft.fa x.sum y.sum)) rfl⟩
    case rest =>
    obtain ⟨HOw7, HJ7⟩ := hcut
    clear HJ6 HOw HAf
    have hs1 := Re.sg_cases (Re.rk y.mn) (Re.rk x.mn)
    have hs2 := Re.sg_cases (Re.rk y.mx) (Re.rk x.mx)
    by_cases hsl : Re.sg (Re.rk y.mn) (Re.rk x.mn) < 0
    · by_cases hsm : 0 < Re.sg (Re.rk y.mx) (Re.rk x.mx)
      · have hsl' := decide_eq_true hsl
        have hsm' := decide_eq_true hsm
        have HFe2 : Hid (jF x y = (Soft.fa x.sum y.sum, y.mn, y.mx)) := by
          unfold Hid
          rw [HFe.out]
          unfold Re.outF
          rw [if_pos (by omega), if_pos (by omega)]
        have HFe := HFe2
        clear HFe2 hsl hsm
        obtain ⟨c0, c1, c2, c3, c4, c5, c6', c7, c8, c9, c10⟩ := eleven_cells (hid_of HJ7.out.g1)
        obtain ⟨d0, d1, d2, d3, d4, d5, d6, d7, d8, d9, d10⟩ := eleven_cells (hid_of HJ7.out.g2)
        obtain ⟨q0, q1, q2, q3, q4, q5, q6, q7, q8, q9, q10⟩ := eleven_cells (hid_of HJ7.out.g4)
        have f9 := hid_fr (hid_of HJ7.out.g4) 9
        have f10 := hid_fr (hid_of HJ7.out.g4) 10
        go_upto_region 17 with (go_at_call 59; (first | (with_reducible refine (HO1.out _).mono ?_) | (with_reducible refine (HO2.out _).mono ?_)); rintro e w9 ⟨rfl, rfl⟩)
        clear c0 c1 c2 c3 c4 c5 c6' c7 c8 c9 c10 d0 d1 d2 d3 d4 d5 d6 d7 d8 d9 d10 q0 q1 q2 q3 q4 q5 q6 q7 q8 q9 q10 f9 f10 HO1 HO2
        have hne := own_ne HOw7.out (show w.heap.size + 1 + 1 + 1 < w.heap.size + 4 by omega)
        have HJ8 := hid_of ((HJ7.out.set 9 (.float .f64 y.mn) rfl).set 10 (.float .f64 y.mx) rfl)
        have HOw8 := hid_of (own_set (own_set HOw7.out (a := ⟨w.heap.size + 1 + 1 + 1, 9, none⟩) hne (.float .f64 y.mn)) (a := ⟨w.heap.size + 1 + 1 + 1, 10, none⟩) hne (.float .f64 y.mx))
        clear HJ7 HOw7 hne
        have HFi : Hid (∀ W, _) := Re.dfin_any (Soft.fa x.sum y.sum) (by first | exact HX.out.sum | exact HY.out.sum | exact Soft.fa_lt _ _)
        obtain ⟨q0, q1, q2, q3, q4, q5, q6, q7, q8, q9, q10⟩ := eleven_cells (hid_of HJ8.out.g4)
        obtain ⟨z0, z1, z2, z3, z4, z5, z6, z7, z8, z9, z10⟩ := eleven_cells (hid_of HJ8.out.g3)
        obtain ⟨f0, f1, f2, f3, f4, f5, f6, f7, f8, f9, f10⟩ := eleven_fr (hid_of HJ8.out.g3)
        have HR1 : Hid (joinV x y = if Re.finF (Soft.fa x.sum y.sum) = false then (zV, 2) else (jV x y, 0)) := by have := HR.out; rw [HFe.out] at this; exact this
        have hV : Hid (jV x y = ⟨x.d, T, O, N, (Soft.fa x.sum y.sum), y.mn, y.mx⟩) := by
          unfold Hid jV
          rw [HFe.out, HTN.out.1, HTN.out.2, mrgC_eq HO.out]
        clear HX HY HR HFe HO HTN
        cases hfin : Re.finF (Soft.fa x.sum y.sum)
        · rw [hfin, if_pos rfl] at HR1
          rw [hfin] at HFi
          clear hfin
          go_wp2_with (go_at_call 58; with_reducible refine (HFi.out _).mono ?_; rintro e w9 ⟨rfl, rfl⟩)
          rw [put11_eq]
          have HS := hid_of (set_eleven (v0 := .int .i64 0) (v1 := .string ⟨#[]⟩) (v2 := .string ⟨#[]⟩) (v3 := .slice none 0 0) (v4 := .int .i64 0) (v5 := .int .u64 0) (v6 := .slice none 0 0) (v7 := .int .u64 0) (v8 := .float .f64 0) (v9 := .float .f64 0) (v10 := .float .f64 0) HJ8.out.g3)
          obtain ⟨y0, y1, y2, y3, y4, y5, y6, y7, y8, y9, y10⟩ := eleven_cells HS
          simp [bodyPost, results, go_sem, y0, y1, y2, y3, y4, y5, y6, y7, y8, y9, y10]
          exact jd_err HR1.out (put11_bel HJ8.out.bl (by omega) _ _ _ _ _ _ _ _ _ _ _)
        · rw [hfin, if_neg (by decide), hV.out] at HR1
          rw [hfin] at HFi
          clear hfin
          go_wp2_with (go_at_call 58; with_reducible refine (HFi.out _).mono ?_; rintro e w9 ⟨rfl, rfl⟩)
          rw [put11_eq]
          have HS := hid_of (set_eleven (v0 := .int .i64 x.d.kind) (v1 := .string ⟨x.d.name.toArray⟩) (v2 := .string ⟨x.d.help.toArray⟩) (v3 := .slice la x.d.labels.length lc) (v4 := .int .i64 (hiOf T)) (v5 := .int .u64 (loOf T)) (v6 := .slice a6 n6 k6) (v7 := .int .u64 (N : Int)) (v8 := .float .f64 (Soft.fa x.sum y.sum)) (v9 := .float .f64 y.mn) (v10 := .float .f64 y.mx) HJ8.out.g3)
          obtain ⟨y0, y1, y2, y3, y4, y5, y6, y7, y8, y9, y10⟩ := eleven_cells HS
          simp [bodyPost, results, go_sem, y0, y1, y2, y3, y4, y5, y6, y7, y8, y9, y10]
          exact jd_ok HR1.out rfl (own_leG (own_put11 HOw8.out (own_ne HOw8.out (by omega)) _ _ _ _ _ _ _ _ _ _ _) (by omega)) (put11_bel HJ8.out.bl (by omega) _ _ _ _ _ _ _ _ _ _ _)
      · have hsl' := decide_eq_true hsl
        have hsm' := decide_eq_false hsm
        have HFe2 : Hid (jF x y = (Soft.fa x.sum y.sum, y.mn, x.mx)) := by
          unfold Hid
          rw [HFe.out]
          unfold Re.outF
          rw [if_pos (by omega), if_neg (by omega)]
        have HFe := HFe2
        clear HFe2 hsl hsm
        obtain ⟨c0, c1, c2, c3, c4, c5, c6', c7, c8, c9, c10⟩ := eleven_cells (hid_of HJ7.out.g1)
        obtain ⟨d0, d1, d2, d3, d4, d5, d6, d7, d8, d9, d10⟩ := eleven_cells (hid_of HJ7.out.g2)
        obtain ⟨q0, q1, q2, q3, q4, q5, q6, q7, q8, q9, q10⟩ := eleven_cells (hid_of HJ7.out.g4)
        have f9 := hid_fr (hid_of HJ7.out.g4) 9
        have f10 := hid_fr (hid_of HJ7.out.g4) 10
        go_upto_region 17 with (go_at_call 59; (first | (with_reducible refine (HO1.out _).mono ?_) | (with_reducible refine (HO2.out _).mono ?_)); rintro e w9 ⟨rfl, rfl⟩)
        clear c0 c1 c2 c3 c4 c5 c6' c7 c8 c9 c10 d0 d1 d2 d3 d4 d5 d6 d7 d8 d9 d10 q0 q1 q2 q3 q4 q5 q6 q7 q8 q9 q10 f9 f10 HO1 HO2
        have hne := own_ne HOw7.out (show w.heap.size + 1 + 1 + 1 < w.heap.size + 4 by omega)
        have HJ8 := hid_of (HJ7.out.set 9 (.float .f64 y.mn) rfl)
        have HOw8 := hid_of (own_set HOw7.out (a := ⟨w.heap.size + 1 + 1 + 1, 9, none⟩) hne (.float .f64 y.mn))
        clear HJ7 HOw7 hne
        have HFi : Hid (∀ W, _) := Re.dfin_any (Soft.fa x.sum y.sum) (by first | exact HX.out.sum | exact HY.out.sum | exact Soft.fa_lt _ _)
        obtain ⟨q0, q1, q2, q3, q4, q5, q6, q7, q8, q9, q10⟩ := eleven_cells (hid_of HJ8.out.g4)
        obtain ⟨z0, z1, z2, z3, z4, z5, z6, z7, z8, z9, z10⟩ := eleven_cells (hid_of HJ8.out.g3)
        obtain ⟨f0, f1, f2, f3, f4, f5, f6, f7, f8, f9, f10⟩ := eleven_fr (hid_of HJ8.out.g3)
        have HR1 : Hid (joinV x y = if Re.finF (Soft.fa x.sum y.sum) = false then (zV, 2) else (jV x y, 0)) := by have := HR.out; rw [HFe.out] at this; exact this
        have hV : Hid (jV x y = ⟨x.d, T, O, N, (Soft.fa x.sum y.sum), y.mn, x.mx⟩) := by
          unfold Hid jV
          rw [HFe.out, HTN.out.1, HTN.out.2, mrgC_eq HO.out]
        clear HX HY HR HFe HO HTN
        cases hfin : Re.finF (Soft.fa x.sum y.sum)
        · rw [hfin, if_pos rfl] at HR1
          rw [hfin] at HFi
          clear hfin
          go_wp2_with (go_at_call 58; with_reducible refine (HFi.out _).mono ?_; rintro e w9 ⟨rfl, rfl⟩)
          rw [put11_eq]
          have HS := hid_of (set_eleven (v0 := .int .i64 0) (v1 := .string ⟨#[]⟩) (v2 := .string ⟨#[]⟩) (v3 := .slice none 0 0) (v4 := .int .i64 0) (v5 := .int .u64 0) (v6 := .slice none 0 0) (v7 := .int .u64 0) (v8 := .float .f64 0) (v9 := .float .f64 0) (v10 := .float .f64 0) HJ8.out.g3)
          obtain ⟨y0, y1, y2, y3, y4, y5, y6, y7, y8, y9, y10⟩ := eleven_cells HS
          simp [bodyPost, results, go_sem, y0, y1, y2, y3, y4, y5, y6, y7, y8, y9, y10]
          exact jd_err HR1.out (put11_bel HJ8.out.bl (by omega) _ _ _ _ _ _ _ _ _ _ _)
        · rw [hfin, if_neg (by decide), hV.out] at HR1
          rw [hfin] at HFi
          clear hfin
          go_wp2_with (go_at_call 58; with_reducible refine (HFi.out _).mono ?_; rintro e w9 ⟨rfl, rfl⟩)
          rw [put11_eq]
          have HS := hid_of (set_eleven (v0 := .int .i64 x.d.kind) (v1 := .string ⟨x.d.name.toArray⟩) (v2 := .string ⟨x.d.help.toArray⟩) (v3 := .slice la x.d.labels.length lc) (v4 := .int .i64 (hiOf T)) (v5 := .int .u64 (loOf T)) (v6 := .slice a6 n6 k6) (v7 := .int .u64 (N : Int)) (v8 := .float .f64 (Soft.fa x.sum y.sum)) (v9 := .float .f64 y.mn) (v10 := .float .f64 x.mx) HJ8.out.g3)
          obtain ⟨y0, y1, y2, y3, y4, y5, y6, y7, y8, y9, y10⟩ := eleven_cells HS
          simp [bodyPost, results, go_sem, y0, y1, y2, y3, y4, y5, y6, y7, y8, y9, y10]
          exact jd_ok HR1.out rfl (own_leG (own_put11 HOw8.out (own_ne HOw8.out (by omega)) _ _ _ _ _ _ _ _ _ _ _) (by omega)) (put11_bel HJ8.out.bl (by omega) _ _ _ _ _ _ _ _ _ _ _)
    · by_cases hsm : 0 < Re.sg (Re.rk y.mx) (Re.rk x.mx)
      · have hsl' := decide_eq_false hsl
        have hsm' := decide_eq_true hsm
        have HFe2 : Hid (jF x y = (Soft.fa x.sum y.sum, x.mn, y.mx)) := by
          unfold Hid
          rw [HFe.out]
          unfold Re.outF
          rw [if_neg (by omega), if_pos (by omega)]
        have HFe := HFe2
        clear HFe2 hsl hsm
        obtain ⟨c0, c1, c2, c3, c4, c5, c6', c7, c8, c9, c10⟩ := eleven_cells (hid_of HJ7.out.g1)
        obtain ⟨d0, d1, d2, d3, d4, d5, d6, d7, d8, d9, d10⟩ := eleven_cells (hid_of HJ7.out.g2)
        obtain ⟨q0, q1, q2, q3, q4, q5, q6, q7, q8, q9, q10⟩ := eleven_cells (hid_of HJ7.out.g4)
        have f9 := hid_fr (hid_of HJ7.out.g4) 9
        have f10 := hid_fr (hid_of HJ7.out.g4) 10
        go_upto_region 17 with (go_at_call 59; (first | (with_reducible refine (HO1.out _).mono ?_) | (with_reducible refine (HO2.out _).mono ?_)); rintro e w9 ⟨rfl, rfl⟩)
        clear c0 c1 c2 c3 c4 c5 c6' c7 c8 c9 c10 d0 d1 d2 d3 d4 d5 d6 d7 d8 d9 d10 q0 q1 q2 q3 q4 q5 q6 q7 q8 q9 q10 f9 f10 HO1 HO2
        have hne := own_ne HOw7.out (show w.heap.size + 1 + 1 + 1 < w.heap.size + 4 by omega)
        have HJ8 := hid_of (HJ7.out.set 10 (.float .f64 y.mx) rfl)
        have HOw8 := hid_of (own_set HOw7.out (a := ⟨w.heap.size + 1 + 1 + 1, 10, none⟩) hne (.float .f64 y.mx))
        clear HJ7 HOw7 hne
        have HFi : Hid (∀ W, _) := Re.dfin_any (Soft.fa x.sum y.sum) (by first | exact HX.out.sum | exact HY.out.sum | exact Soft.fa_lt _ _)
        obtain ⟨q0, q1, q2, q3, q4, q5, q6, q7, q8, q9, q10⟩ := eleven_cells (hid_of HJ8.out.g4)
        obtain ⟨z0, z1, z2, z3, z4, z5, z6, z7, z8, z9, z10⟩ := eleven_cells (hid_of HJ8.out.g3)
        obtain ⟨f0, f1, f2, f3, f4, f5, f6, f7, f8, f9, f10⟩ := eleven_fr (hid_of HJ8.out.g3)
        have HR1 : Hid (joinV x y = if Re.finF (Soft.fa x.sum y.sum) = false then (zV, 2) else (jV x y, 0)) := by have := HR.out; rw [HFe.out] at this; exact this
        have hV : Hid (jV x y = ⟨x.d, T, O, N, (Soft.fa x.sum y.sum), x.mn, y.mx⟩) := by
          unfold Hid jV
          rw [HFe.out, HTN.out.1, HTN.out.2, mrgC_eq HO.out]
        clear HX HY HR HFe HO HTN
        cases hfin : Re.finF (Soft.fa x.sum y.sum)
        · rw [hfin, if_pos rfl] at HR1
          rw [hfin] at HFi
          clear hfin
          go_wp2_with (go_at_call 58; with_reducible refine (HFi.out _).mono ?_; rintro e w9 ⟨rfl, rfl⟩)
          rw [put11_eq]
          have HS := hid_of (set_eleven (v0 := .int .i64 0) (v1 := .string ⟨#[]⟩) (v2 := .string ⟨#[]⟩) (v3 := .slice none 0 0) (v4 := .int .i64 0) (v5 := .int .u64 0) (v6 := .slice none 0 0) (v7 := .int .u64 0) (v8 := .float .f64 0) (v9 := .float .f64 0) (v10 := .float .f64 0) HJ8.out.g3)
          obtain ⟨y0, y1, y2, y3, y4, y5, y6, y7, y8, y9, y10⟩ := eleven_cells HS
          simp [bodyPost, results, go_sem, y0, y1, y2, y3, y4, y5, y6, y7, y8, y9, y10]
          exact jd_err HR1.out (put11_bel HJ8.out.bl (by omega) _ _ _ _ _ _ _ _ _ _ _)
        · rw [hfin, if_neg (by decide), hV.out] at HR1
          rw [hfin] at HFi
          clear hfin
          go_wp2_with (go_at_call 58; with_reducible refine (HFi.out _).mono ?_; rintro e w9 ⟨rfl, rfl⟩)
          rw [put11_eq]
          have HS := hid_of (set_eleven (v0 := .int .i64 x.d.kind) (v1 := .string ⟨x.d.name.toArray⟩) (v2 := .string ⟨x.d.help.toArray⟩) (v3 := .slice la x.d.labels.length lc) (v4 := .int .i64 (hiOf T)) (v5 := .int .u64 (loOf T)) (v6 := .slice a6 n6 k6) (v7 := .int .u64 (N : Int)) (v8 := .float .f64 (Soft.fa x.sum y.sum)) (v9 := .float .f64 x.mn) (v10 := .float .f64 y.mx) HJ8.out.g3)
          obtain ⟨y0, y1, y2, y3, y4, y5, y6, y7, y8, y9, y10⟩ := eleven_cells HS
          simp [bodyPost, results, go_sem, y0, y1, y2, y3, y4, y5, y6, y7, y8, y9, y10]
          exact jd_ok HR1.out rfl (own_leG (own_put11 HOw8.out (own_ne HOw8.out (by omega)) _ _ _ _ _ _ _ _ _ _ _) (by omega)) (put11_bel HJ8.out.bl (by omega) _ _ _ _ _ _ _ _ _ _ _)
      · have hsl' := decide_eq_false hsl
        have hsm' := decide_eq_false hsm
        have HFe2 : Hid (jF x y = (Soft.fa x.sum y.sum, x.mn, x.mx)) := by
          unfold Hid
          rw [HFe.out]
          unfold Re.outF
          rw [if_neg (by omega), if_neg (by omega)]
        have HFe := HFe2
        clear HFe2 hsl hsm
        obtain ⟨c0, c1, c2, c3, c4, c5, c6', c7, c8, c9, c10⟩ := eleven_cells (hid_of HJ7.out.g1)
        obtain ⟨d0, d1, d2, d3, d4, d5, d6, d7, d8, d9, d10⟩ := eleven_cells (hid_of HJ7.out.g2)
        obtain ⟨q0, q1, q2, q3, q4, q5, q6, q7, q8, q9, q10⟩ := eleven_cells (hid_of HJ7.out.g4)
        have f9 := hid_fr (hid_of HJ7.out.g4) 9
        have f10 := hid_fr (hid_of HJ7.out.g4) 10
        go_upto_region 17 with (go_at_call 59; (first | (with_reducible refine (HO1.out _).mono ?_) | (with_reducible refine (HO2.out _).mono ?_)); rintro e w9 ⟨rfl, rfl⟩)
        clear c0 c1 c2 c3 c4 c5 c6' c7 c8 c9 c10 d0 d1 d2 d3 d4 d5 d6 d7 d8 d9 d10 q0 q1 q2 q3 q4 q5 q6 q7 q8 q9 q10 f9 f10 HO1 HO2
        have hne := own_ne HOw7.out (show w.heap.size + 1 + 1 + 1 < w.heap.size + 4 by omega)
        have HJ8 := HJ7
        have HOw8 := HOw7
        clear HJ7 HOw7 hne
        have HFi : Hid (∀ W, _) := Re.dfin_any (Soft.fa x.sum y.sum) (by first | exact HX.out.sum | exact HY.out.sum | exact Soft.fa_lt _ _)
        obtain ⟨q0, q1, q2, q3, q4, q5, q6, q7, q8, q9, q10⟩ := eleven_cells (hid_of HJ8.out.g4)
        obtain ⟨z0, z1, z2, z3, z4, z5, z6, z7, z8, z9, z10⟩ := eleven_cells (hid_of HJ8.out.g3)
        obtain ⟨f0, f1, f2, f3, f4, f5, f6, f7, f8, f9, f10⟩ := eleven_fr (hid_of HJ8.out.g3)
        have HR1 : Hid (joinV x y = if Re.finF (Soft.fa x.sum y.sum) = false then (zV, 2) else (jV x y, 0)) := by have := HR.out; rw [HFe.out] at this; exact this
        have hV : Hid (jV x y = ⟨x.d, T, O, N, (Soft.fa x.sum y.sum), x.mn, x.mx⟩) := by
          unfold Hid jV
          rw [HFe.out, HTN.out.1, HTN.out.2, mrgC_eq HO.out]
        clear HX HY HR HFe HO HTN
        cases hfin : Re.finF (Soft.fa x.sum y.sum)
        · rw [hfin, if_pos rfl] at HR1
          rw [hfin] at HFi
          clear hfin
          go_wp2_with (go_at_call 58; with_reducible refine (HFi.out _).mono ?_; rintro e w9 ⟨rfl, rfl⟩)
          rw [put11_eq]
          have HS := hid_of (set_eleven (v0 := .int .i64 0) (v1 := .string ⟨#[]⟩) (v2 := .string ⟨#[]⟩) (v3 := .slice none 0 0) (v4 := .int .i64 0) (v5 := .int .u64 0) (v6 := .slice none 0 0) (v7 := .int .u64 0) (v8 := .float .f64 0) (v9 := .float .f64 0) (v10 := .float .f64 0) HJ8.out.g3)
          obtain ⟨y0, y1, y2, y3, y4, y5, y6, y7, y8, y9, y10⟩ := eleven_cells HS
          simp [bodyPost, results, go_sem, y0, y1, y2, y3, y4, y5, y6, y7, y8, y9, y10]
          exact jd_err HR1.out (put11_bel HJ8.out.bl (by omega) _ _ _ _ _ _ _ _ _ _ _)
        · rw [hfin, if_neg (by decide), hV.out] at HR1
          rw [hfin] at HFi
          clear hfin
          go_wp2_with (go_at_call 58; with_reducible refine (HFi.out _).mono ?_; rintro e w9 ⟨rfl, rfl⟩)
          rw [put11_eq]
          have HS := hid_of (set_eleven (v0 := .int .i64 x.d.kind) (v1 := .string ⟨x.d.name.toArray⟩) (v2 := .string ⟨x.d.help.toArray⟩) (v3 := .slice la x.d.labels.length lc) (v4 := .int .i64 (hiOf T)) (v5 := .int .u64 (loOf T)) (v6 := .slice a6 n6 k6) (v7 := .int .u64 (N : Int)) (v8 := .float .f64 (Soft.fa x.sum y.sum)) (v9 := .float .f64 x.mn) (v10 := .float .f64 x.mx) HJ8.out.g3)
          obtain ⟨y0, y1, y2, y3, y4, y5, y6, y7, y8, y9, y10⟩ := eleven_cells HS
          simp [bodyPost, results, go_sem, y0, y1, y2, y3, y4, y5, y6, y7, y8, y9, y10]
          exact jd_ok HR1.out rfl (own_leG (own_put11 HOw8.out (own_ne HOw8.out (by omega)) _ _ _ _ _ _ _ _ _ _ _) (by omega)) (put11_bel HJ8.out.bl (by omega) _ _ _ _ _ _ _ _ _ _ _)
  · have HFe : Hid (jF x y = (x.sum, x.mn, x.mx)) := by
      unfold Hid jF
      rw [if_neg hx0, if_neg hy0]
    have hy0n : decide (0 < y.n) = false := decide_eq_false hy0
    have hy0' : ¬ (0 : Int) < (y.n : Int) := by omega
    clear hx0 hy0
    obtain ⟨c0, c1, c2, c3, c4, c5, c6', c7, c8, c9, c10⟩ := eleven_cells (hid_of HJ6.out.g1)
    obtain ⟨d0, d1, d2, d3, d4, d5, d6, d7, d8, d9, d10⟩ := eleven_cells (hid_of HJ6.out.g2)
    go_upto_region 17 with fail
    have HJ8 := HJ6
    have HOw8 := HOw
    clear HJ6 HOw c0 c1 c2 c3 c4 c5 c6' c7 c8 c9 c10 d0 d1 d2 d3 d4 d5 d6 d7 d8 d9 d10
    have HFi : Hid (∀ W, _) := Re.dfin_any x.sum (by first | exact HX.out.sum | exact HY.out.sum | exact Soft.fa_lt _ _)
    obtain ⟨q0, q1, q2, q3, q4, q5, q6, q7, q8, q9, q10⟩ := eleven_cells (hid_of HJ8.out.g4)
    obtain ⟨z0, z1, z2, z3, z4, z5, z6, z7, z8, z9, z10⟩ := eleven_cells (hid_of HJ8.out.g3)
    obtain ⟨f0, f1, f2, f3, f4, f5, f6, f7, f8, f9, f10⟩ := eleven_fr (hid_of HJ8.out.g3)
    have HR1 : Hid (joinV x y = if Re.finF x.sum = false then (zV, 2) else (jV x y, 0)) := by have := HR.out; rw [HFe.out] at this; exact this
    have hV : Hid (jV x y = ⟨x.d, T, O, N, x.sum, x.mn, x.mx⟩) := by
      unfold Hid jV
      rw [HFe.out, HTN.out.1, HTN.out.2, mrgC_eq HO.out]
    clear HX HY HR HFe HO HTN
    cases hfin : Re.finF x.sum
    · rw [hfin, if_pos rfl] at HR1
      rw [hfin] at HFi
      clear hfin
      go_wp2_with (go_at_call 58; with_reducible refine (HFi.out _).mono ?_; rintro e w9 ⟨rfl, rfl⟩)
      rw [put11_eq]
      have HS := hid_of (set_eleven (v0 := .int .i64 0) (v1 := .string ⟨#[]⟩) (v2 := .string ⟨#[]⟩) (v3 := .slice none 0 0) (v4 := .int .i64 0) (v5 := .int .u64 0) (v6 := .slice none 0 0) (v7 := .int .u64 0) (v8 := .float .f64 0) (v9 := .float .f64 0) (v10 := .float .f64 0) HJ8.out.g3)
      obtain ⟨y0, y1, y2, y3, y4, y5, y6, y7, y8, y9, y10⟩ := eleven_cells HS
      simp [bodyPost, results, go_sem, y0, y1, y2, y3, y4, y5, y6, y7, y8, y9, y10]
      exact jd_err HR1.out (put11_bel HJ8.out.bl (by omega) _ _ _ _ _ _ _ _ _ _ _)
    · rw [hfin, if_neg (by decide), hV.out] at HR1
      rw [hfin] at HFi
      clear hfin
      go_wp2_with (go_at_call 58; with_reducible refine (HFi.out _).mono ?_; rintro e w9 ⟨rfl, rfl⟩)
      rw [put11_eq]
      have HS := hid_of (set_eleven (v0 := .int .i64 x.d.kind) (v1 := .string ⟨x.d.name.toArray⟩) (v2 := .string ⟨x.d.help.toArray⟩) (v3 := .slice la x.d.labels.length lc) (v4 := .int .i64 (hiOf T)) (v5 := .int .u64 (loOf T)) (v6 := .slice a6 n6 k6) (v7 := .int .u64 (N : Int)) (v8 := .float .f64 x.sum) (v9 := .float .f64 x.mn) (v10 := .float .f64 x.mx) HJ8.out.g3)
      obtain ⟨y0, y1, y2, y3, y4, y5, y6, y7, y8, y9, y10⟩ := eleven_cells HS
      simp [bodyPost, results, go_sem, y0, y1, y2, y3, y4, y5, y6, y7, y8, y9, y10]
      exact jd_ok HR1.out rfl (own_leG (own_put11 HOw8.out (own_ne HOw8.out (by omega)) _ _ _ _ _ _ _ _ _ _ _) (by omega)) (put11_bel HJ8.out.bl (by omega) _ _ _ _ _ _ _ _ _ _ _)
end Go.Proofs.YtckdkcnnfjbdmaaGreat
