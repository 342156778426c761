/- WHICH VALUES MAY BE: holds, places, the code's. Own work of the verifier. -/
import Derived.Test.YtgkdggcpplmnaaaGreatZAO
namespace Go.Proofs.YtgkdggcpplmnaaaGreat
open Go.RowKit Me

/-- Does a value hold what it may? -/
noncomputable def holdB (p : Int) (x : Vl) : Bool :=
  if x.d.kind = 1 then decide (0 ≤ x.t) && decide (x.cs.length = 0) && decide (x.n = 0) && fz x
  else if x.d.kind = 2 then cntB p x && fz x
  else decide (x.t = 0) && decide (x.cs.length = 0) && flB x
theorem cmp_ge (t : Int) : decide (0 ≤ cmp t 0) = decide (0 ≤ t) := by
  apply decide_eq_decide.2
  unfold cmp
  split
  · omega
  · split <;> omega
theorem words_zero {t : Int} (h : InR t) : (hiOf t == 0 && loOf t == 0) = decide (t = 0) := by
  have h1 := val_hl t
  unfold val at h1
  by_cases e : t = 0
  · subst e; decide
  · rw [decide_eq_false e]
    by_cases e1 : hiOf t = 0
    · have : loOf t ≠ 0 := fun e2 => e (by rw [e1, e2] at h1; omega)
      rw [beq_eq_false_iff_ne.2 this, Bool.and_false]
    · rw [beq_eq_false_iff_ne.2 e1, Bool.false_and]
set_option maxRecDepth 100000 in
set_option maxHeartbeats 8000000 in
theorem holds_any (p : Int) (x : Vl) (v : Value) (h : VW x) (w : World) (hv : VAt w x v) :
    Calls Tryz.prog 36 #[.int .i64 p, v] w fun e w' => e = .returned (.bool (holdB p x)) ∧ Below w.heap.size w w' := by
  obtain ⟨lv, cv, rfl, hl, hc⟩ := hv
  obtain ⟨la, lc, rfl⟩ := hl.form
  obtain ⟨ca, cc, rfl⟩ := hc.form
  have HN : Hid (∀ W, Calls Tryz.prog 53 #[vx x (.slice la x.d.labels.length lc) (.slice ca x.cs.length cc)] W fun e w' => e = .returned (.bool (fz x)) ∧ Below W.heap.size W w') := nofl_any x _ _ h
  have HF : Hid (∀ W, Calls Tryz.prog 55 #[vx x (.slice la x.d.labels.length lc) (.slice ca x.cs.length cc)] W fun e w' => e = .returned (.bool (flB x)) ∧ Below W.heap.size W w') := hfloats_any x _ _ h
  have HC : Hid (∀ T, Calls Tryz.prog 54 #[.int .i64 p, vx x (.slice la x.d.labels.length lc) (.slice ca x.cs.length cc)] (w.alloc (.cells (vc x (.slice la x.d.labels.length lc) (.slice ca x.cs.length cc)) T)) fun e w' => e = .returned (.bool (cntB p x)) ∧ Below (w.alloc (.cells (vc x (.slice la x.d.labels.length lc) (.slice ca x.cs.length cc)) T)).heap.size (w.alloc (.cells (vc x (.slice la x.d.labels.length lc) (.slice ca x.cs.length cc)) T)) w') := fun T => hcounts_any p x la ca lc cc h _ (hl.below (bel1 _ _)) (hc.below (bel1 _ _))
  have HK : Hid (∀ T, B11 (w.alloc (.cells (vc x (.slice la x.d.labels.length lc) (.slice ca x.cs.length cc)) T)) w.heap.size x (.slice la x.d.labels.length lc) (.slice ca x.cs.length cc)) := fun T => newB11 w x _ _ T
  have HS : Hid (∀ W, _) := sign_any x.t h.t
  have HZ := hid_of (words_zero h.t)
  clear hl hc h
  unfold holdB
  generalize fz x = z at *
  generalize flB x = z2 at *
  by_cases k1 : x.d.kind = 1
  · rw [if_pos k1]
    have k1' : (x.d.kind == 1) = true := by simpa using k1
    have hg := cmp_ge x.t
    rw [← hg]
    clear HF HC HZ k1 hg
    generalize cmp x.t 0 = s at *
    by_cases e1 : 0 ≤ s
    · rw [decide_eq_true e1, Bool.true_and]
      by_cases e2 : x.cs.length = 0
      · rw [decide_eq_true e2, Bool.true_and]
        have e2' : ((x.cs.length : Int) == 0) = true := by rw [beq_iff_eq]; omega
        by_cases e3 : x.n = 0
        · rw [decide_eq_true e3, Bool.true_and]
          have e3' : ((x.n : Int) == 0) = true := by rw [beq_iff_eq]; omega
          clear e2 e3
          as_aux_lemma =>
            go_enter Tryz.func36, Tryz.ntmps36
            go_wp2_with (first
              | (go_at_call 52; with_reducible refine (HS.out _).mono ?_; rintro e w1 ⟨rfl, hb1⟩; obtain ⟨c0, c1, c2, c3, c4, c5, c6, c7, c8, c9, c10⟩ := (HK.out 45).below hb1)
              | (go_at_call 53; with_reducible refine (HN.out _).mono ?_; rintro e w2 ⟨rfl, hb2⟩))
            go_ret
            exact ⟨rfl, bt (bt (bel1 w _) hb1) hb2⟩
        · rw [decide_eq_false e3, Bool.false_and]
          have e3' : ((x.n : Int) == 0) = false := by rw [beq_eq_false_iff_ne]; omega
          clear e2 e3
          as_aux_lemma =>
            go_enter Tryz.func36, Tryz.ntmps36
            go_wp2_with (first
              | (go_at_call 52; with_reducible refine (HS.out _).mono ?_; rintro e w1 ⟨rfl, hb1⟩; obtain ⟨c0, c1, c2, c3, c4, c5, c6, c7, c8, c9, c10⟩ := (HK.out 45).below hb1))
            go_ret
            exact ⟨rfl, bt (bel1 w _) hb1⟩
      · rw [decide_eq_false e2, Bool.false_and, Bool.false_and]
        have e2' : ((x.cs.length : Int) == 0) = false := by rw [beq_eq_false_iff_ne]; omega
        clear e2
        as_aux_lemma =>
          go_enter Tryz.func36, Tryz.ntmps36
          go_wp2_with (first
            | (go_at_call 52; with_reducible refine (HS.out _).mono ?_; rintro e w1 ⟨rfl, hb1⟩; obtain ⟨c0, c1, c2, c3, c4, c5, c6, c7, c8, c9, c10⟩ := (HK.out 45).below hb1))
          go_ret
          exact ⟨rfl, bt (bel1 w _) hb1⟩
    · rw [decide_eq_false e1, Bool.false_and, Bool.false_and, Bool.false_and]
      as_aux_lemma =>
        go_enter Tryz.func36, Tryz.ntmps36
        go_wp2_with (first
          | (go_at_call 52; with_reducible refine (HS.out _).mono ?_; rintro e w1 ⟨rfl, hb1⟩; obtain ⟨c0, c1, c2, c3, c4, c5, c6, c7, c8, c9, c10⟩ := (HK.out 45).below hb1))
        go_ret
        exact ⟨rfl, bt (bel1 w _) hb1⟩
  · rw [if_neg k1]
    have k1' : (x.d.kind == 1) = false := by simpa using k1
    clear HS
    by_cases k2 : x.d.kind = 2
    · rw [if_pos k2]
      have k2' : (x.d.kind == 2) = true := by simpa using k2
      clear HF HZ k1 k2
      generalize cntB p x = q at *
      cases q
      · as_aux_lemma =>
          go_enter Tryz.func36, Tryz.ntmps36
          go_wp2_with (first
            | (go_at_call 54; with_reducible refine (HC.out _).mono ?_; rintro e w1 ⟨rfl, hb1⟩; obtain ⟨c0, c1, c2, c3, c4, c5, c6, c7, c8, c9, c10⟩ := (HK.out 45).below hb1))
          go_ret
          exact ⟨rfl, bt (bel1 w _) hb1⟩
      · rw [Bool.true_and]
        as_aux_lemma =>
          go_enter Tryz.func36, Tryz.ntmps36
          go_wp2_with (first
            | (go_at_call 54; with_reducible refine (HC.out _).mono ?_; rintro e w1 ⟨rfl, hb1⟩; obtain ⟨c0, c1, c2, c3, c4, c5, c6, c7, c8, c9, c10⟩ := (HK.out 45).below hb1)
            | (go_at_call 53; with_reducible refine (HN.out _).mono ?_; rintro e w2 ⟨rfl, hb2⟩))
          go_ret
          exact ⟨rfl, bt (bt (bel1 w _) hb1) hb2⟩
    · rw [if_neg k2]
      have k2' : (x.d.kind == 2) = false := by simpa using k2
      rw [← HZ.out]
      clear HC HN HZ k1 k2
      by_cases e0 : hiOf x.t = 0
      · have e0' : (hiOf x.t == 0) = true := by simpa using e0
        clear e0
        by_cases e1 : loOf x.t = 0
        · have e1' : (loOf x.t == 0) = true := by simpa using e1
          clear e1
          rw [e0', e1', show (true && true) = true from rfl, Bool.true_and]
          by_cases e2 : x.cs.length = 0
          · rw [decide_eq_true e2, Bool.true_and]
            have e2' : ((x.cs.length : Int) == 0) = true := by rw [beq_iff_eq]; omega
            clear e2
            as_aux_lemma =>
              go_enter Tryz.func36, Tryz.ntmps36
              go_wp2_with (first
                | (go_at_call 55; with_reducible refine (HF.out _).mono ?_; rintro e w2 ⟨rfl, hb2⟩))
              go_ret
              exact ⟨rfl, bt (bel1 w _) hb2⟩
          · rw [decide_eq_false e2, Bool.false_and]
            have e2' : ((x.cs.length : Int) == 0) = false := by rw [beq_eq_false_iff_ne]; omega
            clear e2
            as_aux_lemma =>
              go_enter Tryz.func36, Tryz.ntmps36
              go_wp2_with fail
              go_ret
              exact ⟨rfl, bel1 w _⟩
        · have e1' : (loOf x.t == 0) = false := by simpa using e1
          rw [e0', e1', Bool.and_false, Bool.false_and, Bool.false_and]
          clear e1
          as_aux_lemma =>
            go_enter Tryz.func36, Tryz.ntmps36
            go_wp2_with fail
            go_ret
            exact ⟨rfl, bel1 w _⟩
      · have e0' : (hiOf x.t == 0) = false := by simpa using e0
        rw [e0', Bool.false_and, Bool.false_and, Bool.false_and]
        clear e0
        as_aux_lemma =>
          go_enter Tryz.func36, Tryz.ntmps36
          go_wp2_with fail
          go_ret
          exact ⟨rfl, bel1 w _⟩
end Go.Proofs.YtgkdggcpplmnaaaGreat
/- WHICH SNAPSHOTS MAY BE: places, Check, the code's. Own work of the verifier. -/
namespace Go.Proofs.YtgkdggcpplmnaaaGreat
open Go.RowKit Me

set_option maxRecDepth 100000 in
set_option maxHeartbeats 4000000 in
theorem cser_any (x y : Vl) (v u : Value) (w : World) (hv : VAt w x v) (hu : VAt w y u) :
    Calls Tryz.prog 40 #[v, u] w fun e w' => e = .returned (.int .i64 (La.ordD x.d y.d)) ∧ Below w.heap.size w w' := by
  obtain ⟨lv, cv, rfl, hl, hc⟩ := hv
  obtain ⟨lw, cw, rfl, hl', hc'⟩ := hu
  have HC : Hid (∀ W, Below w.heap.size w W → Calls Tryz.prog 56 #[.agg #[.int .i64 x.d.kind, .string ⟨x.d.name.toArray⟩, .string ⟨x.d.help.toArray⟩, lv], .agg #[.int .i64 y.d.kind, .string ⟨y.d.name.toArray⟩, .string ⟨y.d.help.toArray⟩, lw]] W fun e w' => e = .returned (.int .i64 (La.ordD x.d y.d)) ∧ Below W.heap.size W w') := fun W hb => La.ccompare_any x.d y.d _ _ W (hl.below hb).dsc (hl'.below hb).dsc
  clear hl hc hl' hc'
  generalize La.ordD x.d y.d = z at *
  go_enter Tryz.func40, Tryz.ntmps40
  go_wp2_with (go_at_call 56; with_reducible refine (HC.out _ (bel2 w _ _)).mono ?_; rintro e w1 ⟨rfl, hb⟩)
  go_ret
  exact ⟨rfl, bt (bel2 w _ _) hb⟩
/-- One name, and yet another kind or help? -/
def unlB (x y : Vl) : Bool := decide (x.d.name = y.d.name) && (decide (x.d.kind ≠ y.d.kind) || decide (x.d.help ≠ y.d.help))
set_option maxRecDepth 100000 in
set_option maxHeartbeats 4000000 in
theorem unl_any (x y : Vl) (lv cv lw cw : Value) (w : World) :
    Calls Tryz.prog 41 #[vx x lv cv, vx y lw cw] w fun e w' => e = .returned (.bool (unlB x y)) ∧ Below w.heap.size w w' := by
  have he : unlB x y = (x.d.name == y.d.name && ((x.d.kind != y.d.kind) || !(x.d.help == y.d.help))) := by
    unfold unlB
    congr 1
    · by_cases h : x.d.name = y.d.name
      · rw [decide_eq_true h, h]; simp
      · rw [decide_eq_false h]; simp [h]
    · congr 1
      · by_cases h : x.d.kind = y.d.kind
        · rw [h]; simp
        · simp [h]
      · by_cases h : x.d.help = y.d.help
        · rw [h]; simp
        · simp [h]
  rw [he]
  clear he
  obtain ⟨a, ha⟩ : ∃ a, (x.d.name == y.d.name) = a := ⟨_, rfl⟩
  obtain ⟨b, hb⟩ : ∃ b, (x.d.kind == y.d.kind) = b := ⟨_, rfl⟩
  obtain ⟨c, hc⟩ : ∃ c, (x.d.help == y.d.help) = c := ⟨_, rfl⟩
  have hb' : (x.d.kind != y.d.kind) = !b := by rw [← hb]; rfl
  rw [ha, hb', hc]
  cases a <;> cases b <;> cases c
  all_goals as_aux_lemma =>
    go_enter Tryz.func41, Tryz.ntmps41
    go_wp2_with fail
    go_ret
    exact ⟨rfl, bel2 w _ _⟩
/-- What is wrong with a value behind another one. -/
def plV (x y : Vl) : Int := if La.ordD x.d y.d = 0 then 10 else if 0 < La.ordD x.d y.d then 15 else if unlB x y then 12 else 0
set_option maxRecDepth 100000 in
set_option maxHeartbeats 4000000 in
theorem place_any (x y : Vl) (v u : Value) (w : World) (hv : VAt w x v) (hu : VAt w y u) :
    Calls Tryz.prog 37 #[v, u] w fun e w' => e = .returned (.int .i64 (plV x y)) ∧ Below w.heap.size w w' := by
  have hv0 := hv
  have hu0 := hu
  obtain ⟨lv, cv, rfl, hl, hc⟩ := hv
  obtain ⟨lw, cw, rfl, hl', hc'⟩ := hu
  have HC : Hid (∀ W, Below w.heap.size w W → Calls Tryz.prog 40 #[vx x lv cv, vx y lw cw] W fun e w' => e = .returned (.int .i64 (La.ordD x.d y.d)) ∧ Below W.heap.size W w') := fun W hb => cser_any x y _ _ W (hv0.below hb) (hu0.below hb)
  have HU : Hid (∀ W, Calls Tryz.prog 41 #[vx x lv cv, vx y lw cw] W fun e w' => e = .returned (.bool (unlB x y)) ∧ Below W.heap.size W w') := unl_any x y lv cv lw cw
  have HK : Hid (∀ T, B11 ((w.alloc (.cells (vc x lv cv) T)).alloc (.cells (vc y lw cw) T)) w.heap.size x lv cv ∧ B11 ((w.alloc (.cells (vc x lv cv) T)).alloc (.cells (vc y lw cw) T)) (w.heap.size + 1) y lw cw) := fun T => ⟨(KV.new2 hl hc hl' hc' T).1.box, (KV.new2 hl hc hl' hc' T).2.box⟩
  clear hl hc hl' hc' hv0 hu0
  unfold plV
  generalize La.ordD x.d y.d = z at *
  generalize unlB x y = q at *
  by_cases h0 : z = 0
  · rw [if_pos h0]
    have h0' : (z == 0) = true := by simpa using h0
    clear HU HK h0
    as_aux_lemma =>
      go_enter Tryz.func37, Tryz.ntmps37
      go_wp2_with (go_at_call 40; with_reducible refine (HC.out _ (bel2 w _ _)).mono ?_; rintro e w1 ⟨rfl, hb⟩)
      go_ret
      exact ⟨rfl, bt (bel2 w _ _) hb⟩
  · rw [if_neg h0]
    have h0' : (z == 0) = false := by simpa using h0
    by_cases h1 : 0 < z
    · rw [if_pos h1]
      clear HU HK h0
      as_aux_lemma =>
        go_enter Tryz.func37, Tryz.ntmps37
        go_wp2_with (go_at_call 40; with_reducible refine (HC.out _ (bel2 w _ _)).mono ?_; rintro e w1 ⟨rfl, hb⟩)
        go_ret
        exact ⟨rfl, bt (bel2 w _ _) hb⟩
    · rw [if_neg h1]
      clear h0
      cases q
      · rw [if_neg (by decide)]
        as_aux_lemma =>
          go_enter Tryz.func37, Tryz.ntmps37
          go_wp2_with (first
            | (go_at_call 40; with_reducible refine (HC.out _ (bel2 w _ _)).mono ?_; rintro e w1 ⟨rfl, hb⟩; obtain ⟨c0, c1, c2, c3, c4, c5, c6, c7, c8, c9, c10⟩ := (HK.out 45).1.below hb; obtain ⟨d0, d1, d2, d3, d4, d5, d6, d7, d8, d9, d10⟩ := (HK.out 45).2.below hb)
            | (go_at_call 41; with_reducible refine (HU.out _).mono ?_; rintro e w2 ⟨rfl, hb2⟩))
          go_ret
          exact ⟨rfl, bt (bt (bel2 w _ _) hb) hb2⟩
      · rw [if_pos rfl]
        as_aux_lemma =>
          go_enter Tryz.func37, Tryz.ntmps37
          go_wp2_with (first
            | (go_at_call 40; with_reducible refine (HC.out _ (bel2 w _ _)).mono ?_; rintro e w1 ⟨rfl, hb⟩; obtain ⟨c0, c1, c2, c3, c4, c5, c6, c7, c8, c9, c10⟩ := (HK.out 45).1.below hb; obtain ⟨d0, d1, d2, d3, d4, d5, d6, d7, d8, d9, d10⟩ := (HK.out 45).2.below hb)
            | (go_at_call 41; with_reducible refine (HU.out _).mono ?_; rintro e w2 ⟨rfl, hb2⟩))
          go_ret
          exact ⟨rfl, bt (bt (bel2 w _ _) hb) hb2⟩
end Go.Proofs.YtgkdggcpplmnaaaGreat
