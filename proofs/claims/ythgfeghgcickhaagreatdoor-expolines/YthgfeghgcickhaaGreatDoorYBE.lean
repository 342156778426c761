/- WHAT A VALUE HOLDS: holds, the code's. Own work of the verifier. -/
import Derived.Test.YthgfeghgcickhaaGreatDoorYBD
namespace Go.Proofs.YthgfeghgcickhaaGreatDoor
open Go.RowKit Me

theorem mayE_set (p : Int) (C : List Cn) : mayE p C = 0 ∨ mayE p C = 1 ∨ mayE p C = 2 ∨ mayE p C = 3 ∨ mayE p C = 15 ∨ mayE p C = 16 := by
  have hb : ∀ N i, bad N C i = 0 ∨ bad N C i = 2 ∨ bad N C i = 15 ∨ bad N C i = 16 := fun N i => by
    unfold bad
    split
    · simp
    · split
      · simp
      · split <;> simp
  rcases mayE_is p C with ⟨_, h⟩ | ⟨_, ⟨i, _, _, _, h⟩ | ⟨_, h⟩⟩
  · omega
  · have := hb ((64 - p.toNat) * 2 ^ p.toNat) i
    omega
  · split at h <;> omega
set_option maxRecDepth 100000 in
set_option maxHeartbeats 4000000 in
theorem hcounts_any (p : Int) (x : Vl) (la ca : Option Addr) (lc cc : Nat) (h : VW x) (w : World) (hl : SLb w (.slice la x.d.labels.length lc) x.d.labels) (hc : SN w (.slice ca x.cs.length cc) x.cs) :
    Calls Tryz.prog 32 #[.int .i64 p, vx x (.slice la x.d.labels.length lc) (.slice ca x.cs.length cc)] w fun e w' => e = .returned (.bool (cntB p x)) ∧ Below w.heap.size w w' := by
  have hm := mayE_is p x.cs
  by_cases h0 : mayE p x.cs = 0
  · rw [h0] at hm
    have hp := (may_ok hm).1
    obtain ⟨P, rfl⟩ := Int.eq_ofNat_of_zero_le (by omega : 0 ≤ p)
    by_cases hn : x.n = tot x.cs
    · have e : cntB (P : Int) x = btw (P : Int) x := by unfold cntB; rw [decide_eq_true h0, decide_eq_true hn]; rfl
      rw [e]
      exact hc_loop P x la ca lc cc h w hl hc hm hn
    · have e : cntB (P : Int) x = false := by unfold cntB; rw [decide_eq_true h0, decide_eq_false hn]; rfl
      rw [e]
      have HMay : Hid (∀ W, S1h w x (.slice la x.d.labels.length lc) (.slice ca x.cs.length cc) W → Calls Tryz.prog 55 #[.int .i64 (P : Int), .slice ca x.cs.length cc] W fun e w' => e = .returned (.int .i64 0) ∧ Below W.heap.size W w') := fun W k => may_any W _ _ _ 0 k.2.2.c h.cs h.cl hm
      have HTot : Hid (∀ W, S1h w x (.slice la x.d.labels.length lc) (.slice ca x.cs.length cc) W → Calls Tryz.prog 56 #[.slice ca x.cs.length cc] W fun e w' => e = .returned (.int .u64 (tot x.cs : Nat)) ∧ Below W.heap.size W w') := fun W k => total_any W _ _ k.2.2.c h.cs h.cl
      have HK0 : Hid (∀ T, KV w w.heap.size x (.slice la x.d.labels.length lc) (.slice ca x.cs.length cc) (w.alloc (.cells (vc x (.slice la x.d.labels.length lc) (.slice ca x.cs.length cc)) T))) := fun T => KV.new hl hc T
      have hn' : ((x.n : Int) != (tot x.cs : Int)) = true := by rw [bne_iff_ne]; omega
      clear hl hc hm h e h0 hn
      generalize tot x.cs = tt at *
      as_aux_lemma =>
      go_enter Tryz.func32, Tryz.ntmps32
      go_upto_region 1 with fail
      have hK := HK0.out 39
      obtain ⟨w0, hw0⟩ : ∃ w0, w.alloc (.cells (vc x (.slice la x.d.labels.length lc) (.slice ca x.cs.length cc)) 39) = w0 := ⟨_, rfl⟩
      have hw0' := hw0
      simp only [vc] at hw0'
      rw [hw0] at hK
      rw [hw0']
      have hG0 := (⟨hK.box.c6, hK.box.c7, hK⟩ : S1h w x (.slice la x.d.labels.length lc) (.slice ca x.cs.length cc) w0)
      clear hw0 hw0' HK0 hK
      go_region_held3 (fun W => W.cell? ⟨w.heap.size, 6, none⟩ = some (.slice ca x.cs.length cc) ∧ W.cell? ⟨w.heap.size, 7, none⟩ = some (.int .u64 (x.n : Int)) ∧ KV w w.heap.size x (.slice la x.d.labels.length lc) (.slice ca x.cs.length cc) W)
        (first | assumption | exact keepK (by assumption) (by assumption) | exact keepK (drew_bel _) hG0)
        (first
          | (go_at_call 55; with_reducible refine (HMay.out _ (by first | assumption | exact keepK (by assumption) (by assumption) | exact keepK (drew_bel _) hG0)).mono ?_; rintro e w1 ⟨rfl, hb1⟩)
          | (go_at_call 56; with_reducible refine (HTot.out _ (by first | assumption | exact keepK (by assumption) (by assumption) | exact keepK (drew_bel _) hG0)).mono ?_; rintro e w2 ⟨rfl, hb2⟩))
      rename_i hG1
      go_wp2_with fail
      go_ret
      exact ⟨rfl, hG1.2.2.bl⟩
  · have e : cntB p x = false := by unfold cntB; rw [decide_eq_false h0]; rfl
    rw [e]
    have HMay : Hid (∀ W, S1h w x (.slice la x.d.labels.length lc) (.slice ca x.cs.length cc) W → Calls Tryz.prog 55 #[.int .i64 p, .slice ca x.cs.length cc] W fun e w' => e = .returned (.int .i64 (mayE p x.cs)) ∧ Below W.heap.size W w') := fun W k => may_any W _ _ _ _ k.2.2.c h.cs h.cl hm
    have HK0 : Hid (∀ T, KV w w.heap.size x (.slice la x.d.labels.length lc) (.slice ca x.cs.length cc) (w.alloc (.cells (vc x (.slice la x.d.labels.length lc) (.slice ca x.cs.length cc)) T))) := fun T => KV.new hl hc T
    have hset := mayE_set p x.cs
    clear hl hc hm h e
    generalize mayE p x.cs = tt at *
    rcases hset with e | e | e | e | e | e
    · exact absurd e h0
    all_goals
     subst e
     clear h0
     as_aux_lemma =>
      go_enter Tryz.func32, Tryz.ntmps32
      go_upto_region 1 with fail
      have hK := HK0.out 39
      obtain ⟨w0, hw0⟩ : ∃ w0, w.alloc (.cells (vc x (.slice la x.d.labels.length lc) (.slice ca x.cs.length cc)) 39) = w0 := ⟨_, rfl⟩
      have hw0' := hw0
      simp only [vc] at hw0'
      rw [hw0] at hK
      rw [hw0']
      have hG0 := (⟨hK.box.c6, hK.box.c7, hK⟩ : S1h w x (.slice la x.d.labels.length lc) (.slice ca x.cs.length cc) w0)
      clear hw0 hw0' HK0 hK
      have hG0d := keepK (drew_bel _) hG0
      obtain ⟨p6, p7, _⟩ := hG0d
      first
        | (go_region_with (go_at_call 55; with_reducible refine (HMay.out _ (keepK (drew_bel _) hG0)).mono ?_; rintro e w1 ⟨rfl, hb1⟩; have hbl := hb1))
        | fail
      all_goals
        go_wp2_with fail
        go_ret
        exact ⟨rfl, bt (bt hG0.2.2.bl (drew_bel _)) hb1⟩
/-- The floats of a summary. -/
def flB (x : Vl) : Bool := if 9223372036854775807 < x.n then false else if x.n = 0 then fz x else Re.finF x.sum && Re.finF x.mn && Re.finF x.mx && decide (Re.sg (Re.rk x.mn) (Re.rk x.mx) ≤ 0)
set_option maxRecDepth 100000 in
set_option maxHeartbeats 4000000 in
theorem hfloats_any (x : Vl) (lv cv : Value) (h : VW x) (w : World) :
    Calls Tryz.prog 33 #[vx x lv cv] w fun e w' => e = .returned (.bool (flB x)) ∧ Below w.heap.size w w' := by
  unfold flB
  have HN : Hid (∀ W, _) := nofl_any x lv cv h
  have HB : Hid (∀ T, B11 (w.alloc (.cells (vc x lv cv) T)) w.heap.size x lv cv) := fun T => newB11 w x lv cv T
  by_cases h1 : 9223372036854775807 < x.n
  · rw [if_pos h1]
    have h1' : (9223372036854775807 : Int) < (x.n : Int) := by omega
    clear HN HB h
    as_aux_lemma =>
      go_enter Tryz.func33, Tryz.ntmps33
      go_wp2_with fail
      go_ret
      exact ⟨rfl, bel1 w _⟩
  · rw [if_neg h1]
    have h1' : ¬ (9223372036854775807 : Int) < (x.n : Int) := by omega
    by_cases h2 : x.n = 0
    · rw [if_pos h2]
      have h2' : ((x.n : Int) == 0) = true := by rw [beq_iff_eq]; omega
      generalize fz x = z at *
      clear h h1 h2
      as_aux_lemma =>
        go_enter Tryz.func33, Tryz.ntmps33
        go_wp2_with (go_at_call 31; with_reducible refine (HN.out _).mono ?_; rintro e w1 ⟨rfl, hb⟩)
        go_ret
        exact ⟨rfl, bt (bel1 w _) hb⟩
    · rw [if_neg h2]
      have h2' : ((x.n : Int) == 0) = false := by rw [beq_eq_false_iff_ne]; omega
      have H1 : Hid (∀ W, _) := Re.cfin_any x.sum h.sum
      have H2 : Hid (∀ W, _) := Re.cfin_any x.mn h.mn
      have H3 : Hid (∀ W, _) := Re.cfin_any x.mx h.mx
      have H4 : Hid (∀ W, _) := Re.compare_any x.mn x.mx h.mn h.mx
      clear h h1 h2 HN HB
      generalize Re.finF x.sum = a at *
      generalize Re.finF x.mn = b at *
      generalize Re.finF x.mx = c at *
      generalize Re.sg (Re.rk x.mn) (Re.rk x.mx) = d at *
      cases a <;> cases b <;> cases c
      all_goals as_aux_lemma =>
        go_enter Tryz.func33, Tryz.ntmps33
        go_wp2_with (first
          | (go_at_call 61; (first | (with_reducible refine (H1.out _).mono ?_) | (with_reducible refine (H2.out _).mono ?_) | (with_reducible refine (H3.out _).mono ?_)); rintro e w1 ⟨rfl, rfl⟩)
          | (go_at_call 62; with_reducible refine (H4.out _).mono ?_; rintro e w1 ⟨rfl, rfl⟩))
        go_ret
        exact ⟨rfl, bel1 w _⟩
end Go.Proofs.YthgfeghgcickhaaGreatDoor
/- WHICH VALUES MAY BE: holds, places, the code's. Own work of the verifier. -/
namespace Go.Proofs.YthgfeghgcickhaaGreatDoor
open Go.RowKit Me

/-- Does a value hold what it may? -/
noncomputable def holdB (p : Int) (x : Vl) : Bool :=
  if x.d.kind = 1 then decide (0 ≤ x.t) && decide (x.cs.length = 0) && decide (x.n = 0) && fz x
  else if x.d.kind = 2 then cntB p x && fz x
  else decide (x.t = 0) && decide (x.cs.length = 0) && flB x
theorem cmp_ge (t : Int) : decide (0 ≤ cmp t 0) = decide (0 ≤ t) := by
  apply decide_eq_decide.2
  unfold cmp
  split
  · omega
  · split <;> omega
theorem words_zero {t : Int} (h : InR t) : (hiOf t == 0 && loOf t == 0) = decide (t = 0) := by
  have h1 := val_hl t
  unfold val at h1
  by_cases e : t = 0
  · subst e; decide
  · rw [decide_eq_false e]
    by_cases e1 : hiOf t = 0
    · have : loOf t ≠ 0 := fun e2 => e (by rw [e1, e2] at h1; omega)
      rw [beq_eq_false_iff_ne.2 this, Bool.and_false]
    · rw [beq_eq_false_iff_ne.2 e1, Bool.false_and]
set_option maxRecDepth 100000 in
set_option maxHeartbeats 8000000 in
theorem holds_any (p : Int) (x : Vl) (v : Value) (h : VW x) (w : World) (hv : VAt w x v) :
    Calls Tryz.prog 18 #[.int .i64 p, v] w fun e w' => e = .returned (.bool (holdB p x)) ∧ Below w.heap.size w w' := by
  obtain ⟨lv, cv, rfl, hl, hc⟩ := hv
  obtain ⟨la, lc, rfl⟩ := hl.form
  obtain ⟨ca, cc, rfl⟩ := hc.form
  have HN : Hid (∀ W, Calls Tryz.prog 31 #[vx x (.slice la x.d.labels.length lc) (.slice ca x.cs.length cc)] W fun e w' => e = .returned (.bool (fz x)) ∧ Below W.heap.size W w') := nofl_any x _ _ h
  have HF : Hid (∀ W, Calls Tryz.prog 33 #[vx x (.slice la x.d.labels.length lc) (.slice ca x.cs.length cc)] W fun e w' => e = .returned (.bool (flB x)) ∧ Below W.heap.size W w') := hfloats_any x _ _ h
  have HC : Hid (∀ T, Calls Tryz.prog 32 #[.int .i64 p, vx x (.slice la x.d.labels.length lc) (.slice ca x.cs.length cc)] (w.alloc (.cells (vc x (.slice la x.d.labels.length lc) (.slice ca x.cs.length cc)) T)) fun e w' => e = .returned (.bool (cntB p x)) ∧ Below (w.alloc (.cells (vc x (.slice la x.d.labels.length lc) (.slice ca x.cs.length cc)) T)).heap.size (w.alloc (.cells (vc x (.slice la x.d.labels.length lc) (.slice ca x.cs.length cc)) T)) w') := fun T => hcounts_any p x la ca lc cc h _ (hl.below (bel1 _ _)) (hc.below (bel1 _ _))
  have HK : Hid (∀ T, B11 (w.alloc (.cells (vc x (.slice la x.d.labels.length lc) (.slice ca x.cs.length cc)) T)) w.heap.size x (.slice la x.d.labels.length lc) (.slice ca x.cs.length cc)) := fun T => newB11 w x _ _ T
  have HS : Hid (∀ W, _) := sign_any x.t h.t
  have HZ := hid_of (words_zero h.t)
  clear hl hc h
  unfold holdB
  generalize fz x = z at *
  generalize flB x = z2 at *
  by_cases k1 : x.d.kind = 1
  · rw [if_pos k1]
    have k1' : (x.d.kind == 1) = true := by simpa using k1
    have hg := cmp_ge x.t
    rw [← hg]
    clear HF HC HZ k1 hg
    generalize cmp x.t 0 = s at *
    by_cases e1 : 0 ≤ s
    · rw [decide_eq_true e1, Bool.true_and]
      by_cases e2 : x.cs.length = 0
      · rw [decide_eq_true e2, Bool.true_and]
        have e2' : ((x.cs.length : Int) == 0) = true := by rw [beq_iff_eq]; omega
        by_cases e3 : x.n = 0
        · rw [decide_eq_true e3, Bool.true_and]
          have e3' : ((x.n : Int) == 0) = true := by rw [beq_iff_eq]; omega
          clear e2 e3
          as_aux_lemma =>
            go_enter Tryz.func18, Tryz.ntmps18
            go_wp2_with (first
              | (go_at_call 30; with_reducible refine (HS.out _).mono ?_; rintro e w1 ⟨rfl, hb1⟩; obtain ⟨c0, c1, c2, c3, c4, c5, c6, c7, c8, c9, c10⟩ := (HK.out 39).below hb1)
              | (go_at_call 31; with_reducible refine (HN.out _).mono ?_; rintro e w2 ⟨rfl, hb2⟩))
            go_ret
            exact ⟨rfl, bt (bt (bel1 w _) hb1) hb2⟩
        · rw [decide_eq_false e3, Bool.false_and]
          have e3' : ((x.n : Int) == 0) = false := by rw [beq_eq_false_iff_ne]; omega
          clear e2 e3
          as_aux_lemma =>
            go_enter Tryz.func18, Tryz.ntmps18
            go_wp2_with (first
              | (go_at_call 30; with_reducible refine (HS.out _).mono ?_; rintro e w1 ⟨rfl, hb1⟩; obtain ⟨c0, c1, c2, c3, c4, c5, c6, c7, c8, c9, c10⟩ := (HK.out 39).below hb1))
            go_ret
            exact ⟨rfl, bt (bel1 w _) hb1⟩
      · rw [decide_eq_false e2, Bool.false_and, Bool.false_and]
        have e2' : ((x.cs.length : Int) == 0) = false := by rw [beq_eq_false_iff_ne]; omega
        clear e2
        as_aux_lemma =>
          go_enter Tryz.func18, Tryz.ntmps18
          go_wp2_with (first
            | (go_at_call 30; with_reducible refine (HS.out _).mono ?_; rintro e w1 ⟨rfl, hb1⟩; obtain ⟨c0, c1, c2, c3, c4, c5, c6, c7, c8, c9, c10⟩ := (HK.out 39).below hb1))
          go_ret
          exact ⟨rfl, bt (bel1 w _) hb1⟩
    · rw [decide_eq_false e1, Bool.false_and, Bool.false_and, Bool.false_and]
      as_aux_lemma =>
        go_enter Tryz.func18, Tryz.ntmps18
        go_wp2_with (first
          | (go_at_call 30; with_reducible refine (HS.out _).mono ?_; rintro e w1 ⟨rfl, hb1⟩; obtain ⟨c0, c1, c2, c3, c4, c5, c6, c7, c8, c9, c10⟩ := (HK.out 39).below hb1))
        go_ret
        exact ⟨rfl, bt (bel1 w _) hb1⟩
  · rw [if_neg k1]
    have k1' : (x.d.kind == 1) = false := by simpa using k1
    clear HS
    by_cases k2 : x.d.kind = 2
    · rw [if_pos k2]
      have k2' : (x.d.kind == 2) = true := by simpa using k2
      clear HF HZ k1 k2
      generalize cntB p x = q at *
      cases q
      · as_aux_lemma =>
          go_enter Tryz.func18, Tryz.ntmps18
          go_wp2_with (first
            | (go_at_call 32; with_reducible refine (HC.out _).mono ?_; rintro e w1 ⟨rfl, hb1⟩; obtain ⟨c0, c1, c2, c3, c4, c5, c6, c7, c8, c9, c10⟩ := (HK.out 39).below hb1))
          go_ret
          exact ⟨rfl, bt (bel1 w _) hb1⟩
      · rw [Bool.true_and]
        as_aux_lemma =>
          go_enter Tryz.func18, Tryz.ntmps18
          go_wp2_with (first
            | (go_at_call 32; with_reducible refine (HC.out _).mono ?_; rintro e w1 ⟨rfl, hb1⟩; obtain ⟨c0, c1, c2, c3, c4, c5, c6, c7, c8, c9, c10⟩ := (HK.out 39).below hb1)
            | (go_at_call 31; with_reducible refine (HN.out _).mono ?_; rintro e w2 ⟨rfl, hb2⟩))
          go_ret
          exact ⟨rfl, bt (bt (bel1 w _) hb1) hb2⟩
    · rw [if_neg k2]
      have k2' : (x.d.kind == 2) = false := by simpa using k2
      rw [← HZ.out]
      clear HC HN HZ k1 k2
      by_cases e0 : hiOf x.t = 0
      · have e0' : (hiOf x.t == 0) = true := by simpa using e0
        clear e0
        by_cases e1 : loOf x.t = 0
        · have e1' : (loOf x.t == 0) = true := by simpa using e1
          clear e1
          rw [e0', e1', show (true && true) = true from rfl, Bool.true_and]
          by_cases e2 : x.cs.length = 0
          · rw [decide_eq_true e2, Bool.true_and]
            have e2' : ((x.cs.length : Int) == 0) = true := by rw [beq_iff_eq]; omega
            clear e2
            as_aux_lemma =>
              go_enter Tryz.func18, Tryz.ntmps18
              go_wp2_with (first
                | (go_at_call 33; with_reducible refine (HF.out _).mono ?_; rintro e w2 ⟨rfl, hb2⟩))
              go_ret
              exact ⟨rfl, bt (bel1 w _) hb2⟩
          · rw [decide_eq_false e2, Bool.false_and]
            have e2' : ((x.cs.length : Int) == 0) = false := by rw [beq_eq_false_iff_ne]; omega
            clear e2
            as_aux_lemma =>
              go_enter Tryz.func18, Tryz.ntmps18
              go_wp2_with fail
              go_ret
              exact ⟨rfl, bel1 w _⟩
        · have e1' : (loOf x.t == 0) = false := by simpa using e1
          rw [e0', e1', Bool.and_false, Bool.false_and, Bool.false_and]
          clear e1
          as_aux_lemma =>
            go_enter Tryz.func18, Tryz.ntmps18
            go_wp2_with fail
            go_ret
            exact ⟨rfl, bel1 w _⟩
      · have e0' : (hiOf x.t == 0) = false := by simpa using e0
        rw [e0', Bool.false_and, Bool.false_and, Bool.false_and]
        clear e0
        as_aux_lemma =>
          go_enter Tryz.func18, Tryz.ntmps18
          go_wp2_with fail
          go_ret
          exact ⟨rfl, bel1 w _⟩
end Go.Proofs.YthgfeghgcickhaaGreatDoor
/- WHICH SNAPSHOTS MAY BE: places, Check, the code's. Own work of the verifier. -/
namespace Go.Proofs.YthgfeghgcickhaaGreatDoor
open Go.RowKit Me

set_option maxRecDepth 100000 in
set_option maxHeartbeats 4000000 in
theorem cser_any (x y : Vl) (v u : Value) (w : World) (hv : VAt w x v) (hu : VAt w y u) :
    Calls Tryz.prog 34 #[v, u] w fun e w' => e = .returned (.int .i64 (La.ordD x.d y.d)) ∧ Below w.heap.size w w' := by
  obtain ⟨lv, cv, rfl, hl, hc⟩ := hv
  obtain ⟨lw, cw, rfl, hl', hc'⟩ := hu
  have HC : Hid (∀ W, Below w.heap.size w W → Calls Tryz.prog 63 #[.agg #[.int .i64 x.d.kind, .string ⟨x.d.name.toArray⟩, .string ⟨x.d.help.toArray⟩, lv], .agg #[.int .i64 y.d.kind, .string ⟨y.d.name.toArray⟩, .string ⟨y.d.help.toArray⟩, lw]] W fun e w' => e = .returned (.int .i64 (La.ordD x.d y.d)) ∧ Below W.heap.size W w') := fun W hb => La.ccompare_any x.d y.d _ _ W (hl.below hb).dsc (hl'.below hb).dsc
  clear hl hc hl' hc'
  generalize La.ordD x.d y.d = z at *
  go_enter Tryz.func34, Tryz.ntmps34
  go_wp2_with (go_at_call 63; with_reducible refine (HC.out _ (bel2 w _ _)).mono ?_; rintro e w1 ⟨rfl, hb⟩)
  go_ret
  exact ⟨rfl, bt (bel2 w _ _) hb⟩
/-- One name, and yet another kind or help? -/
def unlB (x y : Vl) : Bool := decide (x.d.name = y.d.name) && (decide (x.d.kind ≠ y.d.kind) || decide (x.d.help ≠ y.d.help))
set_option maxRecDepth 100000 in
set_option maxHeartbeats 4000000 in
theorem unl_any (x y : Vl) (lv cv lw cw : Value) (w : World) :
    Calls Tryz.prog 35 #[vx x lv cv, vx y lw cw] w fun e w' => e = .returned (.bool (unlB x y)) ∧ Below w.heap.size w w' := by
  have he : unlB x y = (x.d.name == y.d.name && ((x.d.kind != y.d.kind) || !(x.d.help == y.d.help))) := by
    unfold unlB
    congr 1
    · by_cases h : x.d.name = y.d.name
      · rw [decide_eq_true h, h]; simp
      · rw [decide_eq_false h]; simp [h]
    · congr 1
      · by_cases h : x.d.kind = y.d.kind
        · rw [h]; simp
        · simp [h]
      · by_cases h : x.d.help = y.d.help
        · rw [h]; simp
        · simp [h]
  rw [he]
  clear he
  obtain ⟨a, ha⟩ : ∃ a, (x.d.name == y.d.name) = a := ⟨_, rfl⟩
  obtain ⟨b, hb⟩ : ∃ b, (x.d.kind == y.d.kind) = b := ⟨_, rfl⟩
  obtain ⟨c, hc⟩ : ∃ c, (x.d.help == y.d.help) = c := ⟨_, rfl⟩
  have hb' : (x.d.kind != y.d.kind) = !b := by rw [← hb]; rfl
  rw [ha, hb', hc]
  cases a <;> cases b <;> cases c
  all_goals as_aux_lemma =>
    go_enter Tryz.func35, Tryz.ntmps35
    go_wp2_with fail
    go_ret
    exact ⟨rfl, bel2 w _ _⟩
/-- What is wrong with a value behind another one. -/
def plV (x y : Vl) : Int := if La.ordD x.d y.d = 0 then 10 else if 0 < La.ordD x.d y.d then 15 else if unlB x y then 12 else 0
set_option maxRecDepth 100000 in
set_option maxHeartbeats 4000000 in
theorem place_any (x y : Vl) (v u : Value) (w : World) (hv : VAt w x v) (hu : VAt w y u) :
    Calls Tryz.prog 19 #[v, u] w fun e w' => e = .returned (.int .i64 (plV x y)) ∧ Below w.heap.size w w' := by
  have hv0 := hv
  have hu0 := hu
  obtain ⟨lv, cv, rfl, hl, hc⟩ := hv
  obtain ⟨lw, cw, rfl, hl', hc'⟩ := hu
  have HC : Hid (∀ W, Below w.heap.size w W → Calls Tryz.prog 34 #[vx x lv cv, vx y lw cw] W fun e w' => e = .returned (.int .i64 (La.ordD x.d y.d)) ∧ Below W.heap.size W w') := fun W hb => cser_any x y _ _ W (hv0.below hb) (hu0.below hb)
  have HU : Hid (∀ W, Calls Tryz.prog 35 #[vx x lv cv, vx y lw cw] W fun e w' => e = .returned (.bool (unlB x y)) ∧ Below W.heap.size W w') := unl_any x y lv cv lw cw
  have HK : Hid (∀ T, B11 ((w.alloc (.cells (vc x lv cv) T)).alloc (.cells (vc y lw cw) T)) w.heap.size x lv cv ∧ B11 ((w.alloc (.cells (vc x lv cv) T)).alloc (.cells (vc y lw cw) T)) (w.heap.size + 1) y lw cw) := fun T => ⟨(KV.new2 hl hc hl' hc' T).1.box, (KV.new2 hl hc hl' hc' T).2.box⟩
  clear hl hc hl' hc' hv0 hu0
  unfold plV
  generalize La.ordD x.d y.d = z at *
  generalize unlB x y = q at *
  by_cases h0 : z = 0
  · rw [if_pos h0]
    have h0' : (z == 0) = true := by simpa using h0
    clear HU HK h0
    as_aux_lemma =>
      go_enter Tryz.func19, Tryz.ntmps19
      go_wp2_with (go_at_call 34; with_reducible refine (HC.out _ (bel2 w _ _)).mono ?_; rintro e w1 ⟨rfl, hb⟩)
      go_ret
      exact ⟨rfl, bt (bel2 w _ _) hb⟩
  · rw [if_neg h0]
    have h0' : (z == 0) = false := by simpa using h0
    by_cases h1 : 0 < z
    · rw [if_pos h1]
      clear HU HK h0
      as_aux_lemma =>
        go_enter Tryz.func19, Tryz.ntmps19
        go_wp2_with (go_at_call 34; with_reducible refine (HC.out _ (bel2 w _ _)).mono ?_; rintro e w1 ⟨rfl, hb⟩)
        go_ret
        exact ⟨rfl, bt (bel2 w _ _) hb⟩
    · rw [if_neg h1]
      clear h0
      cases q
      · rw [if_neg (by decide)]
        as_aux_lemma =>
          go_enter Tryz.func19, Tryz.ntmps19
          go_wp2_with (first
            | (go_at_call 34; with_reducible refine (HC.out _ (bel2 w _ _)).mono ?_; rintro e w1 ⟨rfl, hb⟩; obtain ⟨c0, c1, c2, c3, c4, c5, c6, c7, c8, c9, c10⟩ := (HK.out 39).1.below hb; obtain ⟨d0, d1, d2, d3, d4, d5, d6, d7, d8, d9, d10⟩ := (HK.out 39).2.below hb)
            | (go_at_call 35; with_reducible refine (HU.out _).mono ?_; rintro e w2 ⟨rfl, hb2⟩))
          go_ret
          exact ⟨rfl, bt (bt (bel2 w _ _) hb) hb2⟩
      · rw [if_pos rfl]
        as_aux_lemma =>
          go_enter Tryz.func19, Tryz.ntmps19
          go_wp2_with (first
            | (go_at_call 34; with_reducible refine (HC.out _ (bel2 w _ _)).mono ?_; rintro e w1 ⟨rfl, hb⟩; obtain ⟨c0, c1, c2, c3, c4, c5, c6, c7, c8, c9, c10⟩ := (HK.out 39).1.below hb; obtain ⟨d0, d1, d2, d3, d4, d5, d6, d7, d8, d9, d10⟩ := (HK.out 39).2.below hb)
            | (go_at_call 35; with_reducible refine (HU.out _).mono ?_; rintro e w2 ⟨rfl, hb2⟩))
          go_ret
          exact ⟨rfl, bt (bt (bel2 w _ _) hb) hb2⟩
end Go.Proofs.YthgfeghgcickhaaGreatDoor
