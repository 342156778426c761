/- WHAT A VALUE HOLDS, the document's: holds. Own work of the verifier. -/
import Derived.Test.YtckdkcnnfjbdmaaGreatZD1
import Derived.Test.YtckdkcnnfjbdmaaGreatZS5
namespace Go.Proofs.YtckdkcnnfjbdmaaGreat
open Go.RowKit Me

theorem hi_ge {t : Int} : decide (0 ≤ hiOf t) = decide (0 ≤ t) := decide_eq_decide.2 (by unfold hiOf; omega)
theorem beq0 (n : Nat) (q : Bool) (h : decide (n = 0) = q) : ((n : Int) == 0) = q := by
  rw [← h]
  by_cases e : n = 0
  · rw [decide_eq_true e, e]; rfl
  · rw [decide_eq_false e, beq_eq_false_iff_ne]; omega
theorem holdB_c {p : Int} {x : Vl} (k : x.d.kind = 1) : holdB p x = (decide (0 ≤ hiOf x.t) && decide (x.cs.length = 0) && decide (x.n = 0) && fz x) := by
  unfold holdB
  rw [if_pos k, hi_ge]
theorem holdB_h {p : Int} {x : Vl} (k1 : ¬ x.d.kind = 1) (k2 : x.d.kind = 2) : holdB p x = (decide (mayE p x.cs = 0) && decide (x.n = tot x.cs) && btw p x && fz x) := by
  unfold holdB
  rw [if_neg k1, if_pos k2]
  rfl
theorem holdB_s {p : Int} {x : Vl} (k1 : ¬ x.d.kind = 1) (k2 : ¬ x.d.kind = 2) : holdB p x = (decide (x.t = 0) && decide (x.cs.length = 0) && flB x) := by
  unfold holdB
  rw [if_neg k1, if_neg k2]
set_option maxRecDepth 100000 in
set_option maxHeartbeats 8000000 in
theorem rholds_any (p : Int) (x : Vl) (v : Value) (h : VW x) (w : World) (hv : VAt w x v) :
    Calls Tryz.prog 30 #[.int .i64 p, v] w fun e w' => e = .returned (.bool (holdB p x)) ∧ Below w.heap.size w w' := by
  obtain ⟨lv, cv, rfl, hl, hc⟩ := hv
  obtain ⟨la, lc, rfl⟩ := hl.form
  obtain ⟨ca, cc, rfl⟩ := hc.form
  have HZ : ∀ y : Nat, y < 18446744073709551616 → Hid (∀ W, Calls Tryz.prog 54 #[.float .f64 y] W fun e w' => e = .returned (.bool (decide (y = 0))) ∧ w' = W) := fun y hy W => rzero_any y hy W
  have HZ1 := HZ x.sum h.sum
  have HZ2 := HZ x.mn h.mn
  have HZ3 := HZ x.mx h.mx
  have hbx := newB11 w x (.slice la x.d.labels.length lc) (.slice ca x.cs.length cc) 45
  have hbl := bel1 w (.cells (vc x (.slice la x.d.labels.length lc) (.slice ca x.cs.length cc)) 45)
  obtain ⟨w0, hw0⟩ : ∃ w0, w.alloc (.cells (vc x (.slice la x.d.labels.length lc) (.slice ca x.cs.length cc)) 45) = w0 := ⟨_, rfl⟩
  have hw0' := hw0
  simp only [vc] at hw0'
  rw [hw0] at hbx hbl
  have hc0 := hc.below hbl
  have HMay : Hid (∀ _ : Unit, Calls Tryz.prog 55 #[.int .i64 p, .slice ca x.cs.length cc] w0 fun e w' => e = .returned (.int .i64 (mayE p x.cs)) ∧ ∃ n, w' = w0.drewN n) := fun _ => by
    obtain ⟨ao, b, o, cap, hv, hao, hr⟩ := hc0.sc
    cases hv
    exact rmay_is _ b o _ p x.cs hao h.cs (by have := h.cl; omega) (mayE_is p x.cs) w0 hr
  have HTot : Hid (∀ W, S1h w x (.slice la x.d.labels.length lc) (.slice ca x.cs.length cc) W → Calls Tryz.prog 56 #[.slice ca x.cs.length cc] W fun e w' => e = .returned (.int .u64 (tot x.cs : Nat)) ∧ w' = W) := fun W k => by
    obtain ⟨ao, b, o, cap, hv, hao, hr⟩ := k.2.2.c.sc
    cases hv
    exact rtotal_any _ b o _ x.cs hao h.cs (by have := h.cl; omega) W hr
  have HBt : Hid (mayE p x.cs = 0 → ∀ W, SN W (.slice ca x.cs.length cc) x.cs → Calls Tryz.prog 57 #[.int .i64 p, vx x (.slice la x.d.labels.length lc) (.slice ca x.cs.length cc)] W fun e w' => e = .returned (.bool (btw p x)) ∧ Below W.heap.size W w') := fun hm W hS => by
    have hM := mayE_is p x.cs
    rw [hm] at hM
    obtain ⟨P, rfl⟩ := Int.eq_ofNat_of_zero_le (by have := (may_ok hM).1; omega : 0 ≤ p)
    exact btw_any P x la ca lc cc h W hS hM
  have H1 : Hid (∀ W, _) := Re.dfin_any x.sum h.sum
  have H2 : Hid (∀ W, _) := Re.dfin_any x.mn h.mn
  have H3 : Hid (∀ W, _) := Re.dfin_any x.mx h.mx
  have H4 : Hid (∀ W, _) := Re.refcmp_any x.mn x.mx h.mn h.mx
  have HWZ := hid_of (words_zero h.t)
  have HKV := hid_of (⟨hbx, hl.below hbl, hc0, hbl⟩ : KV w w.heap.size x (.slice la x.d.labels.length lc) (.slice ca x.cs.length cc) w0)
  have HBl := hid_of hbl
  have HBx := hid_of hbx
  obtain ⟨c0, c1, c2, c3, c4, c5, c6, c7, c8, c9, c10⟩ := hbx
  obtain ⟨R, hR⟩ : ∃ R, R = holdB p x := ⟨_, rfl⟩
  rw [← hR]
  have HR := hid_of hR
  clear hl hc h HZ hw0 hbl hc0 hR
  go_enter Tryz.func30, Tryz.ntmps30
  go_upto_region 1 with fail
  clear hw0'
  go_cut [5] from 9 to 21 (fun y W => y = .bool (fz x) ∧ W = w0)
  case first =>
    clear HMay HTot HBt H1 H2 H3 H4 HWZ HR
    obtain ⟨a, ha⟩ : ∃ a, decide (x.sum = 0) = a := ⟨_, rfl⟩
    obtain ⟨b, hb⟩ : ∃ b, decide (x.mn = 0) = b := ⟨_, rfl⟩
    obtain ⟨c, hc⟩ : ∃ c, decide (x.mx = 0) = c := ⟨_, rfl⟩
    have HF : Hid (fz x = (a && b && c)) := by unfold Hid fz; rw [ha, hb, hc]
    rw [ha] at HZ1
    rw [hb] at HZ2
    rw [hc] at HZ3
    clear ha hb hc
    cases a <;> cases b <;> cases c
    all_goals
      go_wp2_with (go_at_call 54; (first | (with_reducible refine (HZ1.out _).mono ?_) | (with_reducible refine (HZ2.out _).mono ?_) | (with_reducible refine (HZ3.out _).mono ?_)); rintro e w0 ⟨rfl, rfl⟩)
      go_meet
      exact ⟨by rw [HF.out]; rfl, rfl⟩
  case rest =>
  obtain ⟨rfl, hwc⟩ := hcut
  rename_i wc
  obtain rfl : w0 = wc := hwc.symm
  clear HZ1 HZ2 HZ3
  go_upto_region 2 with fail
  go_cut [6] from 22 to 31 (fun y W => y = .bool (decide (x.t = 0)) ∧ W = w0)
  case first =>
    obtain ⟨a, ha⟩ : ∃ a, (hiOf x.t == 0) = a := ⟨_, rfl⟩
    obtain ⟨b, hb⟩ : ∃ b, (loOf x.t == 0) = b := ⟨_, rfl⟩
    have HF : Hid (decide (x.t = 0) = (a && b)) := by unfold Hid; rw [← HWZ.out, ha, hb]
    clear HMay HTot HBt H1 H2 H3 H4 HWZ HR
    cases a <;> cases b
    all_goals
      go_wp2_with fail
      go_meet
      exact ⟨by rw [HF.out]; rfl, rfl⟩
  case rest =>
  obtain ⟨rfl, hwc⟩ := hcut
  rename_i wc
  obtain rfl : w0 = wc := hwc.symm
  clear HWZ
  by_cases k1 : x.d.kind = 1
  · have k1' : (x.d.kind == 1) = true := by simpa using k1
    have HE := hid_of (HR.out.trans (holdB_c k1))
    clear HMay HTot HBt H1 H2 H3 H4 HR k1
    generalize fz x = z at *
    generalize decide (x.t = 0) = tz at *
    by_cases e1 : 0 ≤ hiOf x.t
    · rw [decide_eq_true e1, Bool.true_and] at HE
      by_cases e2 : x.cs.length = 0
      · rw [decide_eq_true e2, Bool.true_and] at HE
        have e2' : ((x.cs.length : Int) == 0) = true := by rw [beq_iff_eq]; omega
        by_cases e3 : x.n = 0
        · rw [decide_eq_true e3, Bool.true_and] at HE
          have e3' : ((x.n : Int) == 0) = true := by rw [beq_iff_eq]; omega
          clear e2 e3
          as_aux_lemma =>
            go_wp2_with fail
            go_ret
            exact ⟨retB HE.out.symm, HBl.out⟩
        · rw [decide_eq_false e3, Bool.false_and] at HE
          have e3' : ((x.n : Int) == 0) = false := by rw [beq_eq_false_iff_ne]; omega
          clear e2 e3
          as_aux_lemma =>
            go_wp2_with fail
            go_ret
            exact ⟨retB HE.out.symm, HBl.out⟩
      · rw [decide_eq_false e2, Bool.false_and, Bool.false_and] at HE
        have e2' : ((x.cs.length : Int) == 0) = false := by rw [beq_eq_false_iff_ne]; omega
        clear e2
        as_aux_lemma =>
          go_wp2_with fail
          go_ret
          exact ⟨retB HE.out.symm, HBl.out⟩
    · rw [decide_eq_false e1, Bool.false_and, Bool.false_and, Bool.false_and] at HE
      as_aux_lemma =>
        go_wp2_with fail
        go_ret
        exact ⟨retB HE.out.symm, HBl.out⟩
  · have k1' : (x.d.kind == 1) = false := by simpa using k1
    by_cases k2 : x.d.kind = 2
    · have k2' : (x.d.kind == 2) = true := by simpa using k2
      have HE := hid_of (HR.out.trans (holdB_h k1 k2))
      have HTs : Hid (∀ W, S1h w x (.slice la x.d.labels.length lc) (.slice ca x.cs.length cc) W → Calls Tryz.prog 56 #[.slice ca x.cs.length cc] W fun e w' => e = .returned (.int .u64 (tot x.cs : Nat)) ∧ w' = W) := HTot
      clear H1 H2 H3 H4 HR k1 k2
      generalize fz x = z at *
      generalize decide (x.t = 0) = tz at *
      generalize btw p x = bt0 at *
      generalize mayE p x.cs = me at *
      go_upto_region 8 with (go_at_call 55; with_reducible refine (HMay.out ()).mono ?_; rintro e w1 ⟨rfl, n1, rfl⟩)
      have hbm : Below w0.heap.size w0 (w0.drewN n1) := bel_drewNB (Below.refl _ _) _
      have HBm := hid_of hbm
      have hKm := HKV.out.below hbm
      have hG0 := (⟨hKm.box.c6, hKm.box.c7, hKm⟩ : S1h w x (.slice la x.d.labels.length lc) (.slice ca x.cs.length cc) (w0.drewN n1))
      clear HMay c0 c1 c2 c3 c4 c5 c6 c7 c8 c9 c10 hKm hbm HKV HBx
      generalize w0.drewN n1 = wm at *
      by_cases hm : me = 0
      · have hm' : (me != 0) = false := by simpa using hm
        have HBt2 := hid_of (HBt.out hm)
        have HTt : Hid (∀ W, S1h w x (.slice la x.d.labels.length lc) (.slice ca x.cs.length cc) W → Calls Tryz.prog 56 #[.slice ca x.cs.length cc] W fun e w' => e = .returned (.int .u64 (tot x.cs : Nat)) ∧ w' = W) := HTs
        rw [decide_eq_true hm, Bool.true_and] at HE
        clear HBt hm HTot
        by_cases hn : x.n = tot x.cs
        · rw [decide_eq_true hn, Bool.true_and] at HE
          have hn' : ((x.n : Int) != (tot x.cs : Int)) = false := by rw [bne_eq_false_iff_eq]; omega
          clear hn
          generalize tot x.cs = tt at *
          cases z
          · rw [Bool.and_false] at HE
            go_region_held3 (fun W => W.cell? ⟨w.heap.size, 6, none⟩ = some (.slice ca x.cs.length cc) ∧ W.cell? ⟨w.heap.size, 7, none⟩ = some (.int .u64 (x.n : Int)) ∧ KV w w.heap.size x (.slice la x.d.labels.length lc) (.slice ca x.cs.length cc) W)
              (first | assumption | exact keepK (by assumption) (by assumption) | exact keepK (drew_bel _) hG0)
              (first | (go_at_call 56; with_reducible refine (HTt.out _ (by first | assumption | exact keepK (drew_bel _) hG0)).mono ?_; rintro e w2 ⟨rfl, rfl⟩))
            rename_i hG1
            go_wp2_with fail
            go_ret
            exact ⟨retB HE.out.symm, hG1.2.2.bl⟩
          · rw [Bool.and_true] at HE
            go_region_held3 (fun W => W.cell? ⟨w.heap.size, 6, none⟩ = some (.slice ca x.cs.length cc) ∧ W.cell? ⟨w.heap.size, 7, none⟩ = some (.int .u64 (x.n : Int)) ∧ KV w w.heap.size x (.slice la x.d.labels.length lc) (.slice ca x.cs.length cc) W)
              (first | assumption | exact keepK (by assumption) (by assumption) | exact keepK (drew_bel _) hG0)
              (first | (go_at_call 56; with_reducible refine (HTt.out _ (by first | assumption | exact keepK (drew_bel _) hG0)).mono ?_; rintro e w2 ⟨rfl, rfl⟩))
            rename_i hG1
            have HK1 := hid_of hG1.2.2
            obtain ⟨d0, d1, d2, d3, d4, d5, d6, d7, d8, d9, d10⟩ := hG1.2.2.box
            clear hG0 hG1 HTt
            go_wp2_with (go_at_call 57; with_reducible refine (HBt2.out _ HK1.out.c).mono ?_; rintro e w3 ⟨rfl, hb3⟩)
            go_ret
            exact ⟨retB HE.out.symm, bt HK1.out.bl hb3⟩
        · rw [decide_eq_false hn, Bool.false_and, Bool.false_and] at HE
          have hn' : ((x.n : Int) != (tot x.cs : Int)) = true := by rw [bne_iff_ne]; omega
          clear hn
          generalize tot x.cs = tt at *
          have hG0d := keepK (drew_bel _) hG0
          have HGd := hid_of hG0d
          obtain ⟨p6, p7, _⟩ := hG0d
          first
            | (go_region_with (first | (go_at_call 56; with_reducible refine (HTt.out _ HGd.out).mono ?_; rintro e w2 ⟨rfl, rfl⟩)))
            | fail
          all_goals
            go_wp2_with fail
            go_ret
            exact ⟨retB HE.out.symm, HGd.out.2.2.bl⟩
      · have hm' : (me != 0) = true := by simpa using hm
        rw [decide_eq_false hm, Bool.false_and, Bool.false_and, Bool.false_and] at HE
        clear HBt hm HTot
        first
          | (go_region_with fail)
          | fail
        all_goals
          go_wp2_with fail
          go_ret
          exact ⟨retB HE.out.symm, by first | exact hG0.2.2.bl | exact bt hG0.2.2.bl (drew_bel _)⟩
    · have k2' : (x.d.kind == 2) = false := by simpa using k2
      have HE := hid_of (HR.out.trans (holdB_s k1 k2))
      clear HMay HTot HBt HR k1 k2
      generalize decide (x.t = 0) = tz at *
      unfold flB at HE
      generalize fz x = z at *
      cases tz
      · rw [Bool.false_and, Bool.false_and] at HE
        clear H1 H2 H3 H4
        as_aux_lemma =>
          go_wp2_with fail
          go_ret
          exact ⟨retB HE.out.symm, HBl.out⟩
      · rw [Bool.true_and] at HE
        by_cases e2 : x.cs.length = 0
        · rw [decide_eq_true e2, Bool.true_and] at HE
          have e2' : decide (0 < x.cs.length) = false := decide_eq_false (by omega)
          clear e2
          by_cases e3 : 9223372036854775807 < x.n
          · rw [if_pos e3] at HE
            have e3' : (9223372036854775807 : Int) < (x.n : Int) := by omega
            clear H1 H2 H3 H4
            as_aux_lemma =>
              go_wp2_with fail
              go_ret
              exact ⟨retB HE.out.symm, HBl.out⟩
          · rw [if_neg e3] at HE
            have e3' : ¬ (9223372036854775807 : Int) < (x.n : Int) := by omega
            by_cases e4 : x.n = 0
            · rw [if_pos e4] at HE
              have e4' : ((x.n : Int) == 0) = true := by rw [beq_iff_eq]; omega
              clear H1 H2 H3 H4 e3 e4
              as_aux_lemma =>
                go_wp2_with fail
                go_ret
                exact ⟨retB HE.out.symm, HBl.out⟩
            · rw [if_neg e4] at HE
              have e4' : ((x.n : Int) == 0) = false := by rw [beq_eq_false_iff_ne]; omega
              clear e3 e4
              generalize Re.finF x.sum = a at *
              generalize Re.finF x.mn = b at *
              generalize Re.finF x.mx = c at *
              generalize Re.sg (Re.rk x.mn) (Re.rk x.mx) = d at *
              cases a <;> cases b <;> cases c
              all_goals as_aux_lemma =>
                go_wp2_with (first
                  | (go_at_call 58; (first | (with_reducible refine (H1.out _).mono ?_) | (with_reducible refine (H2.out _).mono ?_) | (with_reducible refine (H3.out _).mono ?_)); rintro e w0 ⟨rfl, rfl⟩)
                  | (go_at_call 59; with_reducible refine (H4.out _).mono ?_; rintro e w0 ⟨rfl, rfl⟩))
                go_ret
                exact ⟨retB HE.out.symm, HBl.out⟩
        · rw [decide_eq_false e2, Bool.false_and] at HE
          have e2' : decide (0 < x.cs.length) = true := decide_eq_true (by omega)
          clear H1 H2 H3 H4 e2
          as_aux_lemma =>
            go_wp2_with fail
            go_ret
            exact ⟨retB HE.out.symm, HBl.out⟩
end Go.Proofs.YtckdkcnnfjbdmaaGreat
