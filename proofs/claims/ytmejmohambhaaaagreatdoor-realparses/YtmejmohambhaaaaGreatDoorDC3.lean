/- leftShift. Own work of the verifier. -/
import Derived.Test.YtmejmohambhaaaaGreatDoorDC2
namespace Go.Proofs.YtmejmohambhaaaaGreatDoor
open Go.RowKit

/-- Digits that are digits, the first of them no nought. -/
structure Good (D : Nat → Nat) (n : Nat) : Prop where
  pos : 1 ≤ n
  top : n ≤ 800
  dig : ∀ i, i < n → 48 ≤ D i ∧ D i ≤ 57
  fst : 49 ≤ D 0
/-- The table of the shifts to the left lies below block g. -/
def CheatB (g : Nat) (w : World) : Prop := 9 < g ∧ ∃ b o c, b < g ∧ w.cell? ⟨9, 0, none⟩ = some (.slice (some ⟨b, o, none⟩) 61 c) ∧ ∀ k, k < 61 → w.cell? ⟨b, o + k * 2, none⟩ = some (.int .i64 (chD k : Int)) ∧ w.cell? ⟨b, o + k * 2 + 1, none⟩ = some (.string ⟨(chS k).toArray⟩)
theorem CheatB.below {g : Nat} {w w' : World} (h : CheatB g w) (hb : Below g w w') : CheatB g w' := by
  obtain ⟨h0, b, o, c, h1, h2, h3⟩ := h
  have e : ∀ x y, x < g → w'.cell? ⟨x, y, none⟩ = w.cell? ⟨x, y, none⟩ := fun x y hx => hb.cell (p := ⟨x, y, none⟩) hx
  exact ⟨h0, b, o, c, h1, by rw [e _ _ h0]; exact h2, fun k hk => ⟨by rw [e _ _ h1]; exact (h3 k hk).1, by rw [e _ _ h1]; exact (h3 k hk).2⟩⟩
/-- What the first loop keeps: ahead the old digits, behind the new ones. -/
structure LI (D E : Nat → Nat) (n e j : Nat) : Prop where
  old : ∀ i, i < n - j → E i = D i
  new : ∀ i, n + e - j ≤ i → i < n + e → i < 800 → 48 ≤ E i ∧ E i ≤ 57
  fst : e = 0 → j = n → D 0 < E 0
theorem LI.step {D E : Nat → Nat} {n e j m v : Nat} (h : LI D E n e j) (hm : n = m + 1 + j) (hv : 48 ≤ v ∧ v ≤ 57) (h0 : e = 0 → m = 0 → D 0 < v) : LI D (upd E (m + e) v) n e (j + 1) := by
  refine ⟨fun i hi => ?_, fun i h1 h2 h3 => ?_, fun he hj => ?_⟩
  · rw [upd_other E _ _ (by omega)]; exact h.old i (by omega)
  · by_cases c : i = m + e
    · subst c; rw [upd_same]; exact hv
    · rw [upd_other E _ _ c]; exact h.new i (by omega) h2 h3
  · obtain rfl : m = 0 := by omega
    subst he
    rw [show 0 + 0 = 0 from rfl, upd_same]; exact h0 rfl rfl
theorem LI.skip {D E : Nat → Nat} {n e j m : Nat} (h : LI D E n e j) (hm : n = m + 1 + j) (h8 : ¬ m + e < 800) : LI D E n e (j + 1) :=
  ⟨fun i hi => h.old i (by omega), fun i h1 h2 h3 => by omega, fun he hj => by omega⟩
/-- What the second loop keeps. -/
structure LJ (D E : Nat → Nat) (n e f : Nat) : Prop where
  new : ∀ i, f ≤ i → i < n + e → i < 800 → 48 ≤ E i ∧ E i ≤ 57
  fst : f = 0 → 49 ≤ E 0 ∧ (e = 0 → D 0 < E 0)
theorem LJ.step {D E : Nat → Nat} {n e f v : Nat} (h : LJ D E n e (f + 1)) (hf : f + 1 ≤ e) (hv : 48 ≤ v ∧ v ≤ 57) (h0 : f = 0 → 49 ≤ v) : LJ D (upd E f v) n e f := by
  refine ⟨fun i h1 h2 h3 => ?_, fun hz => ⟨?_, fun he => by omega⟩⟩
  · by_cases c : i = f
    · subst c; rw [upd_same]; exact hv
    · rw [upd_other E _ _ c]; exact h.new i (by omega) h2 h3
  · subst hz; rw [upd_same]; exact h0 rfl
/-- What a shift to the left leaves. -/
def Lefted (g : Nat) (D : Nat → Nat) (dp : Int) (ng : Bool) (w w' : World) : Prop :=
  ∃ E m dp' tr', DecAt g E m dp' ng tr' w' ∧ Good E m ∧ (dp < dp' ∨ dp = dp' ∧ D 0 < E 0) ∧ dp' ≤ dp + 20 ∧ Below g w w'
theorem mul_cast' (a n : Nat) : (a : Int) * 2 ^ n = ((a * 2 ^ n : Nat) : Int) := by rw [Int.natCast_mul, Int.natCast_pow]; rfl
set_option maxHeartbeats 4000000 in
set_option maxRecDepth 100000 in
theorem left_any (g : Nat) (D : Nat → Nat) (n k : Nat) (dp : Int) (ng tr : Bool) (hG : Good D n) (k0 : 1 ≤ k) (k1 : k ≤ 60) (d0 : -1000000000000 ≤ dp) (d1 : dp ≤ 1000000000000) (w : World) (h : DecAt g D n dp ng tr w) (hC : CheatB g w) :
    Calls Tryz.prog 104 #[.pointer (some ⟨g, 0, none⟩), .int .u64 (k : Int)] w fun e w' => e = .returned (.tuple #[]) ∧ Lefted g D dp ng w w' := by
  obtain ⟨hg0, b, o, c, hbg, s0, s1⟩ := hC
  obtain ⟨s2, s3⟩ := s1 k (by omega)
  clear s1
  have hn := hG.top
  have hn1 := hG.pos
  have hk := cheats k k0 k1
  have hfew := hk.few
  have hone := hk.one
  have HG : Hid _ := hG
  have HB : Hid (∀ less : Bool, less = decide (pv D n * 10 ^ (chS k).length < 5 ^ k * 10 ^ n) → cr D n k n < 10 ^ (chD k - b2nn less) ∧ (1 ≤ chD k - b2nn less → 10 ^ (chD k - b2nn less - 1) ≤ cr D n k n)) := fun less hle => by
    have := delta_ok D n k less hG.pos (fun i hi => (hG.dig i hi).2) hG.fst k0 k1 (fun h => by rw [hle] at h; exact of_decide_eq_true h) (fun h => by rw [hle] at h; exact Nat.le_of_not_lt (of_decide_eq_false h))
    exact carry_ok D n k _ this.1 this.2
  have HP : Hid (∀ q, Calls Tryz.prog 130 #[.slice (some ⟨g, 0, none⟩) n 800, .string ⟨(chS k).toArray⟩] (w.drewN q) fun e w' => e = .returned (.bool (decide (pv D n * 10 ^ (chS k).length < 5 ^ k * 10 ^ n))) ∧ ∃ m, w' = (w.drewN q).drewN m) := fun q => less_any g D n k dp ng tr hG.top hG.dig k0 k1 _ (h.drewN q)
  have c1 := h.nd
  have hAL : Tryz.prog.arrayLen 88 = 800 := by kernel_rfl
  have hn8 : (n : Int) ≤ 800 := by omega
  clear hG hk
  have hk61 : (k : Int) < 61 := by omega
  generalize chD k = d at *
  generalize chS k = s at *
  generalize hless : decide (pv D n * 10 ^ s.length < 5 ^ k * 10 ^ n) = less at *
  go_enter Tryz.func104, Tryz.ntmps104
  go_wp2_with fail
  go_quiet (first
    | (go_at_call 130; exact Calls.quiet_of (HP.out _))
    | fail)
  go_upto_if 30 with fail
  go_cut [4] from 12 (fun v W => ∃ e : Nat, v = .int .i64 (e : Int) ∧ e ≤ 19 ∧ Hid (cr D n k n < 10 ^ e ∧ (1 ≤ e → 10 ^ (e - 1) ≤ cr D n k n)) ∧ Below w.heap.size w W)
  case first =>
    as_aux_lemma =>
      cases less
      · go_wp2_with fail
        go_meet
        exact ⟨d, rfl, hfew, HB.out false rfl, Below.drewN' (Below.refl _ _) _⟩
      · go_wp2_with fail
        go_meet
        exact ⟨d - 1, by go_num, by omega, HB.out true rfl, Below.drewN' (Below.refl _ _) _⟩
  case rest =>
  obtain ⟨e, rfl, he, hcr, hbW⟩ := hcut
  have H : Hid _ := h.below hbW
  have hgl := h.lt
  clear HB HP c1 h hless hAL s0 s2 s3 hbg hg0 hfew hone hk61
  have c1 := H.out.nd
  have f1 := H.out.fr
  go_wp2_with fail
  go_loopw [5, 6, 7, 8, 9] (fun r wv nn _ _ wr => ∃ (j : Nat) (E : Nat → Nat) (t : Bool), j ≤ n ∧ r = .int .i64 ((n : Int) - 1 - (j : Int)) ∧ wv = .int .i64 (((n + e - j : Nat)) : Int) ∧ nn = .int .u64 (cr D n k j : Int) ∧ Hid (DecAt g E n dp ng t wr) ∧ Hid (LI D E n e j) ∧ Below g w wr) (fun r _ _ _ _ _ => (intOf r + 1).toNat)
  case atStart => 
    refine ⟨0, D, tr, by omega, by simp, by simp, rfl, H, ⟨fun _ _ => rfl, fun i h1 h2 => by omega, fun _ h => by omega⟩, hbW.mono (by omega)⟩
  case round =>
    obtain ⟨j, E, t, hj, rfl, rfl, rfl, hI, hL, hb⟩ := hrel
    by_cases hlt : j < n
    · obtain ⟨m, hm⟩ : ∃ m, n = m + 1 + j := ⟨n - 1 - j, by omega⟩
      have hr : (n : Int) - 1 - (j : Int) = (m : Int) := by omega
      have hw : (((n + e - j : Nat)) : Int) = (m : Int) + (e : Int) + 1 := by omega
      have hEm : E m = D m := hL.out.old m (by omega)
      have hdm := HG.out.dig m (by omega)
      have hc := cr_lt D n k (fun i hi => (HG.out.dig i hi).2) j (by omega)
      have h60 : 2 ^ k ≤ 2 ^ 60 := Nat.pow_le_pow_right (by decide) k1
      have hX9 : (D m - 48) * 2 ^ k ≤ 9 * 2 ^ k := Nat.mul_le_mul_right _ (by omega)
      have hX : ((D m : Int) - 48) * 2 ^ k = (((D m - 48) * 2 ^ k : Nat) : Int) := by rw [← mul_cast']; congr 1; omega
      have hS : cr D n k (j + 1) = ((D m - 48) * 2 ^ k + cr D n k j) / 10 := by show ((D (n - 1 - j) - 48) * 2 ^ k + cr D n k j) / 10 = _; rw [show n - 1 - j = m from by omega]
      have hD0 : m = 0 → D 0 - 48 < (D m - 48) * 2 ^ k := fun h => by
        subst h
        have : 2 ^ 1 ≤ 2 ^ k := Nat.pow_le_pow_right (by decide) k0
        have h1 := HG.out.fst
        have := Nat.mul_le_mul_left (D 0 - 48) this
        omega
      rw [hr, hw]
      have c2 := hI.out.dig m (by omega)
      rw [hEm] at c2
      have HS : Hid _ := hS
      have HD0 : Hid _ := hD0
      generalize (D m - 48) * 2 ^ k = X at *
      generalize cr D n k j = c0 at *
      generalize 2 ^ k = K2 at *
      clear hr hw hEm hS hD0
      by_cases hwl : m + e < 800
      · have hwl' : (m : Int) + (e : Int) < 800 := by omega
        have c3 := hI.out.dig (m + e) hwl
        have f3 := hI.out.fr (m + e)
        as_aux_lemma =>
          go_wp2_with fail
          have hv : ((c0 : Int) + (X : Int) - 10 * (((c0 : Int) + (X : Int)) / 10) + 48) = ((48 + (c0 + X) % 10 : Nat) : Int) := by omega
          rw [hv]
          refine ⟨⟨j + 1, upd E (m + e) (48 + (c0 + X) % 10), t, by omega, ?_, ?_, ?_, hI.out.setDig _ _ hwl, hL.out.step hm (by omega) (fun h1 h2 => ?_), hb.setCell (Nat.le_refl _) _⟩, by simp [intOf]⟩
          · congr 1; omega
          · congr 1; omega
          · rw [HS.out]; congr 1; omega
          · have := HD0.out h2
            have h3 := hcr.out.1
            subst h1
            rw [show n = j + 1 from by omega] at h3
            rw [show n = j + 1 from by omega] at HS
            rw [HS.out] at h3
            omega
      · have hwl' : ¬ (m : Int) + (e : Int) < 800 := by omega
        have c3 := hI.out.tr
        have f3 := hI.out.fr 803
        as_aux_lemma =>
          go_wp2_with fail
          · refine ⟨⟨j + 1, E, true, by omega, ?_, ?_, ?_, hI.out.setTr true, hL.out.skip hm hwl, hb.setCell (Nat.le_refl _) _⟩, by simp [intOf]⟩
            · congr 1; omega
            · congr 1; omega
            · rw [HS.out]; congr 1; omega
          · refine ⟨⟨j + 1, E, t, by omega, ?_, ?_, ?_, hI, hL.out.skip hm hwl, hb⟩, by simp [intOf]⟩
            · congr 1; omega
            · congr 1; omega
            · rw [HS.out]; congr 1; omega
    · obtain rfl : j = n := by omega
      have hr : (j : Int) - 1 - (j : Int) = -1 := by omega
      have hw : (((j + e - j : Nat)) : Int) = (e : Int) := by omega
      rw [hr, hw]
      have hc60 := cr_lt D j k (fun i hi => (HG.out.dig i hi).2) j (by omega)
      have h60 : 2 ^ k ≤ 2 ^ 60 := Nat.pow_le_pow_right (by decide) k1
      have hJ : LJ D E j e e := ⟨fun i h1 h2 h3 => hL.out.new i (by omega) h2 h3, fun h => ⟨by have := hL.out.fst h rfl; have := HG.out.fst; omega, fun h' => hL.out.fst h' rfl⟩⟩
      have HJ : Hid _ := hJ
      obtain ⟨q1, q2⟩ := hcr.out
      have Q1 : Hid _ := q1
      have Q2 : Hid _ := q2
      generalize cr D j k j = C at *
      generalize 2 ^ k = K2 at *
      have hC64 : C < 18446744073709551616 := by omega
      clear hr hw hJ hL H hcr q1 q2 c1 f1 h60 hc60
      as_aux_lemma =>
        go_wp2_with fail
        go_loopw [6, 7, 10, 11] (fun wv nn _ _ wr' => ∃ (f c : Nat) (E : Nat → Nat) (t : Bool), f ≤ e ∧ wv = .int .i64 (f : Int) ∧ nn = .int .u64 (c : Int) ∧ c < 18446744073709551616 ∧ Hid (c < 10 ^ f) ∧ Hid (1 ≤ f → 10 ^ (f - 1) ≤ c) ∧ Hid (DecAt g E j dp ng t wr') ∧ Hid (LJ D E j e f) ∧ Below g w wr') (fun wv _ _ _ _ => (intOf wv).toNat)
        case atStart => exact ⟨e, C, E, t, by omega, rfl, rfl, hC64, Q1, Q2, hI, HJ, hb⟩
        case round =>
          clear Q1 Q2 hI HJ hb hC64
          obtain ⟨f, c, E, t, hf, rfl, rfl, hc64, Q1, Q2, hI, hJ, hb⟩ := hrel
          rcases Nat.eq_zero_or_pos c with rfl | hcp
          · have hf0 : f = 0 := by
              rcases Nat.eq_zero_or_pos f with h | h
              · exact h
              · have := Q2.out h
                have : 0 < 10 ^ (f - 1) := Nat.pow_pos (by decide)
                omega
            subst hf0
            have c1 := hI.out.nd
            have c2 := hI.out.dp
            have f1 := hI.out.fr 800
            have f2 := hI.out.fr 801
            obtain ⟨z1, z2⟩ := hJ.out.fst rfl
            have Z2 : Hid _ := z2
            clear z2 Q1 Q2 hc64
            by_cases h8 : j + e < 800
            · have h8' : ¬ (800 : Int) ≤ (j : Int) + (e : Int) := by omega
              have HD : Hid (DecAt g E (j + e) (dp + (e : Int)) ng t ((wr.setCell ⟨g, 800, none⟩ (.int .i64 ((j : Int) + (e : Int)))).setCell ⟨g, 801, none⟩ (.int .i64 (dp + (e : Int))))) := by
                have := (hI.out.setNd (j + e)).setDp (dp + (e : Int))
                rw [show (((j + e : Nat)) : Int) = (j : Int) + (e : Int) from by omega] at this
                exact this
              have HB' : Hid (Below g w ((wr.setCell ⟨g, 800, none⟩ (.int .i64 ((j : Int) + (e : Int)))).setCell ⟨g, 801, none⟩ (.int .i64 (dp + (e : Int))))) := (hb.setCell (Nat.le_refl _) _).setCell (Nat.le_refl _) _
              as_aux_lemma =>
                go_wp2_with (first
                  | (go_at_call 103; with_reducible refine (trim_any g E (j + e) (dp + (e : Int)) ng t (by omega) _ HD.out).mono ?_; rintro e' w' ⟨rfl, ht⟩)
                  | fail)
                refine bodyPost_end (results_none rfl _ _ _) rfl ?_
                obtain ⟨m, dp', hd, hm, hp, hbt⟩ := ht
                obtain ⟨hm1, rfl⟩ := hp (by omega) (by omega)
                refine ⟨rfl, E, m, _, t, hd, ⟨hm1, by omega, fun i hi => hJ.out.new i (by omega) (by omega) (by omega), z1⟩, ?_, by omega, HB'.out.trans hbt⟩
                rcases Nat.eq_zero_or_pos e with h0 | h0
                · exact Or.inr ⟨by omega, Z2.out h0⟩
                · exact Or.inl (by omega)
            · have h8' : (800 : Int) ≤ (j : Int) + (e : Int) := by omega
              have HD : Hid (DecAt g E 800 (dp + (e : Int)) ng t (((wr.setCell ⟨g, 800, none⟩ (.int .i64 ((j : Int) + (e : Int)))).setCell ⟨g, 800, none⟩ (.int .i64 800)).setCell ⟨g, 801, none⟩ (.int .i64 (dp + (e : Int))))) := by
                have := ((hI.out.setNd (j + e)).setNd 800).setDp (dp + (e : Int))
                rw [show (((j + e : Nat)) : Int) = (j : Int) + (e : Int) from by omega] at this
                exact this
              have HB' : Hid (Below g w (((wr.setCell ⟨g, 800, none⟩ (.int .i64 ((j : Int) + (e : Int)))).setCell ⟨g, 800, none⟩ (.int .i64 800)).setCell ⟨g, 801, none⟩ (.int .i64 (dp + (e : Int))))) := ((hb.setCell (Nat.le_refl _) _).setCell (Nat.le_refl _) _).setCell (Nat.le_refl _) _
              as_aux_lemma =>
                go_wp2_with (first
                  | (go_at_call 103; with_reducible refine (trim_any g E 800 (dp + (e : Int)) ng t (by omega) _ HD.out).mono ?_; rintro e' w' ⟨rfl, ht⟩)
                  | fail)
                refine bodyPost_end (results_none rfl _ _ _) rfl ?_
                obtain ⟨m, dp', hd, hm, hp, hbt⟩ := ht
                obtain ⟨hm1, rfl⟩ := hp (by omega) (by omega)
                refine ⟨rfl, E, m, _, t, hd, ⟨hm1, by omega, fun i hi => hJ.out.new i (by omega) (by omega) (by omega), z1⟩, ?_, by omega, HB'.out.trans hbt⟩
                rcases Nat.eq_zero_or_pos e with h0 | h0
                · exact Or.inr ⟨by omega, Z2.out h0⟩
                · exact Or.inl (by omega)
          · have hcp' : (0 : Int) < (c : Int) := by omega
            obtain ⟨f', rfl⟩ : ∃ f', f = f' + 1 := by
              rcases Nat.eq_zero_or_pos f with h | h
              · subst h; have := Q1.out; omega
              · exact ⟨f - 1, by omega⟩
            have c3 := hI.out.dig f' (by omega)
            have f3 := hI.out.fr f'
            as_aux_lemma =>
              go_wp2_with fail
              have hv : ((c : Int) - 10 * ((c : Int) / 10) + 48) = ((48 + c % 10 : Nat) : Int) := by omega
              rw [hv]
              have q1 : c < 10 ^ f' * 10 := Q1.out
              have q2 : 10 ^ f' ≤ c := Q2.out (by omega)
              refine ⟨⟨f', c / 10, upd E f' (48 + c % 10), t, by omega, rfl, by congr 1, by omega, ?_, fun h1 => ?_, hI.out.setDig _ _ (by omega), hJ.out.step (by omega) (by omega) (fun h0 => ?_), hb.setCell (Nat.le_refl _) _⟩, by simp [intOf]⟩
              · show c / 10 < 10 ^ f'
                omega
              · rw [show f' = f' - 1 + 1 from by omega, Nat.pow_succ] at q2
                omega
              · subst h0
                rw [Nat.pow_zero] at q1 q2
                omega
end Go.Proofs.YtmejmohambhaaaaGreatDoor
