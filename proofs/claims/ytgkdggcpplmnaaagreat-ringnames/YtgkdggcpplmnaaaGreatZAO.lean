/- WHAT A VALUE HOLDS: holds, the code's. Own work of the verifier. -/
import Derived.Test.YtgkdggcpplmnaaaGreatZAN
namespace Go.Proofs.YtgkdggcpplmnaaaGreat
open Go.RowKit Me

theorem mayE_set (p : Int) (C : List Cn) : mayE p C = 0 ∨ mayE p C = 1 ∨ mayE p C = 2 ∨ mayE p C = 3 ∨ mayE p C = 15 ∨ mayE p C = 16 := by
  have hb : ∀ N i, bad N C i = 0 ∨ bad N C i = 2 ∨ bad N C i = 15 ∨ bad N C i = 16 := fun N i => by
    unfold bad
    split
    · simp
    · split
      · simp
      · split <;> simp
  rcases mayE_is p C with ⟨_, h⟩ | ⟨_, ⟨i, _, _, _, h⟩ | ⟨_, h⟩⟩
  · omega
  · have := hb ((64 - p.toNat) * 2 ^ p.toNat) i
    omega
  · split at h <;> omega
set_option maxRecDepth 100000 in
set_option maxHeartbeats 4000000 in
theorem hcounts_any (p : Int) (x : Vl) (la ca : Option Addr) (lc cc : Nat) (h : VW x) (w : World) (hl : SLb w (.slice la x.d.labels.length lc) x.d.labels) (hc : SN w (.slice ca x.cs.length cc) x.cs) :
    Calls Tryz.prog 54 #[.int .i64 p, vx x (.slice la x.d.labels.length lc) (.slice ca x.cs.length cc)] w fun e w' => e = .returned (.bool (cntB p x)) ∧ Below w.heap.size w w' := by
  have hm := mayE_is p x.cs
  by_cases h0 : mayE p x.cs = 0
  · rw [h0] at hm
    have hp := (may_ok hm).1
    obtain ⟨P, rfl⟩ := Int.eq_ofNat_of_zero_le (by omega : 0 ≤ p)
    by_cases hn : x.n = tot x.cs
    · have e : cntB (P : Int) x = btw (P : Int) x := by unfold cntB; rw [decide_eq_true h0, decide_eq_true hn]; rfl
      rw [e]
      exact hc_loop P x la ca lc cc h w hl hc hm hn
    · have e : cntB (P : Int) x = false := by unfold cntB; rw [decide_eq_true h0, decide_eq_false hn]; rfl
      rw [e]
      have HMay : Hid (∀ W, S1h w x (.slice la x.d.labels.length lc) (.slice ca x.cs.length cc) W → Calls Tryz.prog 73 #[.int .i64 (P : Int), .slice ca x.cs.length cc] W fun e w' => e = .returned (.int .i64 0) ∧ Below W.heap.size W w') := fun W k => may_any W _ _ _ 0 k.2.2.c h.cs h.cl hm
      have HTot : Hid (∀ W, S1h w x (.slice la x.d.labels.length lc) (.slice ca x.cs.length cc) W → Calls Tryz.prog 74 #[.slice ca x.cs.length cc] W fun e w' => e = .returned (.int .u64 (tot x.cs : Nat)) ∧ Below W.heap.size W w') := fun W k => total_any W _ _ k.2.2.c h.cs h.cl
      have HK0 : Hid (∀ T, KV w w.heap.size x (.slice la x.d.labels.length lc) (.slice ca x.cs.length cc) (w.alloc (.cells (vc x (.slice la x.d.labels.length lc) (.slice ca x.cs.length cc)) T))) := fun T => KV.new hl hc T
      have hn' : ((x.n : Int) != (tot x.cs : Int)) = true := by rw [bne_iff_ne]; omega
      clear hl hc hm h e h0 hn
      generalize tot x.cs = tt at *
      as_aux_lemma =>
      go_enter Tryz.func54, Tryz.ntmps54
      go_upto_region 1 with fail
      have hK := HK0.out 45
      obtain ⟨w0, hw0⟩ : ∃ w0, w.alloc (.cells (vc x (.slice la x.d.labels.length lc) (.slice ca x.cs.length cc)) 45) = w0 := ⟨_, rfl⟩
      have hw0' := hw0
      simp only [vc] at hw0'
      rw [hw0] at hK
      rw [hw0']
      have hG0 := (⟨hK.box.c6, hK.box.c7, hK⟩ : S1h w x (.slice la x.d.labels.length lc) (.slice ca x.cs.length cc) w0)
      clear hw0 hw0' HK0 hK
      go_region_held3 (fun W => W.cell? ⟨w.heap.size, 6, none⟩ = some (.slice ca x.cs.length cc) ∧ W.cell? ⟨w.heap.size, 7, none⟩ = some (.int .u64 (x.n : Int)) ∧ KV w w.heap.size x (.slice la x.d.labels.length lc) (.slice ca x.cs.length cc) W)
        (first | assumption | exact keepK (by assumption) (by assumption) | exact keepK (drew_bel _) hG0)
        (first
          | (go_at_call 73; with_reducible refine (HMay.out _ (by first | assumption | exact keepK (by assumption) (by assumption) | exact keepK (drew_bel _) hG0)).mono ?_; rintro e w1 ⟨rfl, hb1⟩)
          | (go_at_call 74; with_reducible refine (HTot.out _ (by first | assumption | exact keepK (by assumption) (by assumption) | exact keepK (drew_bel _) hG0)).mono ?_; rintro e w2 ⟨rfl, hb2⟩))
      rename_i hG1
      go_wp2_with fail
      go_ret
      exact ⟨rfl, hG1.2.2.bl⟩
  · have e : cntB p x = false := by unfold cntB; rw [decide_eq_false h0]; rfl
    rw [e]
    have HMay : Hid (∀ W, S1h w x (.slice la x.d.labels.length lc) (.slice ca x.cs.length cc) W → Calls Tryz.prog 73 #[.int .i64 p, .slice ca x.cs.length cc] W fun e w' => e = .returned (.int .i64 (mayE p x.cs)) ∧ Below W.heap.size W w') := fun W k => may_any W _ _ _ _ k.2.2.c h.cs h.cl hm
    have HK0 : Hid (∀ T, KV w w.heap.size x (.slice la x.d.labels.length lc) (.slice ca x.cs.length cc) (w.alloc (.cells (vc x (.slice la x.d.labels.length lc) (.slice ca x.cs.length cc)) T))) := fun T => KV.new hl hc T
    have hset := mayE_set p x.cs
    clear hl hc hm h e
    generalize mayE p x.cs = tt at *
    rcases hset with e | e | e | e | e | e
    · exact absurd e h0
    all_goals
     subst e
     clear h0
     as_aux_lemma =>
      go_enter Tryz.func54, Tryz.ntmps54
      go_upto_region 1 with fail
      have hK := HK0.out 45
      obtain ⟨w0, hw0⟩ : ∃ w0, w.alloc (.cells (vc x (.slice la x.d.labels.length lc) (.slice ca x.cs.length cc)) 45) = w0 := ⟨_, rfl⟩
      have hw0' := hw0
      simp only [vc] at hw0'
      rw [hw0] at hK
      rw [hw0']
      have hG0 := (⟨hK.box.c6, hK.box.c7, hK⟩ : S1h w x (.slice la x.d.labels.length lc) (.slice ca x.cs.length cc) w0)
      clear hw0 hw0' HK0 hK
      have hG0d := keepK (drew_bel _) hG0
      obtain ⟨p6, p7, _⟩ := hG0d
      first
        | (go_region_with (go_at_call 73; with_reducible refine (HMay.out _ (keepK (drew_bel _) hG0)).mono ?_; rintro e w1 ⟨rfl, hb1⟩; have hbl := hb1))
        | fail
      all_goals
        go_wp2_with fail
        go_ret
        exact ⟨rfl, bt (bt hG0.2.2.bl (drew_bel _)) hb1⟩
/-- The floats of a summary. -/
def flB (x : Vl) : Bool := if 9223372036854775807 < x.n then false else if x.n = 0 then fz x else Re.finF x.sum && Re.finF x.mn && Re.finF x.mx && decide (Re.sg (Re.rk x.mn) (Re.rk x.mx) ≤ 0)
set_option maxRecDepth 100000 in
set_option maxHeartbeats 4000000 in
theorem hfloats_any (x : Vl) (lv cv : Value) (h : VW x) (w : World) :
    Calls Tryz.prog 55 #[vx x lv cv] w fun e w' => e = .returned (.bool (flB x)) ∧ Below w.heap.size w w' := by
  unfold flB
  have HN : Hid (∀ W, _) := nofl_any x lv cv h
  have HB : Hid (∀ T, B11 (w.alloc (.cells (vc x lv cv) T)) w.heap.size x lv cv) := fun T => newB11 w x lv cv T
  by_cases h1 : 9223372036854775807 < x.n
  · rw [if_pos h1]
    have h1' : (9223372036854775807 : Int) < (x.n : Int) := by omega
    clear HN HB h
    as_aux_lemma =>
      go_enter Tryz.func55, Tryz.ntmps55
      go_wp2_with fail
      go_ret
      exact ⟨rfl, bel1 w _⟩
  · rw [if_neg h1]
    have h1' : ¬ (9223372036854775807 : Int) < (x.n : Int) := by omega
    by_cases h2 : x.n = 0
    · rw [if_pos h2]
      have h2' : ((x.n : Int) == 0) = true := by rw [beq_iff_eq]; omega
      generalize fz x = z at *
      clear h h1 h2
      as_aux_lemma =>
        go_enter Tryz.func55, Tryz.ntmps55
        go_wp2_with (go_at_call 53; with_reducible refine (HN.out _).mono ?_; rintro e w1 ⟨rfl, hb⟩)
        go_ret
        exact ⟨rfl, bt (bel1 w _) hb⟩
    · rw [if_neg h2]
      have h2' : ((x.n : Int) == 0) = false := by rw [beq_eq_false_iff_ne]; omega
      have H1 : Hid (∀ W, _) := Re.cfin_any x.sum h.sum
      have H2 : Hid (∀ W, _) := Re.cfin_any x.mn h.mn
      have H3 : Hid (∀ W, _) := Re.cfin_any x.mx h.mx
      have H4 : Hid (∀ W, _) := Re.compare_any x.mn x.mx h.mn h.mx
      clear h h1 h2 HN HB
      generalize Re.finF x.sum = a at *
      generalize Re.finF x.mn = b at *
      generalize Re.finF x.mx = c at *
      generalize Re.sg (Re.rk x.mn) (Re.rk x.mx) = d at *
      cases a <;> cases b <;> cases c
      all_goals as_aux_lemma =>
        go_enter Tryz.func55, Tryz.ntmps55
        go_wp2_with (first
          | (go_at_call 79; (first | (with_reducible refine (H1.out _).mono ?_) | (with_reducible refine (H2.out _).mono ?_) | (with_reducible refine (H3.out _).mono ?_)); rintro e w1 ⟨rfl, rfl⟩)
          | (go_at_call 80; with_reducible refine (H4.out _).mono ?_; rintro e w1 ⟨rfl, rfl⟩))
        go_ret
        exact ⟨rfl, bel1 w _⟩
end Go.Proofs.YtgkdggcpplmnaaaGreat
