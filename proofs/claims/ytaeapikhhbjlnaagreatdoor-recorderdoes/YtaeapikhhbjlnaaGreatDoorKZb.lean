/- THE LAW's steps: Close, Stripe, and none. Own work of the verifier. -/
import Derived.Test.YtaeapikhhbjlnaaGreatDoorZBX
namespace Go.Proofs.YtaeapikhhbjlnaaGreatDoor
open Go.RowKit

set_option maxRecDepth 10000 in
set_option maxHeartbeats 4000000 in
theorem step_none (K : Kx) (t : Nat) (kind on oid N : Int) (X : Nat) (hk : kind < 1 ∨ 9 < kind) (w : World) (H : StE K t w) :
    Calls Tryz.prog 11 #[ptr K.wb, .agg #[.int .i64 kind, .int .i64 on, .int .i64 oid, .int .i64 N, .float .f64 X]] w fun e w' => e = .returned (.bool true) ∧ Hid (StE K (t + 2) w') := by
  obtain ⟨w1, hw1⟩ : ∃ w1, w.alloc (.cells #[.int .i64 kind, .int .i64 on, .int .i64 oid, .int .i64 N, .float .f64 X] 42) = w1 := ⟨_, rfl⟩
  have ho : w1.heap[w.heap.size]? = some (.cells (opC kind on oid N X) 42 (0, 0)) := by rw [← hw1]; exact new_1 _ _
  obtain ⟨o0, o1, o2, o3, o4⟩ := op_cells ho
  have HE : Hid (StE K (t + 2) w1) := (H.chg0 (W' := w1) (by rw [← hw1]; exact Chg.of_below (bel1 _ _))).mono (by omega)
  have h1 : (kind == 1) = false := by simp; omega
  have h2 : (kind == 2) = false := by simp; omega
  have h3 : (kind == 3) = false := by simp; omega
  have h4 : (kind == 4) = false := by simp; omega
  have h5 : (kind == 5) = false := by simp; omega
  have h6 : (kind == 6) = false := by simp; omega
  have h7 : (kind == 7) = false := by simp; omega
  have h8 : (kind == 8) = false := by simp; omega
  have h9 : (kind == 9) = false := by simp; omega
  have Hw1 : Hid (w.alloc (.cells #[.int .i64 kind, .int .i64 on, .int .i64 oid, .int .i64 N, .float .f64 X] 42) = w1) := hw1
  clear H hw1 ho hk
  go_enter Tryz.func11, Tryz.ntmps11
  go_upto_region 1 with fail
  have hw1 := Hw1.out
  simp only [hw1]
  clear hw1 Hw1
  go_wp2_with fail
  go_ret
  exact ⟨rfl, HE⟩
/-- What Stripe reads. -/
abbrev SpS (K : Kx) (lv rv : Value) (lb rb i x d : Nat) (_k : Nat) (st : Int) (cl : Bool) (W : World) : Prop := (W.cell? ⟨K.wb, 1, none⟩ = some lv ∧ W.cell? ⟨K.wb, 5, none⟩ = some rv) ∧ (W.cell? ⟨lb, i, none⟩ = some (ptr x) ∧ W.cell? ⟨rb, i, none⟩ = some (ptr d) ∧ W.cell? ⟨d, 0, none⟩ = some (.int .i64 st) ∧ W.cell? ⟨d, 1, none⟩ = some (.bool cl))
set_option maxRecDepth 10000 in
set_option maxHeartbeats 8000000 in
theorem step_close (K : Kx) (hK : K.Ok) (t : Nat) (ht : t < 70368744177664) (kind on oid N : Int) (X : Nat) (hk : kind = 2 ∨ kind = 9) (w : World) (H : StE K t w) :
    Calls Tryz.prog 11 #[ptr K.wb, .agg #[.int .i64 kind, .int .i64 on, .int .i64 oid, .int .i64 N, .float .f64 X]] w fun e w' => e = .returned (.bool true) ∧ Hid (StE K (t + 2) w') := by
  obtain ⟨w1, hw1⟩ : ∃ w1, w.alloc (.cells #[.int .i64 kind, .int .i64 on, .int .i64 oid, .int .i64 N, .float .f64 X] 42) = w1 := ⟨_, rfl⟩
  have ho : w1.heap[w.heap.size]? = some (.cells (opC kind on oid N X) 42 (0, 0)) := by rw [← hw1]; exact new_1 _ _
  obtain ⟨o0, o1, o2, o3, o4⟩ := op_cells ho
  obtain ⟨a, r0, r1, lv, rv, Rs, Is, C, H⟩ := H
  have H1 := H.chg0 (W' := w1) (by rw [← hw1]; exact Chg.of_below (bel1 _ _))
  have HE : Hid (StE K (t + 2) w1) := StE.mono (t := t) ⟨a, r0, r1, lv, rv, Rs, Is, C, H1⟩ (by omega)
  obtain ⟨⟨lao, lc, hlv⟩, ⟨rao, rc, hrv⟩, _⟩ := slv_form H1
  obtain ⟨l0, l1, _⟩ := H1.ls.lw
  rw [hlv] at l1
  have Hw1 : Hid (w.alloc (.cells #[.int .i64 kind, .int .i64 on, .int .i64 oid, .int .i64 N, .float .f64 X] 42) = w1) := hw1
  have hfew : Rs.length < 4611686018427387904 := by have := H.few; omega
  by_cases hR : Rs.length = 0
  · have hR2 : ((Rs.length : Int) == 0) = true := by simpa using (show (Rs.length : Int) = 0 by omega)
    clear H H1 ho hw1 hlv hrv l0 hK ht hfew
    generalize Rs.length = n at *
    rcases hk with rfl | rfl
    all_goals
      go_enter Tryz.func11, Tryz.ntmps11
      go_upto_region 1 with fail
      have hw1 := Hw1.out
      simp only [hw1]
      clear hw1 Hw1
      go_wp2_with fail
      go_ret
      exact ⟨rfl, HE⟩
  · have hR2 : ((Rs.length : Int) == 0) = false := by simpa using (show ¬ (Rs.length : Int) = 0 by omega)
    have HPk : Hid (∀ W : World, _) := fun W => pick_any on Rs.length (by omega) hfew W
    have HOSd : Hid (OS K t a r0 r1 lv rv Rs Is C w.heap.size (opC kind on oid N X) w1.drew) := OS.drew ⟨H1, ho⟩
    obtain ⟨lb, rb, lc', rc', hlv2, hrv2, hat⟩ := H1.two (by omega)
    have Hlv : Hid (lv = .slice (some ⟨lb, 0, none⟩) Rs.length lc' ∧ rv = .slice (some ⟨rb, 0, none⟩) Rs.length rc') := ⟨hlv2, hrv2⟩
    have HCl : Hid (∀ W (i : Nat) (hi : i < Rs.length), OS K t a r0 r1 lv rv Rs Is C w.heap.size (opC kind on oid N X) W → W.cell? ⟨w.heap.size, 0, none⟩ = some (.int .i64 kind) ∧ Hid (∀ _ : Unit, Calls Tryz.prog 39 #[ptr K.wb, .int .i64 (i : Int)] W fun e w' => e = .returned (.bool true) ∧ Hid (StE K t w')) ∧ Hid (StE K (t + 2) W.drew ∧ SpS K lv rv lb rb i Rs[i].rc Rs[i].d K.k Rs[i].st Rs[i].cc W.drew ∧ Rc W.drew Rs[i].rc K.k Rs[i].st Rs[i].cc)) := fun W i hi h => by
      refine ⟨(op_cells h.2).1, fun _ => close_law hK h.1 hi, StE.mono (t := t) ⟨a, r0, r1, lv, rv, Rs, Is, C, h.drew.1⟩ (by omega), ?_, h.drew.1.ls.recs.rc i hi⟩
      obtain ⟨m0, m1, m2, m3, m4, m5⟩ := h.drew.1.ls.lw
      obtain ⟨c1, c2⟩ := hat _ _ _ _ _ _ _ _ _ _ _ _ h.drew.1.ls i hi
      have hd := h.drew.1.ls.recs.d i hi
      rw [← H.cl i hi] at hd
      exact ⟨⟨m1, m5⟩, c1, c2, by simp [World.cell?, hd], by simp [World.cell?, hd]⟩
    rw [← hlv, hlv2] at l1
    have HSt : Hid (∀ (k s : Nat) (st : Int) (cl : Bool) (W : World), Rc W k s st cl → _) := fun k s st cl W h => stripe_any k s st cl W h
    have HCd : Hid (∀ (k s : Nat) (st : Int) (cl : Bool) (W : World), Rc W k s st cl → _) := fun k s st cl W h => closed_any k s st cl W h
    clear H H1 ho hw1 hlv hrv l0 hK hlv2 hrv2 hat HE
    rcases hk with rfl | rfl
    · go_enter Tryz.func11, Tryz.ntmps11
      go_upto_region 1 with fail
      have hw1 := Hw1.out
      simp only [hw1]
      clear hw1 Hw1
      go_upto_region 11 with fail
      go_cut [6] from 54 to 61 (fun v W => ∃ i : Nat, v = .int .i64 (i : Int) ∧ Hid (i < Rs.length) ∧ Hid (OS K t a r0 r1 lv rv Rs Is C w.heap.size (opC 2 on oid N X) W))
      case first =>
        go_region_with (go_at_call 38; with_reducible refine Calls.mono (HPk.out _) ?_; rintro e w2 ⟨i, rfl, hi, rfl⟩)
        all_goals
          go_wp2_with fail
          go_meet
          exact ⟨i, rfl, hi, HOSd⟩
      case rest =>
        obtain ⟨i, rfl, hi, HOS⟩ := hcut
        obtain ⟨p0, HC, _⟩ := HCl.out wc i hi.out HOS.out
        go_wp2_with (go_at_call 39; with_reducible refine Calls.mono (HC.out ()) ?_; rintro e w3 ⟨rfl, H3⟩)
        go_ret
        exact ⟨rfl, H3.out.mono (by omega)⟩
    · go_enter Tryz.func11, Tryz.ntmps11
      go_upto_region 1 with fail
      have hw1 := Hw1.out
      simp only [hw1]
      clear hw1 Hw1
      go_upto_region 11 with fail
      go_cut [6] from 54 to 61 (fun v W => ∃ i : Nat, v = .int .i64 (i : Int) ∧ Hid (i < Rs.length) ∧ Hid (OS K t a r0 r1 lv rv Rs Is C w.heap.size (opC 9 on oid N X) W))
      case first =>
        go_region_with (go_at_call 38; with_reducible refine Calls.mono (HPk.out _) ?_; rintro e w2 ⟨i, rfl, hi, rfl⟩)
        all_goals
          go_wp2_with fail
          go_meet
          exact ⟨i, rfl, hi, HOSd⟩
      case rest =>
        obtain ⟨i, rfl, hi, HOS⟩ := hcut
        obtain ⟨p0, _, HQ⟩ := HCl.out wc i hi.out HOS.out
        obtain ⟨HE2, hS0, HRc⟩ := HQ.out
        have HEh := hid_of HE2
        have HRh := hid_of HRc
        rw [Hlv.out.1, Hlv.out.2] at hS0
        have hii : (i : Int) < (Rs.length : Int) := by have := hi.out; omega
        clear HE2 HRc HQ
        generalize Rs[i].rc = x at *
        generalize Rs[i].d = d at *
        generalize Rs[i].st = st at *
        generalize Rs[i].cc = cc at *
        go_upto_region 14 with fail
        go_cut [4] from 68 to 107 (fun v W => v = .bool true ∧ Hid (StE K (t + 2) W))
        case first =>
          go_region_held3 (fun W => SpS K (.slice (some ⟨lb, 0, none⟩) Rs.length lc') (.slice (some ⟨rb, 0, none⟩) Rs.length rc') lb rb i x d K.k st cc W)
            (first | with_reducible assumption | with_reducible exact hS0)
            (first
              | (go_at_call 40; with_reducible refine Calls.mono (HSt.out _ _ _ _ _ HRh.out) ?_; rintro e w3 ⟨rfl, rfl⟩)
              | (go_at_call 41; with_reducible refine Calls.mono (HCd.out _ _ _ _ _ HRh.out) ?_; rintro e w4 ⟨rfl, rfl⟩))
          all_goals
            go_wp2_with fail
            go_meet
            exact ⟨rfl, HEh⟩
        case rest =>
          obtain ⟨rfl, HE⟩ := hcut
          go_wp2_with fail
          go_ret
          exact ⟨rfl, HE⟩
end Go.Proofs.YtaeapikhhbjlnaaGreatDoor
