/- THE LAW's record: the walk. Own work of the verifier. -/
import Derived.Test.YtaeapikhhbjlnaaGreatDoorZBV
namespace Go.Proofs.YtaeapikhhbjlnaaGreatDoor
open Go.RowKit

theorem StE.mono {K : Kx} {t t' : Nat} {W : World} (H : StE K t W) (h : t ≤ t') : StE K t' W := by
  obtain ⟨a, r0, r1, lv, rv, Rs, Is, C, H1⟩ := H
  exact ⟨a, r0, r1, lv, rv, Rs, Is, C, ⟨H1.ls.bel, H1.ls.code.mono h, H1.ls.doc.mono h, H1.ls.recs, H1.ls.law⟩, H1.cl, Nat.le_trans H1.few h⟩
theorem St.chg0 {K : Kx} {t a : Nat} {r0 r1 : Int} {lv rv : Value} {Rs : List RcD} {Is : List Ins} {C : Nat → Nat → Nat → List Int} {W W' : World} (H : St K t a r0 r1 lv rv Rs Is C W) (hc : Chg (fun _ => False) W W') : St K t a r0 r1 lv rv Rs Is C W' := ⟨H.ls.below hc, H.cl, H.few⟩
theorem drew0 (W : World) : Chg (fun _ => False) W W.drew := (Chg.refl _ _).drew
/-- The state and the operation. -/
def OS (K : Kx) (t a : Nat) (r0 r1 : Int) (lv rv : Value) (Rs : List RcD) (Is : List Ins) (C : Nat → Nat → Nat → List Int) (ob : Nat) (oc : Array Value) (W : World) : Prop := St K t a r0 r1 lv rv Rs Is C W ∧ W.heap[ob]? = some (.cells oc 42 (0, 0))
theorem OS.drew {K : Kx} {t a : Nat} {r0 r1 : Int} {lv rv : Value} {Rs : List RcD} {Is : List Ins} {C : Nat → Nat → Nat → List Int} {ob : Nat} {oc : Array Value} {W : World} (h : OS K t a r0 r1 lv rv Rs Is C ob oc W) : OS K t a r0 r1 lv rv Rs Is C ob oc W.drew := ⟨h.1.chg0 (drew0 W), h.2⟩
theorem slv_form {K : Kx} {t a : Nat} {r0 r1 : Int} {lv rv : Value} {Rs : List RcD} {Is : List Ins} {C : Nat → Nat → Nat → List Int} {W : World} (H : St K t a r0 r1 lv rv Rs Is C W) : (∃ ao c, lv = .slice ao Rs.length c) ∧ (∃ ao c, rv = .slice ao Rs.length c) ∧ ∃ ao c, K.slv = .slice ao K.SL.length c := by
  obtain ⟨_, e2, e3⟩ := H.ls.law.ex
  simp only [List.length_map] at e2 e3
  exact ⟨own_len e2, own_len e3, own_len H.ls.law.sl⟩
set_option maxRecDepth 10000 in
set_option maxHeartbeats 8000000 in
theorem record_law (K : Kx) (hK : K.Ok) (t : Nat) (ht : t + 1 < 70368744177664) (kind on oid N : Int) (X : Nat) (hk : kind = 3 ∨ kind = 4 ∨ kind = 5) (hN : In64 N) (hX : X < 18446744073709551616) (w : World) (H : StE K t w) :
    Calls Tryz.prog 42 #[ptr K.wb, .agg #[.int .i64 kind, .int .i64 on, .int .i64 oid, .int .i64 N, .float .f64 X]] w fun e w' => e = .returned (.bool true) ∧ Hid (StE K (t + 2) w') := by
  obtain ⟨a, r0, r1, lv, rv, Rs, Is, C, H⟩ := H
  obtain ⟨w1, hw1⟩ : ∃ w1, w.alloc (.cells #[.int .i64 kind, .int .i64 on, .int .i64 oid, .int .i64 N, .float .f64 X] 42) = w1 := ⟨_, rfl⟩
  have ho : w1.heap[w.heap.size]? = some (.cells (opC kind on oid N X) 42 (0, 0)) := by rw [← hw1]; exact new_1 _ _
  have H1 : St K t a r0 r1 lv rv Rs Is C w1 := H.chg0 (by rw [← hw1]; exact Chg.of_below (bel1 _ _))
  have HE : Hid (StE K (t + 2) w1) := StE.mono (t := t) ⟨a, r0, r1, lv, rv, Rs, Is, C, H1⟩ (by omega)
  obtain ⟨⟨lao, lc, hlv⟩, ⟨rao, rc, hrv⟩, ⟨sao, sc, hsv⟩⟩ := slv_form H1
  obtain ⟨l0, l1, l2, l3, l4, l5⟩ := H1.ls.lw
  rw [hlv] at l1
  rw [hsv] at l2
  have hfew : Rs.length < 4611686018427387904 := by have := H.few; omega
  have hfewS : K.SL.length ≤ 20 := hK.few
  have Hw1 : Hid (w.alloc (.cells #[.int .i64 kind, .int .i64 on, .int .i64 oid, .int .i64 N, .float .f64 X] 42) = w1) := hw1
  have HOS : Hid (OS K t a r0 r1 lv rv Rs Is C w.heap.size (opC kind on oid N X) w1) := ⟨H1, ho⟩
  have hb64 := Pr.mf64bits
  by_cases hR : Rs.length = 0
  · have hR' : (Rs.length : Int) = 0 := by omega
    have hR2 : ((Rs.length : Int) == 0) = true := by simpa using hR'
    clear H H1 ho hw1 HOS hlv hrv hsv l0 l3 l4 l5
    generalize Rs.length = n at *
    go_enter Tryz.func42, Tryz.ntmps42
    go_upto_region 1 with fail
    have hw1 := Hw1.out
    simp only [hw1]
    clear hw1 Hw1
    go_wp2_with fail
    go_ret
    exact ⟨rfl, HE⟩
  · have hR2 : ((Rs.length : Int) == 0) = false := by simpa using (show ¬ (Rs.length : Int) = 0 by omega)
    by_cases hS : K.SL.length = 0
    · have hS2 : ((K.SL.length : Int) == 0) = true := by simpa using (show (K.SL.length : Int) = 0 by omega)
      clear H H1 ho hw1 HOS hlv hrv hsv l0 l3 l4 l5
      generalize Rs.length = n at *
      go_enter Tryz.func42, Tryz.ntmps42
      go_upto_region 1 with fail
      have hw1 := Hw1.out
      simp only [hw1]
      clear hw1 Hw1
      go_wp2_with fail
      go_ret
      exact ⟨rfl, HE⟩
    · have hS2 : ((K.SL.length : Int) == 0) = false := by simpa using (show ¬ (K.SL.length : Int) = 0 by omega)
      obtain ⟨lb, rb, slb, lc', rc', sc', P⟩ := H1.plc (by omega) (by omega)
      have HP : Hid (Plc K lv rv Rs lb rb slb lc' rc' sc') := P
      have hlv2 := P.l
      have hrv2 := P.r
      have hsv2 := P.s
      rw [hlv] at hlv2
      rw [hsv] at hsv2
      rw [hlv2] at l1
      rw [hsv2] at l2
      have HPk1 : Hid (∀ W : World, _) := fun W => pick_any on Rs.length (by omega) hfew W
      have HPk2 : Hid (∀ W : World, _) := fun W => pick_any oid K.SL.length (by omega) (by omega) W
      have HLw : Hid (∀ W, OS K t a r0 r1 lv rv Rs Is C w.heap.size (opC kind on oid N X) W → (W.cell? ⟨K.wb, 1, none⟩ = some (.slice (some ⟨lb, 0, none⟩) Rs.length lc') ∧ W.cell? ⟨K.wb, 2, none⟩ = some (.slice (some ⟨slb, 0, none⟩) K.SL.length sc')) ∧ W.cell? ⟨w.heap.size, 0, none⟩ = some (.int .i64 kind) ∧ W.cell? ⟨w.heap.size, 1, none⟩ = some (.int .i64 on) ∧ W.cell? ⟨w.heap.size, 2, none⟩ = some (.int .i64 oid) ∧ W.cell? ⟨w.heap.size, 3, none⟩ = some (.int .i64 N) ∧ W.cell? ⟨w.heap.size, 4, none⟩ = some (.float .f64 X)) := fun W hW => by
        obtain ⟨m0, m1, m2, _⟩ := hW.1.ls.lw
        exact ⟨⟨by rw [m1, HP.out.l], by rw [m2, HP.out.s]⟩, op_cells hW.2⟩
      have HPl : Hid (lv = .slice (some ⟨lb, 0, none⟩) Rs.length lc' ∧ rv = .slice (some ⟨rb, 0, none⟩) Rs.length rc' ∧ K.slv = .slice (some ⟨slb, 0, none⟩) K.SL.length sc') := ⟨HP.out.l, HP.out.r, HP.out.s⟩
      clear H H1 ho hw1 hlv hrv hsv l0 l3 l4 l5 P hlv2 hrv2 hsv2
      go_enter Tryz.func42, Tryz.ntmps42
      go_upto_region 1 with fail
      have hw1 := Hw1.out
      simp only [hw1]
      clear hw1 Hw1
      go_upto_region 3 with fail
      clear l1 l2
      obtain ⟨⟨m1, m2⟩, m3, m4, m5, m6, m7⟩ := HLw.out _ HOS.out
      have HOSd := hid_of HOS.out.drew
      go_cut [5] from 22 to 29 (fun v W => ∃ i : Nat, v = .int .i64 (i : Int) ∧ Hid (i < Rs.length) ∧ Hid (OS K t a r0 r1 lv rv Rs Is C w.heap.size (opC kind on oid N X) W))
      case first =>
        go_region_with (go_at_call 38; with_reducible refine Calls.mono (HPk1.out _) ?_; rintro e w2 ⟨i, rfl, hi, rfl⟩)
        all_goals
          go_wp2_with fail
          go_meet
          exact ⟨i, rfl, hi, HOSd⟩
      case rest =>
        obtain ⟨i, rfl, hi, HOS2⟩ := hcut
        clear m1 m2 m3 m4 m5 m6 m7 HOSd HOS HE
        obtain ⟨⟨m1, m2⟩, m3, m4, m5, m6, m7⟩ := HLw.out _ HOS2.out
        have HOSd := hid_of HOS2.out.drew
        go_upto_region 4 with fail
        go_cut [6] from 30 to 37 (fun v W => ∃ id : Nat, v = .int .i64 (id : Int) ∧ Hid (id < K.SL.length) ∧ Hid (OS K t a r0 r1 lv rv Rs Is C w.heap.size (opC kind on oid N X) W))
        case first =>
          go_region_with (go_at_call 38; with_reducible refine Calls.mono (HPk2.out _) ?_; rintro e w2 ⟨id, rfl, hid, rfl⟩)
          all_goals
            go_wp2_with fail
            go_meet
            exact ⟨id, rfl, hid, HOSd⟩
        case rest =>
          obtain ⟨id, rfl, hid, HOS3⟩ := hcut
          clear m1 m2 m3 m4 m5 m6 m7 HOSd HOS2
          obtain ⟨⟨m1, m2⟩, m3, m4, m5, m6, m7⟩ := HLw.out _ HOS3.out
          rcases hk with rfl | rfl | rfl
          · go_upto_region 8 with fail
            obtain ⟨er, her⟩ : ∃ er : Int, er = ansF (whyF 4 K.SL[id].kd N X Rs[i].cc) Rs[i].st K.n := ⟨_, rfl⟩
            have HOS4 := hid_of HOS3.out.drew
            have HA : Hid (∀ _ : Unit, Calls Tryz.prog 30 #[ptr Rs[i].rc, .pointer none, ptr K.SL[id].s, .int .i64 N] wc.drew fun e w' => e = .returned (.int .i64 er) ∧ Hid (MdS K t a r0 r1 lv rv Rs Is C i id 4 N er X w.heap.size (opC 3 on oid N X) Rs[i].st w') ∧ RdS K (.slice (some ⟨lb, 0, none⟩) Rs.length lc') (.slice (some ⟨rb, 0, none⟩) Rs.length rc') (.slice (some ⟨slb, 0, none⟩) K.SL.length sc') lb rb slb i id Rs[i].rc Rs[i].d K.SL[id].s w.heap.size 3 on oid N X w') := fun _ => by
              obtain ⟨e1, e2, e3⟩ := HPl.out
              rw [← e1, ← e2, ← e3]
              exact HOS4.out.1.code_rec hK (by omega) HP.out hi.out hid.out HOS4.out.2 hN hX 4 er (by decide) her _ _ (by simp)
            have HR : Hid (∀ V, MdS K t a r0 r1 lv rv Rs Is C i id 4 N er X w.heap.size (opC 3 on oid N X) Rs[i].st V → Calls Tryz.prog 84 #[ptr K.sb, ptr Rs[i].d, .int .i64 4, .int .i64 (id : Int), .int .i64 N, .int .u64 (X : Int)] V fun e w' => e = .returned (.int .i64 er) ∧ Hid (StE K (t + 2) w') ∧ RdS K (.slice (some ⟨lb, 0, none⟩) Rs.length lc') (.slice (some ⟨rb, 0, none⟩) Rs.length rc') (.slice (some ⟨slb, 0, none⟩) K.SL.length sc') lb rb slb i id Rs[i].rc Rs[i].d K.SL[id].s w.heap.size 3 on oid N X w') := fun V hV => by
              obtain ⟨e1, e2, e3⟩ := HPl.out
              rw [← e1, ← e2, ← e3]
              exact HOS4.out.1.doc_rec hK ht HP.out hi.out hid.out hN hX 4 er (by decide) her V hV
            have hS0 : RdS K (.slice (some ⟨lb, 0, none⟩) Rs.length lc') (.slice (some ⟨rb, 0, none⟩) Rs.length rc') (.slice (some ⟨slb, 0, none⟩) K.SL.length sc') lb rb slb i id Rs[i].rc Rs[i].d K.SL[id].s w.heap.size 3 on oid N X wc.drew := by
              obtain ⟨e1, e2, e3⟩ := HPl.out
              rw [← e1, ← e2, ← e3]
              exact HP.out.rd HOS4.out.1.ls hi.out hid.out HOS4.out.2
            have hii : (i : Int) < (Rs.length : Int) := by have := hi.out; omega
            have hdd : (id : Int) < (K.SL.length : Int) := by have := hid.out; omega
            clear m1 m2 m3 m4 m5 m6 m7 her
            generalize Rs[i].rc = x at *
            generalize Rs[i].d = d at *
            generalize K.SL[id].s = s at *
            go_cut [4] from 45 to 78 (fun v W => v = .bool true ∧ Hid (StE K (t + 2) W))
            case first =>
              go_region_held3 (fun W => RdS K (.slice (some ⟨lb, 0, none⟩) Rs.length lc') (.slice (some ⟨rb, 0, none⟩) Rs.length rc') (.slice (some ⟨slb, 0, none⟩) K.SL.length sc') lb rb slb i id x d s w.heap.size 3 on oid N X W)
                (first | with_reducible assumption | with_reducible exact hS0)
                (first
                  | (go_at_call 30; with_reducible refine Calls.mono (HA.out ()) ?_; rintro e w5 ⟨rfl, H5, hS5⟩)
                  | (go_at_call 84; with_reducible refine Calls.mono (HR.out _ H5.out) ?_; rintro e w6 ⟨rfl, H6, hS6⟩))
              all_goals
                go_wp2_with fail
                go_meet
                exact ⟨rfl, H6⟩
            case rest =>
              obtain ⟨rfl, HE⟩ := hcut
              go_wp2_with fail
              go_ret
              exact ⟨rfl, HE⟩
          · go_upto_region 10 with fail
            obtain ⟨er, her⟩ : ∃ er : Int, er = ansF (whyF 5 K.SL[id].kd N X Rs[i].cc) Rs[i].st K.n := ⟨_, rfl⟩
            have HOS4 := hid_of HOS3.out.drew
            have HA : Hid (∀ _ : Unit, Calls Tryz.prog 85 #[ptr Rs[i].rc, .pointer none, ptr K.SL[id].s, .int .i64 N] wc.drew fun e w' => e = .returned (.int .i64 er) ∧ Hid (MdS K t a r0 r1 lv rv Rs Is C i id 5 N er X w.heap.size (opC 4 on oid N X) Rs[i].st w') ∧ RdS K (.slice (some ⟨lb, 0, none⟩) Rs.length lc') (.slice (some ⟨rb, 0, none⟩) Rs.length rc') (.slice (some ⟨slb, 0, none⟩) K.SL.length sc') lb rb slb i id Rs[i].rc Rs[i].d K.SL[id].s w.heap.size 4 on oid N X w') := fun _ => by
              obtain ⟨e1, e2, e3⟩ := HPl.out
              rw [← e1, ← e2, ← e3]
              exact HOS4.out.1.code_rec hK (by omega) HP.out hi.out hid.out HOS4.out.2 hN hX 5 er (by decide) her _ _ (by simp)
            have HR : Hid (∀ V, MdS K t a r0 r1 lv rv Rs Is C i id 5 N er X w.heap.size (opC 4 on oid N X) Rs[i].st V → Calls Tryz.prog 84 #[ptr K.sb, ptr Rs[i].d, .int .i64 5, .int .i64 (id : Int), .int .i64 N, .int .u64 (X : Int)] V fun e w' => e = .returned (.int .i64 er) ∧ Hid (StE K (t + 2) w') ∧ RdS K (.slice (some ⟨lb, 0, none⟩) Rs.length lc') (.slice (some ⟨rb, 0, none⟩) Rs.length rc') (.slice (some ⟨slb, 0, none⟩) K.SL.length sc') lb rb slb i id Rs[i].rc Rs[i].d K.SL[id].s w.heap.size 4 on oid N X w') := fun V hV => by
              obtain ⟨e1, e2, e3⟩ := HPl.out
              rw [← e1, ← e2, ← e3]
              exact HOS4.out.1.doc_rec hK ht HP.out hi.out hid.out hN hX 5 er (by decide) her V hV
            have hS0 : RdS K (.slice (some ⟨lb, 0, none⟩) Rs.length lc') (.slice (some ⟨rb, 0, none⟩) Rs.length rc') (.slice (some ⟨slb, 0, none⟩) K.SL.length sc') lb rb slb i id Rs[i].rc Rs[i].d K.SL[id].s w.heap.size 4 on oid N X wc.drew := by
              obtain ⟨e1, e2, e3⟩ := HPl.out
              rw [← e1, ← e2, ← e3]
              exact HP.out.rd HOS4.out.1.ls hi.out hid.out HOS4.out.2
            have hii : (i : Int) < (Rs.length : Int) := by have := hi.out; omega
            have hdd : (id : Int) < (K.SL.length : Int) := by have := hid.out; omega
            clear m1 m2 m3 m4 m5 m6 m7 her
            generalize Rs[i].rc = x at *
            generalize Rs[i].d = d at *
            generalize K.SL[id].s = s at *
            go_cut [4] from 81 to 114 (fun v W => v = .bool true ∧ Hid (StE K (t + 2) W))
            case first =>
              go_region_held3 (fun W => RdS K (.slice (some ⟨lb, 0, none⟩) Rs.length lc') (.slice (some ⟨rb, 0, none⟩) Rs.length rc') (.slice (some ⟨slb, 0, none⟩) K.SL.length sc') lb rb slb i id x d s w.heap.size 4 on oid N X W)
                (first | with_reducible assumption | with_reducible exact hS0)
                (first
                  | (go_at_call 85; with_reducible refine Calls.mono (HA.out ()) ?_; rintro e w5 ⟨rfl, H5, hS5⟩)
                  | (go_at_call 84; with_reducible refine Calls.mono (HR.out _ H5.out) ?_; rintro e w6 ⟨rfl, H6, hS6⟩))
              all_goals
                go_wp2_with fail
                go_meet
                exact ⟨rfl, H6⟩
            case rest =>
              obtain ⟨rfl, HE⟩ := hcut
              go_wp2_with fail
              go_ret
              exact ⟨rfl, HE⟩
          · go_upto_region 11 with fail
            obtain ⟨er, her⟩ : ∃ er : Int, er = ansF (whyF 6 K.SL[id].kd N X Rs[i].cc) Rs[i].st K.n := ⟨_, rfl⟩
            have HOS4 := hid_of HOS3.out.drew
            have HA : Hid (∀ _ : Unit, Calls Tryz.prog 86 #[ptr Rs[i].rc, .pointer none, ptr K.SL[id].s, .float .f64 X] wc.drew fun e w' => e = .returned (.int .i64 er) ∧ Hid (MdS K t a r0 r1 lv rv Rs Is C i id 6 N er X w.heap.size (opC 5 on oid N X) Rs[i].st w') ∧ RdS K (.slice (some ⟨lb, 0, none⟩) Rs.length lc') (.slice (some ⟨rb, 0, none⟩) Rs.length rc') (.slice (some ⟨slb, 0, none⟩) K.SL.length sc') lb rb slb i id Rs[i].rc Rs[i].d K.SL[id].s w.heap.size 5 on oid N X w') := fun _ => by
              obtain ⟨e1, e2, e3⟩ := HPl.out
              rw [← e1, ← e2, ← e3]
              exact HOS4.out.1.code_rec hK (by omega) HP.out hi.out hid.out HOS4.out.2 hN hX 6 er (by decide) her _ _ (by simp)
            have HR : Hid (∀ V, MdS K t a r0 r1 lv rv Rs Is C i id 6 N er X w.heap.size (opC 5 on oid N X) Rs[i].st V → Calls Tryz.prog 84 #[ptr K.sb, ptr Rs[i].d, .int .i64 6, .int .i64 (id : Int), .int .i64 N, .int .u64 (X : Int)] V fun e w' => e = .returned (.int .i64 er) ∧ Hid (StE K (t + 2) w') ∧ RdS K (.slice (some ⟨lb, 0, none⟩) Rs.length lc') (.slice (some ⟨rb, 0, none⟩) Rs.length rc') (.slice (some ⟨slb, 0, none⟩) K.SL.length sc') lb rb slb i id Rs[i].rc Rs[i].d K.SL[id].s w.heap.size 5 on oid N X w') := fun V hV => by
              obtain ⟨e1, e2, e3⟩ := HPl.out
              rw [← e1, ← e2, ← e3]
              exact HOS4.out.1.doc_rec hK ht HP.out hi.out hid.out hN hX 6 er (by decide) her V hV
            have hS0 : RdS K (.slice (some ⟨lb, 0, none⟩) Rs.length lc') (.slice (some ⟨rb, 0, none⟩) Rs.length rc') (.slice (some ⟨slb, 0, none⟩) K.SL.length sc') lb rb slb i id Rs[i].rc Rs[i].d K.SL[id].s w.heap.size 5 on oid N X wc.drew := by
              obtain ⟨e1, e2, e3⟩ := HPl.out
              rw [← e1, ← e2, ← e3]
              exact HP.out.rd HOS4.out.1.ls hi.out hid.out HOS4.out.2
            have hii : (i : Int) < (Rs.length : Int) := by have := hi.out; omega
            have hdd : (id : Int) < (K.SL.length : Int) := by have := hid.out; omega
            clear m1 m2 m3 m4 m5 m6 m7 her
            generalize Rs[i].rc = x at *
            generalize Rs[i].d = d at *
            generalize K.SL[id].s = s at *
            go_cut [4] from 115 to 148 (fun v W => v = .bool true ∧ Hid (StE K (t + 2) W))
            case first =>
              go_region_held3 (fun W => RdS K (.slice (some ⟨lb, 0, none⟩) Rs.length lc') (.slice (some ⟨rb, 0, none⟩) Rs.length rc') (.slice (some ⟨slb, 0, none⟩) K.SL.length sc') lb rb slb i id x d s w.heap.size 5 on oid N X W)
                (first | with_reducible assumption | with_reducible exact hS0)
                (first
                  | (go_at_call 86; with_reducible refine Calls.mono (HA.out ()) ?_; rintro e w5 ⟨rfl, H5, hS5⟩)
                  | (go_at_call 84; with_reducible refine Calls.mono (HR.out _ H5.out) ?_; rintro e w6 ⟨rfl, H6, hS6⟩))
              all_goals
                go_wp2_with fail
                go_meet
                exact ⟨rfl, H6⟩
            case rest =>
              obtain ⟨rfl, HE⟩ := hcut
              go_wp2_with fail
              go_ret
              exact ⟨rfl, HE⟩
end Go.Proofs.YtaeapikhhbjlnaaGreatDoor
