/- THE CELLS: Drain of summaries. Own work of the verifier. -/
import Derived.Test.YtpllckgpolhafaaGreatDoorS5
namespace Go.Proofs.YtpllckgpolhafaaGreatDoor
open Go.RowKit

set_option maxRecDepth 10000 in
set_option maxHeartbeats 4000000 in
theorem drain_summary (s c b h : Nat) (hb : b < 2) (R : List Rw) (w : World) (hB : Buf 139 s c b h R w) (hD : ∀ r ∈ R, Drains 229 (.pointer (some ⟨c, 0, none⟩)) r.xs r.hi r.lo r.ys ∧ Wf r.hi r.lo) (hR : R.length < 1000) :
    Calls Tryz.prog 16 #[.pointer (some ⟨s, 0, none⟩), .pointer none, .int .i64 (b : Int)] w fun e w' => DrQ R w e w' := by
  obtain ⟨cap, hheld⟩ := hB.held
  have hslab := hB.slab
  obtain ⟨w2, hw2⟩ : ∃ w2, (w.alloc (.cells #[.int .i64 0, .int .u64 0, .slice none 0 0, .int .u64 0, .complex .f64 0 0, .float .f64 0, .float .f64 0] 60)).alloc (.cells #[.int .i64 0, .int .u64 0, .slice none 0 0, .int .u64 0, .complex .f64 0 0, .float .f64 0, .float .f64 0] 60) = w2 := ⟨_, rfl⟩
  have hb2 : Below w.heap.size w w2 := by rw [← hw2]; exact bel2 _ _ _
  have g0 : w2.heap[w.heap.size]? = some (.cells #[.int .i64 0, .int .u64 0, .slice none 0 0, .int .u64 0, .complex .f64 0 0, .float .f64 0, .float .f64 0] 60 (0, 0)) := by rw [← hw2]; exact Pr.new1 _ _ _
  have g1 : w2.heap[w.heap.size + 1]? = some (.cells #[.int .i64 0, .int .u64 0, .slice none 0 0, .int .u64 0, .complex .f64 0 0, .float .f64 0, .float .f64 0] 60 (0, 0)) := by rw [← hw2]; exact Pr.new2 _ _ _
  have HI : Hid (DrI R w 0 w2) := dr_start hB g0 g1 hb2
  have HB : Hid (∀ W, _) := isbuf_any b (by omega) (by omega)
  have hl := lt_of_cell hslab
  have hl2 := lt_of_cell hheld
  have hs2 : w2.cell? ⟨s, 0, none⟩ = some (.iface 139 (.pointer (some ⟨c, 0, none⟩))) := (hb2.cell (p := ⟨s, 0, none⟩) hl).trans hslab
  have hc2 : w2.cell? ⟨c, b, none⟩ = some (.slice (some ⟨h, 0, none⟩) R.length cap) := (hb2.cell (p := ⟨c, b, none⟩) hl2).trans hheld
  have HRo : Hid (∀ _ : Unit, _) := fun _ => rows_any c b hb (.slice (some ⟨h, 0, none⟩) R.length cap) w2 hc2
  have HBf : Hid (Buf 139 s c b h R w) := hB
  have HDr : Hid (∀ r ∈ R, Drains 229 (.pointer (some ⟨c, 0, none⟩)) r.xs r.hi r.lo r.ys ∧ Wf r.hi r.lo) := hD
  clear hB hD hheld hslab g0 g1 hc2
  go_enter Tryz.func16, Tryz.ntmps16
  go_wp2_with (first | (go_at_call 37; refine (HB.out _).mono ?_; rintro e w1 ⟨rfl, rfl⟩) | (go_at_call 216; refine Calls.mono (HRo.out ()) ?_; rintro e w1 ⟨rfl, rfl⟩))
  clear hw2 hs2
  go_loopw [22] (fun a wr => ∃ i : Nat, i ≤ R.length ∧ a = .int .i64 (i : Int) ∧ Hid (DrI R w i wr)) (fun a _ => R.length - (intOf a).toNat)
  case atStart => exact ⟨0, by omega, rfl, HI.out⟩
  case round =>
    obtain ⟨i, hi, rfl, HIi⟩ := hrel
    by_cases hlt : i < R.length
    · have hlt' : (i : Int) < (R.length : Int) := by omega
      obtain ⟨hrow, hsl, ao, ka, ca, HA, HSn⟩ := dr_facts HBf HIi hlt
      obtain ⟨q0, q1, q2, q3, q4, q5, q6⟩ := seven_cells HA
      obtain ⟨f0, f1, f2, f3, f4, f5, f6⟩ := seven_fr HA
      have HRW : Hid (RowW wr R[i].g R[i].xs) := HIi.out.wh.left i hlt (Nat.le_refl _)
      have HRWd : Hid (RowW wr.drew R[i].g R[i].xs) := HRW
      have HDi := HDr.out _ (List.getElem_mem hlt)
      have HD : Hid (∀ W, RowW W R[i].g R[i].xs → Calls Tryz.prog 229 #[.pointer (some ⟨c, 0, none⟩), .pointer none, .slice (some ⟨R[i].g, 0, none⟩) R[i].xs.length R[i].xs.length] W fun e w' => e = .returned (.agg #[.int .i64 R[i].hi, .int .u64 R[i].lo, .slice none 0 0, .int .u64 0, .complex .f64 0 0, .float .f64 0, .float .f64 0]) ∧ Hid (RowW w' R[i].g R[i].ys) ∧ Hid (Mid R[i].g (R[i].g + 1) W w')) := fun W => HDi.1 W R[i].g
      have HMg : Hid (∀ W, SN W (.slice ao ka ca) [] → Calls Tryz.prog 38 #[.agg #[.int .i64 (hiOf (sumR R i)), .int .u64 (loOf (sumR R i)), .slice ao ka ca, .int .u64 0, .complex .f64 0 0, .float .f64 0, .float .f64 0], .agg #[.int .i64 R[i].hi, .int .u64 R[i].lo, .slice none 0 0, .int .u64 0, .complex .f64 0 0, .float .f64 0, .float .f64 0]] W fun e w' => ∃ ao k cap, e = .returned (.agg #[.int .i64 (hiOf (sumR R (i + 1))), .int .u64 (loOf (sumR R (i + 1))), .slice ao k cap, .int .u64 0, .complex .f64 0 0, .float .f64 0, .float .f64 0]) ∧ Hid (SN w' (.slice ao k cap) []) ∧ Hid (Below W.heap.size W w')) := fun W hS => by
        rw [sumR_succ R i hlt]
        exact cnt_merge (sumR R i) R[i].hi R[i].lo (.slice ao ka ca) W (sumR_in R i) HDi.2 hS
      have HNx : Hid (∀ w1, RowW w1 R[i].g R[i].ys → Mid R[i].g (R[i].g + 1) wr w1 → Wh R w (i + 1) w1) := fun w1 h1 h2 => HIi.out.wh.next hlt HBf.out.nd h2 h1
      have HNA : Hid (¬ (R[i].g ≤ w.heap.size + 1 ∧ w.heap.size + 1 < R[i].g + 1)) := dr_apart HBf hlt
      clear HDi
      have HNR : Hid (¬ (R[i].g ≤ w.heap.size ∧ w.heap.size < R[i].g + 1)) := dr_apart (k := 0) HBf hlt
      have HL : Hid (∀ r ∈ R, r.g < w.heap.size) := fun r hr => (HBf.out.left r hr).lt
      have HWh : Hid (Wh R w i wr) := HIi.out.wh
      generalize R[i].g = g at *
      generalize R[i].xs = xs at *
      generalize R[i].ys = ys at *
      generalize R[i].hi = hi1 at *
      generalize R[i].lo = lo1 at *
      generalize hiOf (sumR R i) = T1 at *
      generalize loOf (sumR R i) = T0 at *
      have HU : Hid (∃ t, sumR R (i + 1) = t) := ⟨_, rfl⟩
      go_wp2_with fail
      have HAd := hid_drew HA
      have sF := store_f
      have sC := store_c
      go_region_with (first
        | (go_at_call 229; with_reducible refine Calls.mono (HD.out _ (by first | with_reducible exact HRWd.out | with_reducible exact HRW.out)) ?_; rintro e w1 ⟨rfl, HR1, HM1⟩; have HA1 := hid_mid HAd HM1 HNA.out; obtain ⟨q0, q1, q2, q3, q4, q5, q6⟩ := seven_cells HA1)
        | (go_at_call 38; with_reducible refine Calls.mono (HMg.out _ (sn_nil HSn.out)) ?_; rintro e w2 ⟨ao2, k2, c2, rfl, HSn2, HB2⟩; have HA2 := hid_kept HA1 HB2; obtain ⟨p0, p1, p2, p3, p4, p5, p6⟩ := seven_cells HA2; obtain ⟨f0, f1, f2, f3, f4, f5, f6⟩ := seven_fr HA2))
      all_goals
        go_wp2_with fail
        exact ⟨⟨i + 1, by omega, by simp, by rw [put7_eq]; exact dr_next (g := g) HIi (HNx.out w1 HR1.out (mid_drew HM1.out)) HNR.out (mid_drew HM1.out) HB2.out HL.out rfl HA2.out HSn2.out⟩, by simp [intOf]; omega⟩
    · obtain rfl : i = R.length := by omega
      have hlt' : ¬ (R.length : Int) < (R.length : Int) := by omega
      have HRs : Hid _ := HIi.out.res
      obtain ⟨ao, ka, ca, HA, HSn⟩ := dr_all HIi
      obtain ⟨q0, q1, q2, q3, q4, q5, q6⟩ := seven_cells HA
      obtain ⟨p0, p1, p2, p3, p4, p5, p6⟩ := seven_cells HRs
      obtain ⟨f0, f1, f2, f3, f4, f5, f6⟩ := seven_fr HRs
      have sF := store_f
      have sC := store_c
      have HL : Hid (∀ r ∈ R, r.g < w.heap.size) := fun r hr => (HBf.out.left r hr).lt
      have HQ : Hid (∀ v w', SN w' v [] → Wh R w R.length w' → DrQ R w (.returned (.tuple #[.agg #[.int .i64 (hiOf (sumR R R.length)), .int .u64 (loOf (sumR R R.length)), v, .int .u64 0, .complex .f64 0 0, .float .f64 0, .float .f64 0], .int .i64 0])) w') := fun v w' h1 h2 => ⟨v, rfl, h1, h2⟩
      generalize hiOf (sumR R R.length) = T1 at *
      generalize loOf (sumR R R.length) = T0 at *
      go_wp2_with fail
      rw [put7_eq]
      have HE := set_seven (v0 := .int .i64 T1) (v1 := .int .u64 T0) (v2 := .slice ao ka ca) (v3 := .int .u64 0) (v4 := .complex .f64 0 0) (v5 := .float .f64 0) (v6 := .float .f64 0) HRs.out
      obtain ⟨z0, z1, z2, z3, z4, z5, z6⟩ := seven_cells HE
      simp [bodyPost, results, Tryz.results16, go_sem, z0, z1, z2, z3, z4, z5, z6]
      exact HQ.out _ _ (sn_nil HSn.out) (HIi.out.wh.put HL.out (Nat.le_refl _) _ _ _ _ _ _ _)
end Go.Proofs.YtpllckgpolhafaaGreatDoor
