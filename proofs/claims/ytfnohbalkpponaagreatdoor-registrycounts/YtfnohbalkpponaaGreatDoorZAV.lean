/- THE CELLS: Drain of histograms. Own work of the verifier. -/
import Derived.Test.YtfnohbalkpponaaGreatDoorZAT
import Derived.Test.YtfnohbalkpponaaGreatDoorZAU
namespace Go.Proofs.YtfnohbalkpponaaGreatDoor
open Go.RowKit

set_option maxRecDepth 10000 in
set_option maxHeartbeats 4000000 in
theorem drain_histogram (s c b h : Nat) (hb : b < 2) (R : List Rw) (w : World) (hB : Buf 299 s c b h R w) (hD : ∀ r ∈ R, Drains 306 (.pointer (some ⟨c, 0, none⟩)) r.xs r.hi r.lo r.ys ∧ Wf r.hi r.lo) (hR : R.length < 1000) :
    Calls Tryz.prog 86 #[.pointer (some ⟨s, 0, none⟩), .pointer none, .int .i64 (b : Int)] w fun e w' => DrQ R w e w' := by
  obtain ⟨cap, hheld⟩ := hB.held
  have hslab := hB.slab
  obtain ⟨w2, hw2⟩ : ∃ w2, (w.alloc (.cells #[.int .i64 0, .int .u64 0, .slice none 0 0, .int .u64 0, .complex .f64 0 0, .float .f64 0, .float .f64 0] 184)).alloc (.cells #[.int .i64 0, .int .u64 0, .slice none 0 0, .int .u64 0, .complex .f64 0 0, .float .f64 0, .float .f64 0] 184) = w2 := ⟨_, rfl⟩
  have hb2 : Below w.heap.size w w2 := by rw [← hw2]; exact bel2 _ _ _
  have g0 : w2.heap[w.heap.size]? = some (.cells #[.int .i64 0, .int .u64 0, .slice none 0 0, .int .u64 0, .complex .f64 0 0, .float .f64 0, .float .f64 0] 184 (0, 0)) := by rw [← hw2]; exact Pr.new1 _ _ _
  have g1 : w2.heap[w.heap.size + 1]? = some (.cells #[.int .i64 0, .int .u64 0, .slice none 0 0, .int .u64 0, .complex .f64 0 0, .float .f64 0, .float .f64 0] 184 (0, 0)) := by rw [← hw2]; exact Pr.new2 _ _ _
  have HI : Hid (DrI R w 0 w2) := dr_start hB g0 g1 hb2
  have HB : Hid (∀ W, _) := isbuf_any b (by omega) (by omega)
  have hl := lt_of_cell hslab
  have hl2 := lt_of_cell hheld
  have hs2 : w2.cell? ⟨s, 0, none⟩ = some (.iface 299 (.pointer (some ⟨c, 0, none⟩))) := (hb2.cell (p := ⟨s, 0, none⟩) hl).trans hslab
  have hc2 : w2.cell? ⟨c, b, none⟩ = some (.slice (some ⟨h, 0, none⟩) R.length cap) := (hb2.cell (p := ⟨c, b, none⟩) hl2).trans hheld
  have HRo : Hid (∀ _ : Unit, _) := fun _ => rows_any c b hb (.slice (some ⟨h, 0, none⟩) R.length cap) w2 hc2
  have HBf : Hid (Buf 299 s c b h R w) := hB
  have HDr : Hid (∀ r ∈ R, Drains 306 (.pointer (some ⟨c, 0, none⟩)) r.xs r.hi r.lo r.ys ∧ Wf r.hi r.lo) := hD
  clear hB hD hheld hslab g0 g1 hc2
  go_enter Tryz.func86, Tryz.ntmps86
  go_wp2_with (first | (go_at_call 132; refine (HB.out _).mono ?_; rintro e w1 ⟨rfl, rfl⟩) | (go_at_call 299; refine Calls.mono (HRo.out ()) ?_; rintro e w1 ⟨rfl, rfl⟩))
  clear hw2 hs2
  go_loopw [22] (fun a wr => ∃ i : Nat, i ≤ R.length ∧ a = .int .i64 (i : Int) ∧ Hid (DrI R w i wr)) (fun a _ => R.length - (intOf a).toNat)
  case atStart => exact ⟨0, by omega, rfl, HI.out⟩
  case round =>
    obtain ⟨i, hi, rfl, HIi⟩ := hrel
    by_cases hlt : i < R.length
    · have hlt' : (i : Int) < (R.length : Int) := by omega
      obtain ⟨hrow, hsl, ao, ka, ca, HA, HSn⟩ := dr_facts HBf HIi hlt
      obtain ⟨q0, q1, q2, q3, q4, q5, q6⟩ := seven_cells HA
      obtain ⟨f0, f1, f2, f3, f4, f5, f6⟩ := seven_fr HA
      have HRW : Hid (RowW wr R[i].g R[i].xs) := HIi.out.wh.left i hlt (Nat.le_refl _)
      have HRWd : Hid (RowW wr.drew R[i].g R[i].xs) := HRW
      have HDi := HDr.out _ (List.getElem_mem hlt)
      have HD : Hid (∀ W, RowW W R[i].g R[i].xs → Calls Tryz.prog 306 #[.pointer (some ⟨c, 0, none⟩), .pointer none, .slice (some ⟨R[i].g, 0, none⟩) R[i].xs.length R[i].xs.length] W fun e w' => e = .returned (.agg #[.int .i64 R[i].hi, .int .u64 R[i].lo, .slice none 0 0, .int .u64 0, .complex .f64 0 0, .float .f64 0, .float .f64 0]) ∧ Hid (RowW w' R[i].g R[i].ys) ∧ Hid (Mid R[i].g (R[i].g + 1) W w')) := fun W => HDi.1 W R[i].g
      have HMg : Hid (∀ W, SN W (.slice ao ka ca) [] → Calls Tryz.prog 88 #[.agg #[.int .i64 (hiOf (sumR R i)), .int .u64 (loOf (sumR R i)), .slice ao ka ca, .int .u64 0, .complex .f64 0 0, .float .f64 0, .float .f64 0], .agg #[.int .i64 R[i].hi, .int .u64 R[i].lo, .slice none 0 0, .int .u64 0, .complex .f64 0 0, .float .f64 0, .float .f64 0]] W fun e w' => ∃ ao k cap, e = .returned (.agg #[.int .i64 (hiOf (sumR R (i + 1))), .int .u64 (loOf (sumR R (i + 1))), .slice ao k cap, .int .u64 0, .complex .f64 0 0, .float .f64 0, .float .f64 0]) ∧ Hid (SN w' (.slice ao k cap) []) ∧ Hid (Below W.heap.size W w')) := fun W hS => by
        rw [sumR_succ R i hlt]
        exact cnt_merge (sumR R i) R[i].hi R[i].lo (.slice ao ka ca) W (sumR_in R i) HDi.2 hS
      have HNx : Hid (∀ w1, RowW w1 R[i].g R[i].ys → Mid R[i].g (R[i].g + 1) wr w1 → Wh R w (i + 1) w1) := fun w1 h1 h2 => HIi.out.wh.next hlt HBf.out.nd h2 h1
      have HNA : Hid (¬ (R[i].g ≤ w.heap.size + 1 ∧ w.heap.size + 1 < R[i].g + 1)) := dr_apart HBf hlt
      clear HDi
      have HNR : Hid (¬ (R[i].g ≤ w.heap.size ∧ w.heap.size < R[i].g + 1)) := dr_apart (k := 0) HBf hlt
      have HL : Hid (∀ r ∈ R, r.g < w.heap.size) := fun r hr => (HBf.out.left r hr).lt
      have HWh : Hid (Wh R w i wr) := HIi.out.wh
      generalize R[i].g = g at *
      generalize R[i].xs = xs at *
      generalize R[i].ys = ys at *
      generalize R[i].hi = hi1 at *
      generalize R[i].lo = lo1 at *
      generalize hiOf (sumR R i) = T1 at *
      generalize loOf (sumR R i) = T0 at *
      have HU : Hid (∃ t, sumR R (i + 1) = t) := ⟨_, rfl⟩
      go_wp2_with fail
      have HAd := hid_drew HA
      have sF := store_f
      have sC := store_c
      go_region_with (first
        | (go_at_call 306; with_reducible refine Calls.mono (HD.out _ (by first | with_reducible exact HRWd.out | with_reducible exact HRW.out)) ?_; rintro e w1 ⟨rfl, HR1, HM1⟩; have HA1 := hid_mid HAd HM1 HNA.out; obtain ⟨q0, q1, q2, q3, q4, q5, q6⟩ := seven_cells HA1)
        | (go_at_call 88; with_reducible refine Calls.mono (HMg.out _ (sn_nil HSn.out)) ?_; rintro e w2 ⟨ao2, k2, c2, rfl, HSn2, HB2⟩; have HA2 := hid_kept HA1 HB2; obtain ⟨p0, p1, p2, p3, p4, p5, p6⟩ := seven_cells HA2; obtain ⟨f0, f1, f2, f3, f4, f5, f6⟩ := seven_fr HA2))
      all_goals
        go_wp2_with fail
        exact ⟨⟨i + 1, by omega, by simp, by rw [put7_eq]; exact dr_next (g := g) HIi (HNx.out w1 HR1.out (mid_drew HM1.out)) HNR.out (mid_drew HM1.out) HB2.out HL.out rfl HA2.out HSn2.out⟩, by simp [intOf]; omega⟩
    · obtain rfl : i = R.length := by omega
      have hlt' : ¬ (R.length : Int) < (R.length : Int) := by omega
      have HRs : Hid _ := HIi.out.res
      obtain ⟨ao, ka, ca, HA, HSn⟩ := dr_all HIi
      obtain ⟨q0, q1, q2, q3, q4, q5, q6⟩ := seven_cells HA
      obtain ⟨p0, p1, p2, p3, p4, p5, p6⟩ := seven_cells HRs
      obtain ⟨f0, f1, f2, f3, f4, f5, f6⟩ := seven_fr HRs
      have sF := store_f
      have sC := store_c
      have HL : Hid (∀ r ∈ R, r.g < w.heap.size) := fun r hr => (HBf.out.left r hr).lt
      have HQ : Hid (∀ v w', SN w' v [] → Wh R w R.length w' → DrQ R w (.returned (.tuple #[.agg #[.int .i64 (hiOf (sumR R R.length)), .int .u64 (loOf (sumR R R.length)), v, .int .u64 0, .complex .f64 0 0, .float .f64 0, .float .f64 0], .int .i64 0])) w') := fun v w' h1 h2 => ⟨v, rfl, h1, h2⟩
      generalize hiOf (sumR R R.length) = T1 at *
      generalize loOf (sumR R R.length) = T0 at *
      go_wp2_with fail
      rw [put7_eq]
      have HE := set_seven (v0 := .int .i64 T1) (v1 := .int .u64 T0) (v2 := .slice ao ka ca) (v3 := .int .u64 0) (v4 := .complex .f64 0 0) (v5 := .float .f64 0) (v6 := .float .f64 0) HRs.out
      obtain ⟨z0, z1, z2, z3, z4, z5, z6⟩ := seven_cells HE
      simp [bodyPost, results, Tryz.results86, go_sem, z0, z1, z2, z3, z4, z5, z6]
      exact HQ.out _ _ (sn_nil HSn.out) (HIi.out.wh.put HL.out (Nat.le_refl _) _ _ _ _ _ _ _)
end Go.Proofs.YtfnohbalkpponaaGreatDoor
/- THE CELLS: Drain of summaries. Own work of the verifier. -/
namespace Go.Proofs.YtfnohbalkpponaaGreatDoor
open Go.RowKit

set_option maxRecDepth 10000 in
set_option maxHeartbeats 4000000 in
theorem drain_summary (s c b h : Nat) (hb : b < 2) (R : List Rw) (w : World) (hB : Buf 302 s c b h R w) (hD : ∀ r ∈ R, Drains 312 (.pointer (some ⟨c, 0, none⟩)) r.xs r.hi r.lo r.ys ∧ Wf r.hi r.lo) (hR : R.length < 1000) :
    Calls Tryz.prog 86 #[.pointer (some ⟨s, 0, none⟩), .pointer none, .int .i64 (b : Int)] w fun e w' => DrQ R w e w' := by
  obtain ⟨cap, hheld⟩ := hB.held
  have hslab := hB.slab
  obtain ⟨w2, hw2⟩ : ∃ w2, (w.alloc (.cells #[.int .i64 0, .int .u64 0, .slice none 0 0, .int .u64 0, .complex .f64 0 0, .float .f64 0, .float .f64 0] 184)).alloc (.cells #[.int .i64 0, .int .u64 0, .slice none 0 0, .int .u64 0, .complex .f64 0 0, .float .f64 0, .float .f64 0] 184) = w2 := ⟨_, rfl⟩
  have hb2 : Below w.heap.size w w2 := by rw [← hw2]; exact bel2 _ _ _
  have g0 : w2.heap[w.heap.size]? = some (.cells #[.int .i64 0, .int .u64 0, .slice none 0 0, .int .u64 0, .complex .f64 0 0, .float .f64 0, .float .f64 0] 184 (0, 0)) := by rw [← hw2]; exact Pr.new1 _ _ _
  have g1 : w2.heap[w.heap.size + 1]? = some (.cells #[.int .i64 0, .int .u64 0, .slice none 0 0, .int .u64 0, .complex .f64 0 0, .float .f64 0, .float .f64 0] 184 (0, 0)) := by rw [← hw2]; exact Pr.new2 _ _ _
  have HI : Hid (DrI R w 0 w2) := dr_start hB g0 g1 hb2
  have HB : Hid (∀ W, _) := isbuf_any b (by omega) (by omega)
  have hl := lt_of_cell hslab
  have hl2 := lt_of_cell hheld
  have hs2 : w2.cell? ⟨s, 0, none⟩ = some (.iface 302 (.pointer (some ⟨c, 0, none⟩))) := (hb2.cell (p := ⟨s, 0, none⟩) hl).trans hslab
  have hc2 : w2.cell? ⟨c, b, none⟩ = some (.slice (some ⟨h, 0, none⟩) R.length cap) := (hb2.cell (p := ⟨c, b, none⟩) hl2).trans hheld
  have HRo : Hid (∀ _ : Unit, _) := fun _ => rows_any c b hb (.slice (some ⟨h, 0, none⟩) R.length cap) w2 hc2
  have HBf : Hid (Buf 302 s c b h R w) := hB
  have HDr : Hid (∀ r ∈ R, Drains 312 (.pointer (some ⟨c, 0, none⟩)) r.xs r.hi r.lo r.ys ∧ Wf r.hi r.lo) := hD
  clear hB hD hheld hslab g0 g1 hc2
  go_enter Tryz.func86, Tryz.ntmps86
  go_wp2_with (first | (go_at_call 132; refine (HB.out _).mono ?_; rintro e w1 ⟨rfl, rfl⟩) | (go_at_call 299; refine Calls.mono (HRo.out ()) ?_; rintro e w1 ⟨rfl, rfl⟩))
  clear hw2 hs2
  go_loopw [22] (fun a wr => ∃ i : Nat, i ≤ R.length ∧ a = .int .i64 (i : Int) ∧ Hid (DrI R w i wr)) (fun a _ => R.length - (intOf a).toNat)
  case atStart => exact ⟨0, by omega, rfl, HI.out⟩
  case round =>
    obtain ⟨i, hi, rfl, HIi⟩ := hrel
    by_cases hlt : i < R.length
    · have hlt' : (i : Int) < (R.length : Int) := by omega
      obtain ⟨hrow, hsl, ao, ka, ca, HA, HSn⟩ := dr_facts HBf HIi hlt
      obtain ⟨q0, q1, q2, q3, q4, q5, q6⟩ := seven_cells HA
      obtain ⟨f0, f1, f2, f3, f4, f5, f6⟩ := seven_fr HA
      have HRW : Hid (RowW wr R[i].g R[i].xs) := HIi.out.wh.left i hlt (Nat.le_refl _)
      have HRWd : Hid (RowW wr.drew R[i].g R[i].xs) := HRW
      have HDi := HDr.out _ (List.getElem_mem hlt)
      have HD : Hid (∀ W, RowW W R[i].g R[i].xs → Calls Tryz.prog 312 #[.pointer (some ⟨c, 0, none⟩), .pointer none, .slice (some ⟨R[i].g, 0, none⟩) R[i].xs.length R[i].xs.length] W fun e w' => e = .returned (.agg #[.int .i64 R[i].hi, .int .u64 R[i].lo, .slice none 0 0, .int .u64 0, .complex .f64 0 0, .float .f64 0, .float .f64 0]) ∧ Hid (RowW w' R[i].g R[i].ys) ∧ Hid (Mid R[i].g (R[i].g + 1) W w')) := fun W => HDi.1 W R[i].g
      have HMg : Hid (∀ W, SN W (.slice ao ka ca) [] → Calls Tryz.prog 88 #[.agg #[.int .i64 (hiOf (sumR R i)), .int .u64 (loOf (sumR R i)), .slice ao ka ca, .int .u64 0, .complex .f64 0 0, .float .f64 0, .float .f64 0], .agg #[.int .i64 R[i].hi, .int .u64 R[i].lo, .slice none 0 0, .int .u64 0, .complex .f64 0 0, .float .f64 0, .float .f64 0]] W fun e w' => ∃ ao k cap, e = .returned (.agg #[.int .i64 (hiOf (sumR R (i + 1))), .int .u64 (loOf (sumR R (i + 1))), .slice ao k cap, .int .u64 0, .complex .f64 0 0, .float .f64 0, .float .f64 0]) ∧ Hid (SN w' (.slice ao k cap) []) ∧ Hid (Below W.heap.size W w')) := fun W hS => by
        rw [sumR_succ R i hlt]
        exact cnt_merge (sumR R i) R[i].hi R[i].lo (.slice ao ka ca) W (sumR_in R i) HDi.2 hS
      have HNx : Hid (∀ w1, RowW w1 R[i].g R[i].ys → Mid R[i].g (R[i].g + 1) wr w1 → Wh R w (i + 1) w1) := fun w1 h1 h2 => HIi.out.wh.next hlt HBf.out.nd h2 h1
      have HNA : Hid (¬ (R[i].g ≤ w.heap.size + 1 ∧ w.heap.size + 1 < R[i].g + 1)) := dr_apart HBf hlt
      clear HDi
      have HNR : Hid (¬ (R[i].g ≤ w.heap.size ∧ w.heap.size < R[i].g + 1)) := dr_apart (k := 0) HBf hlt
      have HL : Hid (∀ r ∈ R, r.g < w.heap.size) := fun r hr => (HBf.out.left r hr).lt
      have HWh : Hid (Wh R w i wr) := HIi.out.wh
      generalize R[i].g = g at *
      generalize R[i].xs = xs at *
      generalize R[i].ys = ys at *
      generalize R[i].hi = hi1 at *
      generalize R[i].lo = lo1 at *
      generalize hiOf (sumR R i) = T1 at *
      generalize loOf (sumR R i) = T0 at *
      have HU : Hid (∃ t, sumR R (i + 1) = t) := ⟨_, rfl⟩
      go_wp2_with fail
      have HAd := hid_drew HA
      have sF := store_f
      have sC := store_c
      go_region_with (first
        | (go_at_call 312; with_reducible refine Calls.mono (HD.out _ (by first | with_reducible exact HRWd.out | with_reducible exact HRW.out)) ?_; rintro e w1 ⟨rfl, HR1, HM1⟩; have HA1 := hid_mid HAd HM1 HNA.out; obtain ⟨q0, q1, q2, q3, q4, q5, q6⟩ := seven_cells HA1)
        | (go_at_call 88; with_reducible refine Calls.mono (HMg.out _ (sn_nil HSn.out)) ?_; rintro e w2 ⟨ao2, k2, c2, rfl, HSn2, HB2⟩; have HA2 := hid_kept HA1 HB2; obtain ⟨p0, p1, p2, p3, p4, p5, p6⟩ := seven_cells HA2; obtain ⟨f0, f1, f2, f3, f4, f5, f6⟩ := seven_fr HA2))
      all_goals
        go_wp2_with fail
        exact ⟨⟨i + 1, by omega, by simp, by rw [put7_eq]; exact dr_next (g := g) HIi (HNx.out w1 HR1.out (mid_drew HM1.out)) HNR.out (mid_drew HM1.out) HB2.out HL.out rfl HA2.out HSn2.out⟩, by simp [intOf]; omega⟩
    · obtain rfl : i = R.length := by omega
      have hlt' : ¬ (R.length : Int) < (R.length : Int) := by omega
      have HRs : Hid _ := HIi.out.res
      obtain ⟨ao, ka, ca, HA, HSn⟩ := dr_all HIi
      obtain ⟨q0, q1, q2, q3, q4, q5, q6⟩ := seven_cells HA
      obtain ⟨p0, p1, p2, p3, p4, p5, p6⟩ := seven_cells HRs
      obtain ⟨f0, f1, f2, f3, f4, f5, f6⟩ := seven_fr HRs
      have sF := store_f
      have sC := store_c
      have HL : Hid (∀ r ∈ R, r.g < w.heap.size) := fun r hr => (HBf.out.left r hr).lt
      have HQ : Hid (∀ v w', SN w' v [] → Wh R w R.length w' → DrQ R w (.returned (.tuple #[.agg #[.int .i64 (hiOf (sumR R R.length)), .int .u64 (loOf (sumR R R.length)), v, .int .u64 0, .complex .f64 0 0, .float .f64 0, .float .f64 0], .int .i64 0])) w') := fun v w' h1 h2 => ⟨v, rfl, h1, h2⟩
      generalize hiOf (sumR R R.length) = T1 at *
      generalize loOf (sumR R R.length) = T0 at *
      go_wp2_with fail
      rw [put7_eq]
      have HE := set_seven (v0 := .int .i64 T1) (v1 := .int .u64 T0) (v2 := .slice ao ka ca) (v3 := .int .u64 0) (v4 := .complex .f64 0 0) (v5 := .float .f64 0) (v6 := .float .f64 0) HRs.out
      obtain ⟨z0, z1, z2, z3, z4, z5, z6⟩ := seven_cells HE
      simp [bodyPost, results, Tryz.results86, go_sem, z0, z1, z2, z3, z4, z5, z6]
      exact HQ.out _ _ (sn_nil HSn.out) (HIi.out.wh.put HL.out (Nat.le_refl _) _ _ _ _ _ _ _)
end Go.Proofs.YtfnohbalkpponaaGreatDoor
/- A SLAB in memory. Own work of the verifier. -/
namespace Go.Proofs.YtfnohbalkpponaaGreatDoor
open Go.RowKit

/-- A slab, its blocks, and what all rows of each buffer hold. -/
structure SlabAt (T : TypeId) (s c : Nat) (h : Nat → Nat) (G : Nat → List Nat) (X : Nat → List Int) (n : Nat) (w : World) : Prop where
  slab : w.cell? ⟨s, 0, none⟩ = some (.iface T (.pointer (some ⟨c, 0, none⟩)))
  held : ∀ b, b < 2 → ∃ cap, w.cell? ⟨c, b, none⟩ = some (.slice (some ⟨h b, 0, none⟩) n cap)
  rows : ∀ b, b < 2 → ∀ i (hi : i < (G b).length), w.cell? ⟨h b, i, none⟩ = some (.slice (some ⟨(G b)[i], 0, none⟩) (X b).length (X b).length)
  len : ∀ b, b < 2 → (G b).length = n
  nd : (G 0 ++ G 1).Nodup
  s_ne : s ∉ G 0 ++ G 1
  c_ne : c ∉ G 0 ++ G 1
  h_ne : ∀ b, b < 2 → h b ∉ G 0 ++ G 1
  left : ∀ b, b < 2 → ∀ g ∈ G b, RowW w g (X b)
/-- The rows of a buffer, as Drain has them. -/
def rwOf (G : List Nat) (xs ys : List Int) : List Rw := G.map fun g => ⟨g, xs, 0, 0, ys⟩
theorem rwOf_len (G : List Nat) (xs ys : List Int) : (rwOf G xs ys).length = G.length := by simp [rwOf]
theorem rwOf_g (G : List Nat) (xs ys : List Int) : (rwOf G xs ys).map (·.g) = G := by simp [rwOf, Function.comp_def]
theorem rwOf_get (G : List Nat) (xs ys : List Int) (i : Nat) (h : i < (rwOf G xs ys).length) : (rwOf G xs ys)[i] = ⟨G[i]'(by rw [rwOf_len] at h; exact h), xs, 0, 0, ys⟩ := by simp [rwOf]
theorem mem_of {G : Nat → List Nat} {b x : Nat} (hb : b < 2) (h : x ∈ G b) : x ∈ G 0 ++ G 1 := by
  rcases (show b = 0 ∨ b = 1 by omega) with rfl | rfl
  · exact List.mem_append_left _ h
  · exact List.mem_append_right _ h
theorem SlabAt.buf {T : TypeId} {s c : Nat} {h : Nat → Nat} {G : Nat → List Nat} {X : Nat → List Int} {n : Nat} {w : World} (H : SlabAt T s c h G X n w) (b : Nat) (hb : b < 2) (ys : List Int) : Buf T s c b (h b) (rwOf (G b) (X b) ys) w := by
  refine ⟨H.slab, ?_, fun i hi => ?_, ?_, ?_, ?_, ?_, ?_⟩
  · rw [rwOf_len, H.len b hb]; exact H.held b hb
  · rw [rwOf_get _ _ _ i hi]
    exact H.rows b hb i (by rw [rwOf_len] at hi; exact hi)
  · rw [rwOf_g]
    rcases (show b = 0 ∨ b = 1 by omega) with rfl | rfl
    · exact (List.nodup_append.1 H.nd).1
    · exact (List.nodup_append.1 H.nd).2.1
  · rw [rwOf_g]; exact fun k => H.s_ne (mem_of hb k)
  · rw [rwOf_g]; exact fun k => H.c_ne (mem_of hb k)
  · rw [rwOf_g]; exact fun k => H.h_ne b hb (mem_of hb k)
  · intro r hr
    obtain ⟨g, hg, rfl⟩ := List.mem_map.1 hr
    exact H.left b hb g hg
theorem off_cell {gs : List Nat} {W W' : World} (h : Off gs W W') {a : Addr} {u : Value} (hc : W.cell? a = some u) (ha : a.block ∉ gs) : W'.cell? a = some u := (World.cell?_of_block (h.block a.block (lt_of_cell hc) ha)).trans hc
/-- One buffer's rows hold others now. -/
def upd (X : Nat → List Int) (b : Nat) (ys : List Int) : Nat → List Int := fun j => if j = b then ys else X j
theorem SlabAt.drained {T : TypeId} {s c : Nat} {h : Nat → Nat} {G : Nat → List Nat} {X : Nat → List Int} {n : Nat} {w w' : World} (H : SlabAt T s c h G X n w) (b : Nat) (hb : b < 2) (ys : List Int) (hy : ys.length = (X b).length) (hw : Wh (rwOf (G b) (X b) ys) w (rwOf (G b) (X b) ys).length w') : SlabAt T s c h G (upd X b ys) n w' := by
  have ho : Off (G b) w w' := by have := hw.off; rwa [rwOf_g] at this
  have hl : ∀ j, (upd X b ys j).length = (X j).length := fun j => by
    by_cases e : j = b
    · subst e; rw [show upd X j ys j = ys from if_pos rfl]; exact hy
    · rw [show upd X b ys j = X j from if_neg e]
  refine ⟨off_cell ho H.slab (fun k => H.s_ne (mem_of hb k)), fun j hj => ?_, fun j hj i hi => ?_, H.len, H.nd, H.s_ne, H.c_ne, H.h_ne, fun j hj g hg => ?_⟩
  · obtain ⟨cap, hc⟩ := H.held j hj
    exact ⟨cap, off_cell ho hc (fun k => H.c_ne (mem_of hb k))⟩
  · rw [hl j]
    exact off_cell ho (H.rows j hj i hi) (fun k => H.h_ne j hj (mem_of hb k))
  · by_cases e : j = b
    · subst e
      obtain ⟨i, hi, rfl⟩ := List.getElem_of_mem hg
      have hi' : i < (rwOf (G j) (X j) ys).length := by rw [rwOf_len]; exact hi
      have := hw.done i hi' hi'
      rw [rwOf_get _ _ _ i hi'] at this
      rw [show upd X j ys j = ys from if_pos rfl]
      exact this
    · rw [show upd X b ys j = X j from if_neg e]
      refine ho.row (H.left j hj g hg) (fun k => ?_)
      have hnd := List.nodup_append.1 H.nd
      rcases (show b = 0 ∨ b = 1 by omega) with rfl | rfl
      · obtain rfl : j = 1 := by omega
        exact hnd.2.2 g k g hg rfl
      · obtain rfl : j = 0 := by omega
        exact hnd.2.2 g hg g k rfl
theorem SlabAt.below {T : TypeId} {s c : Nat} {h : Nat → Nat} {G : Nat → List Nat} {X : Nat → List Int} {n : Nat} {w w' : World} (H : SlabAt T s c h G X n w) (hb : Below w.heap.size w w') : SlabAt T s c h G X n w' := by
  refine ⟨(hb.cell (p := ⟨s, 0, none⟩) (lt_of_cell H.slab)).trans H.slab, fun j hj => ?_, fun j hj i hi => (hb.cell (p := ⟨h j, i, none⟩) (lt_of_cell (H.rows j hj i hi))).trans (H.rows j hj i hi), H.len, H.nd, H.s_ne, H.c_ne, H.h_ne, fun j hj g hg => (H.left j hj g hg).below hb (H.left j hj g hg).lt⟩
  obtain ⟨cap, hc⟩ := H.held j hj
  exact ⟨cap, (hb.cell (p := ⟨c, j, none⟩) (lt_of_cell hc)).trans hc⟩
theorem one_0 {W : World} {b : Nat} {u : Value} {t : TypeId} (h : W.heap[b]? = some (.cells #[u] t (0, 0))) : W.cell? ⟨b, 0, none⟩ = some u := by simp [World.cell?, h]
/-- What was laid, with the slab's own block. -/
theorem slab_of_lay {T : TypeId} {c n wd : Nat} {w w3 : World} (hn : 0 < n) (hL : LayQ c n wd w w3) (o : Obj) (ho : o = .cells #[.iface T (.pointer (some ⟨c, 0, none⟩))] 237 (0, 0)) :
    ∃ h G, SlabAt T w3.heap.size c h G (fun _ => List.replicate wd 0) n (w3.alloc o) ∧ Mid c (c + 1) w w3 ∧ ∀ g ∈ G 0 ++ G 1, w.heap.size ≤ g := by
  obtain ⟨x0, G0, x1, G1, w1, rfl, hG1, h0, h1⟩ := hL
  have hs1 := h0.mid.size
  have hs3 := h1.mid.size
  obtain ⟨a0, cap0, rfl, hB0, hl0⟩ := h0.own.form hn
  obtain ⟨a1, cap1, rfl, hB1, hl1⟩ := h1.own.form (by omega)
  have hc := h0.clt
  have hw1 : ∀ k, k < w1.heap.size → k ≠ c → w3.heap[k]? = w1.heap[k]? := fun k hk hne => h1.mid.block k hk (by omega)
  have l0 : ∀ g ∈ G0, g < w1.heap.size := fun g hg => (h0.rows g hg).lt
  have l1 : ∀ g ∈ G1, g < w3.heap.size := fun g hg => (h1.rows g hg).lt
  have hbw := bel1 w3 o
  have hin : ∀ g ∈ G0 ++ G1, w.heap.size ≤ g ∧ g < w3.heap.size := fun g hg => by
    rcases List.mem_append.1 hg with hg | hg
    · have := h0.ge g hg; have := l0 g hg; omega
    · have := h1.ge g hg; have := l1 g hg; omega
  have r0 : ∀ g ∈ G0, RowW w3 g (List.replicate wd 0) := fun g hg => (h0.rows g hg).mid h1.mid (by have := h0.ge g hg; omega)
  have c0 : w3.cell? ⟨c, 0, none⟩ = some (.slice (some ⟨a0, 0, none⟩) G0.length cap0) := (h1.oth 0 (by decide)).trans h0.cell
  have hcc : ∀ j u, w3.cell? ⟨c, j, none⟩ = some u → (w3.alloc o).cell? ⟨c, j, none⟩ = some u := fun j u hu => (hbw.cell (p := ⟨c, j, none⟩) (lt_of_cell hu)).trans hu
  refine ⟨fun b => if b = 0 then a0 else a1, fun b => if b = 0 then G0 else G1, ⟨?_, fun b hb => ?_, fun b hb i hi => ?_, fun b hb => ?_, ?_, ?_, ?_, fun b hb => ?_, fun b hb g hg => ?_⟩, h0.mid.trans h1.mid, fun g hg => (hin g hg).1⟩
  · subst ho
    have := new_1 w3 (.cells #[.iface T (.pointer (some ⟨c, 0, none⟩))] 237 (0, 0))
    exact one_0 this
  · rcases (show b = 0 ∨ b = 1 by omega) with rfl | rfl
    · exact ⟨cap0, hcc 0 _ c0⟩
    · exact ⟨cap1, hcc 1 _ (by rw [h1.cell]; rw [hG1]; rfl)⟩
  · rw [List.length_replicate]
    rcases (show b = 0 ∨ b = 1 by omega) with rfl | rfl
    · have hi' : i < G0.length := hi
      have k1 := h0.own.cellAt i (by omega)
      have k2 : w1.cell? ⟨a0, i, none⟩ = some (slc wd G0[i]) := by rw [k1]; simp [hi']
      have k3 : w3.cell? ⟨a0, i, none⟩ = some (slc wd G0[i]) := (World.cell?_of_block (hw1 a0 hl0 (by omega))).trans k2
      exact (hbw.cell (p := ⟨a0, i, none⟩) (lt_of_cell k3)).trans k3
    · have hi' : i < G1.length := hi
      have k1 := h1.own.cellAt i (by omega)
      have k3 : w3.cell? ⟨a1, i, none⟩ = some (slc wd G1[i]) := by rw [k1]; simp [hi']
      exact (hbw.cell (p := ⟨a1, i, none⟩) (lt_of_cell k3)).trans k3
  · rcases (show b = 0 ∨ b = 1 by omega) with rfl | rfl
    · rfl
    · exact hG1
  · show (G0 ++ G1).Nodup
    rw [List.nodup_append]
    refine ⟨h0.nd, h1.nd, fun a ha b hb => ?_⟩
    have := l0 a ha; have := h1.ge b hb; omega
  · intro k; have := (hin _ k).2; omega
  · intro k; have := (hin _ k).1; omega
  · rcases (show b = 0 ∨ b = 1 by omega) with rfl | rfl
    · intro k
      rcases List.mem_append.1 k with k | k
      · exact h0.ap a0 rfl k
      · have := h1.ge _ k
        have e : a0 < w1.heap.size := hl0
        simp at this; omega
    · intro k
      rcases List.mem_append.1 k with k | k
      · have := l0 _ k; simp at this; omega
      · exact h1.ap a1 rfl k
  · rcases (show b = 0 ∨ b = 1 by omega) with rfl | rfl
    · exact (r0 g hg).alloc _
    · exact (h1.rows g hg).alloc _
/-- What the rows of each buffer hold, when those below b are emptied. -/
def xb (X Y : List Int) (b : Nat) : Nat → List Int := fun j => if j < b then Y else X
theorem xb_next (X Y : List Int) (b : Nat) : upd (xb X Y b) b Y = xb X Y (b + 1) := by
  funext j
  unfold upd xb
  by_cases e : j = b
  · rw [if_pos e, if_pos (by omega)]
  · rw [if_neg e]
    by_cases k : j < b
    · rw [if_pos k, if_pos (by omega)]
    · rw [if_neg k, if_neg (by omega)]
/-- Where New stands: the buffers below b are emptied. -/
structure NI (T : TypeId) (sb c : Nat) (h : Nat → Nat) (G : Nat → List Nat) (X Y : List Int) (n : Nat) (w : World) (b : Nat) (wr : World) : Prop where
  at_ : SlabAt T sb c h G (xb X Y b) n wr
  below : Below w.heap.size w wr
  ge : ∀ g ∈ G 0 ++ G 1, w.heap.size ≤ g
theorem NI.next {T : TypeId} {sb c : Nat} {h : Nat → Nat} {G : Nat → List Nat} {X Y : List Int} {n : Nat} {w wr w' : World} {b : Nat} (H : NI T sb c h G X Y n w b wr) (hb : b < 2) (hy : Y.length = X.length) {e : Ending} (hd : DrQ (rwOf (G b) (xb X Y b b) Y) wr e w') : (∃ v, e = .returned v) ∧ NI T sb c h G X Y n w (b + 1) w' := by
  obtain ⟨v, rfl, _, hw⟩ := hd
  have hx : xb X Y b b = X := if_neg (by omega)
  refine ⟨⟨_, rfl⟩, ?_, ?_, H.ge⟩
  · rw [← xb_next]
    exact H.at_.drained b hb Y (by rw [hx]; exact hy) hw
  · have ho := hw.off
    rw [rwOf_g] at ho
    refine ⟨ho.os.trans H.below.os, ho.tape.trans H.below.tape, ho.output.trans H.below.output, Nat.le_trans H.below.size ho.size, fun k hk => ?_⟩
    rw [ho.block k (Nat.lt_of_lt_of_le hk H.below.size) (fun m => by have := H.ge k (mem_of hb m); omega)]
    exact H.below.block k hk
theorem wf_zero : Wf 0 0 := by constructor <;> decide
theorem drains_all {fd : FuncId} {pc : Value} {X Y : List Int} (h : Drains fd pc X 0 0 Y) (G : List Nat) : ∀ r ∈ rwOf G X Y, Drains fd pc r.xs r.hi r.lo r.ys ∧ Wf r.hi r.lo := fun r hr => by
  obtain ⟨g, _, rfl⟩ := List.mem_map.1 hr
  exact ⟨h, wf_zero⟩
theorem ni_start {T : TypeId} {c n wd : Nat} {w w2 w3 : World} (hn : 0 < n) (hL : LayQ c n wd w2.drew w3) (hb : Below w.heap.size w w2) (hc : w.heap.size ≤ c) (Y : List Int) :
    ∃ h G, NI T w3.heap.size c h G (List.replicate wd 0) Y n w 0 (w3.alloc (.cells #[.iface T (.pointer (some ⟨c, 0, none⟩))] 237 (0, 0))) := by
  obtain ⟨h, G, h1, h2, h3⟩ := slab_of_lay (T := T) hn hL _ rfl
  have hm : Mid c (c + 1) w2 w3 := mid_drew h2
  refine ⟨h, G, h1, ?_, fun g hg => Nat.le_trans hb.size (h3 g hg)⟩
  have hb3 : Below w.heap.size w w3 := ⟨hm.os.trans hb.os, hm.tape.trans hb.tape, hm.output.trans hb.output, Nat.le_trans hb.size hm.size, fun k hk => by
    rw [hm.block k (Nat.lt_of_lt_of_le hk hb.size) (by omega)]; exact hb.block k hk⟩
  exact hb3.trans ((bel1 w3 _).mono hb3.size)
theorem slab_both {T : TypeId} {s c : Nat} {h : Nat → Nat} {G : Nat → List Nat} {X Y : List Int} {n : Nat} {w : World} (H : SlabAt T s c h G (xb X Y 2) n w) : SlabAt T s c h G (fun _ => Y) n w := by
  have e : ∀ b, b < 2 → xb X Y 2 b = Y := fun b hb => if_pos hb
  refine ⟨H.slab, H.held, fun b hb i hi => ?_, H.len, H.nd, H.s_ne, H.c_ne, H.h_ne, fun b hb g hg => ?_⟩
  · have := H.rows b hb i hi
    rw [e b hb] at this
    exact this
  · have := H.left b hb g hg
    rw [e b hb] at this
    exact this
theorem bare_two {W : World} {c : Nat} {t : TypeId} (h : W.heap[c]? = some (.cells #[.slice none 0 0, .slice none 0 0] t (0, 0))) : Bare c W.drew := ⟨two_0 (W := W.drew) h, two_1 (W := W.drew) h, fun j => hid_fr (W := W.drew) h j⟩
theorem bare_three {W : World} {c : Nat} {t : TypeId} {x : Value} (h : W.heap[c]? = some (.cells #[.slice none 0 0, .slice none 0 0, x] t (0, 0))) : Bare c W.drew := ⟨three_0 (W := W.drew) h, three_1 (W := W.drew) h, fun j => hid_fr (W := W.drew) h j⟩
theorem bare_counter {W : World} {c : Nat} {t : TypeId} (h : Hid (W.heap[c]? = some (.cells #[.slice none 0 0, .slice none 0 0] t (0, 0)))) : Bare c W.drew := bare_two h
theorem bare_summary {W : World} {c : Nat} {t : TypeId} (h : Hid (W.heap[c]? = some (.cells #[.slice none 0 0, .slice none 0 0] t (0, 0)))) : Bare c W.drew := bare_two h
theorem bare_histogram {W : World} {c : Nat} {t : TypeId} {x : Value} (h : Hid (W.heap[c]? = some (.cells #[.slice none 0 0, .slice none 0 0, x] t (0, 0)))) : Bare c W.drew := bare_three h
theorem lay_mid {c n wd : Nat} {w w' : World} (h : Hid (LayQ c n wd w.drew w')) : Mid c (c + 1) w w' := by
  obtain ⟨x0, G0, x1, G1, w1, _, _, h0, h1⟩ := h.out
  exact mid_drew (h0.mid.trans h1.mid)
end Go.Proofs.YtfnohbalkpponaaGreatDoor
/- New, of a counter. Own work of the verifier. -/
namespace Go.Proofs.YtfnohbalkpponaaGreatDoor
open Go.RowKit

set_option maxRecDepth 10000 in
set_option maxHeartbeats 4000000 in
theorem new_counter (s : Nat) (p : Int) (h1 : 1 ≤ s) (h2 : s ≤ 16) (h3 : 1 ≤ p) (h4 : p ≤ 14) (hc : celF 1 (s : Int) p ≤ 1048576) (w : World) :
    Calls Tryz.prog 76 #[.int .i64 1, .int .i64 (s : Int), .int .i64 p] w fun e w' => ∃ sb c h G, e = .returned (.tuple #[.pointer (some ⟨sb, 0, none⟩), .int .i64 0]) ∧ SlabAt 293 sb c h G (fun _ => [0, 0]) s w' ∧ Below w.heap.size w w' ∧ ∀ g ∈ G 0 ++ G 1, w.heap.size ≤ g := by
  obtain ⟨w1, hw1⟩ : ∃ w1, w.alloc (.cells #[.slice none 0 0, .slice none 0 0] 298) = w1 := ⟨_, rfl⟩
  have g1 : w1.heap[w.heap.size]? = some (.cells #[.slice none 0 0, .slice none 0 0] 298 (0, 0)) := by rw [← hw1]; exact new_1 w _
  have hb1 : Below w.heap.size w w1 := by rw [← hw1]; exact bel1 _ _
  have hs1 : w1.heap.size = w.heap.size + 1 := by rw [← hw1]; simp
  have HU : Hid (∀ _ : Unit, Calls Tryz.prog 120 #[.int .i64 1, .int .i64 p] w fun e w' => e = .returned (.iface 293 (.pointer (some ⟨w.heap.size, 0, none⟩))) ∧ w' = w1) := fun _ => by
    have := unlaid_counter p w
    rw [hw1] at this
    exact this
  have HY : Hid (∀ W, Calls Tryz.prog 121 #[.int .i64 (s : Int), .int .i64 p] W fun e w' => e = .returned (.bool true) ∧ w' = W) := fun W => by
    have := smay_any (s : Int) p W
    rw [decide_eq_true (⟨by omega, by omega, h3, h4⟩ : okS (s : Int) p)] at this
    exact this
  have HC : Hid (∀ W, Calls Tryz.prog 75 #[.int .i64 1, .int .i64 (s : Int), .int .i64 p] W fun e w' => e = .returned (.int .i64 (celF 1 (s : Int) p)) ∧ Hid (Below W.heap.size W w')) := fun W => cells_counter (s : Int) p W
  have HG : Hid (w1.heap[w.heap.size]? = some (.cells #[.slice none 0 0, .slice none 0 0] 298 (0, 0))) := g1
  have hmf : ∀ (fn : Fn) (first cap : Array Value) (w : World), (Instr.makeFunc fn first cap).run Tryz.prog w = .ok (.func fn first cap) w := fun _ _ _ _ => rfl
  have hna : ∀ (a : Addr) (w : World), (nilAhead 503 293 (.pointer (some a)) "gnomon/slab.lay").run Tryz.prog w = .ok (some false) w := fun _ _ => by kernel_rfl
  have hnc : ¬ (1048576 : Int) < celF 1 (s : Int) p := by omega
  have HB1 : Hid _ := hb1
  clear g1 hb1 hw1 hc
  generalize celF 1 (s : Int) p = q at *
  have hnd : decide ((1048576 : Int) < q) = false := decide_eq_false hnc
  go_enter Tryz.func76, Tryz.ntmps76
  go_upto_region 8 with (first
    | (go_at_call 120; with_reducible refine Calls.mono (HU.out ()) ?_; rintro e w0 ⟨rfl, rfl⟩)
    | (go_at_call 121; with_reducible refine Calls.mono (HY.out _) ?_; rintro e w0 ⟨rfl, rfl⟩)
    | (go_at_call 75; with_reducible refine Calls.mono (HC.out _) ?_; rintro e w2 ⟨rfl, HB2⟩))
  have HG2 := hid_kept HG HB2
  generalize hcc : w.heap.size = c at *
  have HBa : Hid (Bare c w2.drew) := bare_counter HG2
  have HWd : Hid (∀ _ : Unit, Calls Tryz.prog 301 #[.pointer (some ⟨c, 0, none⟩)] w2.drew fun e w' => e = .returned (.int .i64 2) ∧ w' = w2.drew) := fun _ => cwidth_any _ _
  have HLy : Hid (∀ _ : Unit, Calls Tryz.prog 297 #[.pointer (some ⟨c, 0, none⟩), .int .i64 (s : Int), .int .i64 2] w2.drew fun e w' => e = .returned (.tuple #[]) ∧ Hid (LayQ c s 2 w2.drew w')) := fun _ => lay_any c s 2 h2 (by omega) w2.drew HBa.out
  clear HBa
  go_region_held3 (fun W => Mid c (c + 1) w2 W) (first | with_reducible assumption | exact Mid.refl _ _ _ | exact (Mid.refl _ _ _).drew)
    (first
      | (go_at_call 301; with_reducible refine Calls.mono (HWd.out ()) ?_; rintro e w3 ⟨rfl, rfl⟩)
      | (go_at_call 297; with_reducible refine Calls.mono (HLy.out ()) ?_; rintro e w3 ⟨rfl, HL3⟩; have hm3 := lay_mid HL3))
  all_goals
    obtain ⟨h, G, hNI⟩ := ni_start (T := 293) (w := w) (by omega : 0 < s) HL3.out (bt (by rw [hcc]; exact HB1.out) HB2.out) (by omega) [0, 0]
    have HNI : Hid (NI 293 w3.heap.size c h G [0, 0] [0, 0] s w 0 _) := hNI
    clear hNI HL3 hm3 hna hmf
    go_wp2_with fail
    go_loopw [36] (fun a wr => ∃ b : Nat, b ≤ 2 ∧ a = .int .i64 (b : Int) ∧ Hid (NI 293 w3.heap.size c h G [0, 0] [0, 0] s w b wr)) (fun a _ => 2 - (intOf a).toNat)
    case atStart => exact ⟨0, by omega, rfl, HNI.out⟩
    case round =>
      obtain ⟨b, hb2, rfl, HI⟩ := hrel
      by_cases hb : b < 2
      · have hb' : (b : Int) < 2 := by omega
        have HDr : Hid (∀ _ : Unit, Calls Tryz.prog 86 #[.pointer (some ⟨w3.heap.size, 0, none⟩), .pointer none, .int .i64 (b : Int)] wr fun e w' => (∃ v, e = .returned v) ∧ Hid (NI 293 w3.heap.size c h G [0, 0] [0, 0] s w (b + 1) w')) := fun _ => by
          have hx : xb [0, 0] [0, 0] b b = [0, 0] := if_neg (by omega)
          refine Calls.mono (drain_counter w3.heap.size c b (h b) hb (rwOf (G b) (xb [0, 0] [0, 0] b b) [0, 0]) wr (HI.out.at_.buf b hb [0, 0]) ?_ ?_) ?_
          · rw [hx]; exact drains_all (drains_counter _) (G b)
          · rw [rwOf_len, HI.out.at_.len b hb]; omega
          · exact fun e w' hd => HI.out.next hb (by simp) hd
        go_wp2_with (go_at_call 86; with_reducible refine Calls.mono (HDr.out ()) ?_; rintro e w5 ⟨⟨v, rfl⟩, HI5⟩)
        exact ⟨⟨b + 1, by omega, by simp, HI5.out⟩, by simp [intOf]; omega⟩
      · obtain rfl : b = 2 := by omega
        go_wp2_with fail
        go_ret2
        exact ⟨w3.heap.size, c, h, G, rfl, slab_both HI.out.at_, HI.out.below, HI.out.ge⟩
end Go.Proofs.YtfnohbalkpponaaGreatDoor
