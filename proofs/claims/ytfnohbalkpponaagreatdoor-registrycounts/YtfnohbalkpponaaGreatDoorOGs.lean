/- DRAIN OF A SLAB, whatever it holds: summary. Own work of the verifier. -/
import Derived.Test.YtfnohbalkpponaaGreatDoorZBB
namespace Go.Proofs.YtfnohbalkpponaaGreatDoor
open Go.RowKit

set_option maxRecDepth 10000 in
set_option maxHeartbeats 8000000 in
theorem drainP_summary (M : Nat) (hM : M ≤ 1048576) (s c b h : Nat) (hb : b < 2) (R : List Rw) (X : Nat → Pt) (w : World) (hB : Buf 302 s c b h R w) (hD : ∀ i (hi : i < R.length), DrainsP 312 (.pointer (some ⟨c, 0, none⟩)) R[i].xs (X i) R[i].ys ∧ (X i).Ok M) (hR : R.length < 1000) :
    Calls Tryz.prog 86 #[.pointer (some ⟨s, 0, none⟩), .pointer none, .int .i64 (b : Int)] w fun e w' => DrPQ M R X w e w' := by
  obtain ⟨cap, hheld⟩ := hB.held
  have hslab := hB.slab
  obtain ⟨w2, hw2⟩ : ∃ w2, (w.alloc (.cells #[.int .i64 0, .int .u64 0, .slice none 0 0, .int .u64 0, .complex .f64 0 0, .float .f64 0, .float .f64 0] 184)).alloc (.cells #[.int .i64 0, .int .u64 0, .slice none 0 0, .int .u64 0, .complex .f64 0 0, .float .f64 0, .float .f64 0] 184) = w2 := ⟨_, rfl⟩
  have hb2 : Below w.heap.size w w2 := by rw [← hw2]; exact bel2 _ _ _
  have g0 : w2.heap[w.heap.size]? = some (.cells #[.int .i64 0, .int .u64 0, .slice none 0 0, .int .u64 0, .complex .f64 0 0, .float .f64 0, .float .f64 0] 184 (0, 0)) := by rw [← hw2]; exact Pr.new1 _ _ _
  have g1 : w2.heap[w.heap.size + 1]? = some (.cells #[.int .i64 0, .int .u64 0, .slice none 0 0, .int .u64 0, .complex .f64 0 0, .float .f64 0, .float .f64 0] 184 (0, 0)) := by rw [← hw2]; exact Pr.new2 _ _ _
  have HI : Hid (DrP M R X w 0 w2) := drp_start hB g0 g1 hb2
  have HB : Hid (∀ W, _) := isbuf_any b (by omega) (by omega)
  have hl := lt_of_cell hslab
  have hl2 := lt_of_cell hheld
  have hs2 : w2.cell? ⟨s, 0, none⟩ = some (.iface 302 (.pointer (some ⟨c, 0, none⟩))) := (hb2.cell (p := ⟨s, 0, none⟩) hl).trans hslab
  have hc2 : w2.cell? ⟨c, b, none⟩ = some (.slice (some ⟨h, 0, none⟩) R.length cap) := (hb2.cell (p := ⟨c, b, none⟩) hl2).trans hheld
  have HRo : Hid (∀ _ : Unit, _) := fun _ => rows_any c b hb (.slice (some ⟨h, 0, none⟩) R.length cap) w2 hc2
  have HBf : Hid (Buf 302 s c b h R w) := hB
  have HDr : Hid (∀ i (hi : i < R.length), DrainsP 312 (.pointer (some ⟨c, 0, none⟩)) R[i].xs (X i) R[i].ys ∧ (X i).Ok M) := hD
  clear hB hD hheld hslab g0 g1 hc2
  go_enter Tryz.func86, Tryz.ntmps86
  go_wp2_with (first | (go_at_call 132; refine (HB.out _).mono ?_; rintro e w1 ⟨rfl, rfl⟩) | (go_at_call 299; refine Calls.mono (HRo.out ()) ?_; rintro e w1 ⟨rfl, rfl⟩))
  clear hw2 hs2
  go_loopw [22] (fun a wr => ∃ i : Nat, i ≤ R.length ∧ a = .int .i64 (i : Int) ∧ Hid (DrP M R X w i wr)) (fun a _ => R.length - (intOf a).toNat)
  case atStart => exact ⟨0, by omega, rfl, HI.out⟩
  case round =>
    obtain ⟨i, hi, rfl, HIi⟩ := hrel
    by_cases hlt : i < R.length
    · have hlt' : (i : Int) < (R.length : Int) := by omega
      obtain ⟨hrow, hsl⟩ := drp_cells HBf HIi hlt
      obtain ⟨P, ao, ka, ca, HF, HP, HA, HO⟩ := drp_all HIi
      obtain ⟨q0, q1, q2, q3, q4, q5, q6⟩ := seven_cells HA
      obtain ⟨f0, f1, f2, f3, f4, f5, f6⟩ := seven_fr HA
      have HRW : Hid (RowW wr R[i].g R[i].xs) := HIi.out.wh.left i hlt (Nat.le_refl _)
      have HRWd : Hid (RowW wr.drew R[i].g R[i].xs) := HRW
      have HDi := HDr.out i hlt
      have hgl : R[i].g < w.heap.size := (HBf.out.left _ (List.getElem_mem hlt)).lt
      have HD : Hid (∀ W, RowW W R[i].g R[i].xs → Calls Tryz.prog 312 #[.pointer (some ⟨c, 0, none⟩), .pointer none, .slice (some ⟨R[i].g, 0, none⟩) R[i].xs.length R[i].xs.length] W fun e w' => ∃ ao k cap, e = .returned (.agg #[.int .i64 (X i).hi, .int .u64 (X i).lo, .slice ao k cap, .int .u64 ((X i).n : Int), .complex .f64 (X i).s (X i).c, .float .f64 (X i).mn, .float .f64 (X i).mx]) ∧ Hid (SN w' (.slice ao k cap) (X i).L) ∧ Hid (RowW w' R[i].g R[i].ys) ∧ Hid (Mid R[i].g (R[i].g + 1) W w')) := fun W => HDi.1 W R[i].g
      have HMg : Hid (∀ W v', wr.heap.size ≤ W.heap.size → Mid R[i].g (R[i].g + 1) wr W → SN W v' (X i).L → Calls Tryz.prog 88 #[.agg #[.int .i64 P.hi, .int .u64 P.lo, .slice ao ka ca, .int .u64 (P.n : Int), .complex .f64 P.s P.c, .float .f64 P.mn, .float .f64 P.mx], .agg #[.int .i64 (X i).hi, .int .u64 (X i).lo, v', .int .u64 ((X i).n : Int), .complex .f64 (X i).s (X i).c, .float .f64 (X i).mn, .float .f64 (X i).mx]] W fun e w' => ∃ (P' : Pt) (ao : Option Addr) (k cap : Nat), e = .returned (.agg #[.int .i64 P'.hi, .int .u64 P'.lo, .slice ao k cap, .int .u64 (P'.n : Int), .complex .f64 P'.s P'.c, .float .f64 P'.mn, .float .f64 P'.mx]) ∧ Hid (MrgR P (X i) P') ∧ Hid (w'.ownsRow W.heap.size 160 2 (.slice ao k cap) P'.L.length (fl P'.L)) ∧ Hid (Below W.heap.size W w')) := fun W v' hsz hm hS =>
        pmerge_p hM HP.out HDi.2 _ v' W (own_sn (own_mid HO.out hm (by omega)) (by have := HIi.out.wh.off.size; omega)) hS
      have HNx : Hid (∀ w1, RowW w1 R[i].g R[i].ys → Mid R[i].g (R[i].g + 1) wr w1 → Wh R w (i + 1) w1) := fun w1 h1 h2 => HIi.out.wh.next hlt HBf.out.nd h2 h1
      have HNA : Hid (¬ (R[i].g ≤ w.heap.size + 1 ∧ w.heap.size + 1 < R[i].g + 1)) := dr_apart HBf hlt
      have HOk : Hid ((X i).Ok M) := HDi.2
      clear HDi hgl
      have HNR : Hid (¬ (R[i].g ≤ w.heap.size ∧ w.heap.size < R[i].g + 1)) := dr_apart (k := 0) HBf hlt
      have HL : Hid (∀ r ∈ R, r.g < w.heap.size) := fun r hr => (HBf.out.left r hr).lt
      have HNext : Hid (∀ (w1 w2 : World) (P' : Pt) (ao2 : Option Addr) (k2 c2 : Nat) (r0 r1 r2 r3 r4 r5 r6 : Value), RowW w1 R[i].g R[i].ys → Mid R[i].g (R[i].g + 1) wr w1 → Below w1.heap.size w1 w2 → MrgR P (X i) P' → w2.heap[w.heap.size + 1]? = some (.cells #[r0, r1, r2, r3, r4, r5, r6] 184 (0, 0)) → w2.ownsRow w1.heap.size 160 2 (.slice ao2 k2 c2) P'.L.length (fl P'.L) → DrP M R X w (i + 1) (put7 w2 (w.heap.size + 1) (.int .i64 P'.hi) (.int .u64 P'.lo) (.slice ao2 k2 c2) (.int .u64 (P'.n : Int)) (.complex .f64 P'.s P'.c) (.float .f64 P'.mn) (.float .f64 P'.mx))) := fun w1 w2 P' ao2 k2 c2 r0 r1 r2 r3 r4 r5 r6 a1 a2 a3 a4 a5 a6 => drp_next (_ao := ao) HIi (HNx.out w1 a1 a2) HNR.out a2 a3 HL.out HF.out HP.out HOk.out a4 a5 a6
      clear HNx HOk HNR HL HF HP
      generalize R[i].g = g at *
      generalize R[i].xs = xs at *
      generalize R[i].ys = ys at *
      generalize X i = Xi at *
      go_wp2_with fail
      have HAd := hid_drew HA
      have sF := store_f
      have sC := store_c
      go_region_with (first
        | (go_at_call 312; with_reducible refine Calls.mono (HD.out _ (by first | with_reducible exact HRWd.out | with_reducible exact HRW.out)) ?_; rintro e w1 ⟨ao1, k1, c1, rfl, HS1, HR1, HM1⟩; have HA1 := hid_mid HAd HM1 HNA.out; obtain ⟨q0, q1, q2, q3, q4, q5, q6⟩ := seven_cells HA1)
        | (go_at_call 88; with_reducible refine Calls.mono (HMg.out _ _ (mid_drew HM1.out).size (mid_drew HM1.out) HS1.out) ?_; rintro e w2 ⟨P', ao2, k2, c2, rfl, HR2, HO2, HB2⟩; have HA2 := hid_kept HA1 HB2; obtain ⟨p0, p1, p2, p3, p4, p5, p6⟩ := seven_cells HA2; obtain ⟨f0, f1, f2, f3, f4, f5, f6⟩ := seven_fr HA2))
      all_goals
        go_wp2_with fail
        exact ⟨⟨i + 1, by omega, by simp, by rw [put7_eq]; exact HNext.out w1 w2 P' ao2 k2 c2 _ _ _ _ _ _ _ HR1.out (mid_drew HM1.out) HB2.out HR2.out HA2.out HO2.out⟩, by simp [intOf]; omega⟩
    · obtain rfl : i = R.length := by omega
      have hlt' : ¬ (R.length : Int) < (R.length : Int) := by omega
      have HRs : Hid _ := HIi.out.res
      obtain ⟨P, ao, ka, ca, HF, HP, HA, HO⟩ := drp_all HIi
      obtain ⟨q0, q1, q2, q3, q4, q5, q6⟩ := seven_cells HA
      obtain ⟨p0, p1, p2, p3, p4, p5, p6⟩ := seven_cells HRs
      obtain ⟨f0, f1, f2, f3, f4, f5, f6⟩ := seven_fr HRs
      have sF := store_f
      have sC := store_c
      have HL : Hid (∀ r ∈ R, r.g < w.heap.size) := fun r hr => (HBf.out.left r hr).lt
      have HQ : Hid (∀ w', w'.ownsRow w.heap.size 160 2 (.slice ao ka ca) P.L.length (fl P.L) → Wh R w R.length w' → DrPQ M R X w (.returned (.tuple #[.agg #[.int .i64 P.hi, .int .u64 P.lo, .slice ao ka ca, .int .u64 (P.n : Int), .complex .f64 P.s P.c, .float .f64 P.mn, .float .f64 P.mx], .int .i64 0])) w') := fun w' h1 h2 => ⟨P, ao, ka, ca, rfl, HF.out, HP.out, h1, h2⟩
      go_wp2_with fail
      rw [put7_eq]
      have HE := set_seven (v0 := .int .i64 P.hi) (v1 := .int .u64 P.lo) (v2 := .slice ao ka ca) (v3 := .int .u64 (P.n : Int)) (v4 := .complex .f64 P.s P.c) (v5 := .float .f64 P.mn) (v6 := .float .f64 P.mx) HRs.out
      obtain ⟨z0, z1, z2, z3, z4, z5, z6⟩ := seven_cells HE
      simp [bodyPost, results, Tryz.results86, go_sem, z0, z1, z2, z3, z4, z5, z6]
      exact HQ.out _ (own_mid_ne HO.out (mid_put7 _ _ _ _ _ _ _ _ _) (own_nty HO.out HRs.out (by decide))) (HIi.out.wh.put HL.out (Nat.le_refl _) _ _ _ _ _ _ _)
end Go.Proofs.YtfnohbalkpponaaGreatDoor
