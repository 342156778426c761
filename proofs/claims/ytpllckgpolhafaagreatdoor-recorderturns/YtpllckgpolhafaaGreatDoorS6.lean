/- THE CELLS: rows of noughts are emptied, of histograms and summaries. Own work of the verifier. -/
import Derived.Test.YtpllckgpolhafaaGreatDoorS5
namespace Go.Proofs.YtpllckgpolhafaaGreatDoor
open Go.RowKit

theorem inf_up (w : World) : Calls Tryz.prog 234 #[.int .i64 1] w fun e w' => e = .returned (.float .f64 9218868437227405312) ∧ w' = w := by
  have hf := Pr.mf64from
  go_enter Tryz.func234, Tryz.ntmps234
  go_wp2
  go_ret
  exact ⟨rfl, rfl⟩
theorem inf_down (w : World) : Calls Tryz.prog 234 #[.int .i64 (-1)] w fun e w' => e = .returned (.float .f64 18442240474082181120) ∧ w' = w := by
  have hf := Pr.mf64from
  go_enter Tryz.func234, Tryz.ntmps234
  go_wp2
  go_ret
  exact ⟨rfl, rfl⟩
theorem swapF_zero (g i : Nat) (xs : List Int) (b : Nat) (y : Int) (hb : wrap64 (b : Int) = y) (W : World) (h : RowW W g xs) (hi : i < xs.length) (hx : xs[i] = 0) (ys : List Int) (hy : xs.set i y = ys) :
    Calls Tryz.prog 233 #[.pointer none, .pointer (some ⟨g, i, none⟩), .float .f64 b] W fun e w' => e = .returned (.float .f64 0) ∧ Hid (RowW w' g ys) ∧ Hid (Mid g (g + 1) W w') := by
  have HS : Hid (∀ _ : Unit, _) := fun _ => wswap_row g i xs 0 y W h hi hx ys hy
  have h1 := Pr.mf64bits
  have h2 := Pr.mf64from
  clear h
  subst hb
  go_enter Tryz.func233, Tryz.ntmps233
  go_wp2_with (go_at_call 30; with_reducible refine Calls.mono (HS.out ()) ?_; rintro e w1 ⟨rfl, HR1, HM1⟩)
  go_ret
  exact ⟨rfl, HR1, HM1⟩
theorem mid_drewR {n0 B : Nat} {W W' : World} (h : Mid n0 B W W') : Mid n0 B W W'.drew := h.drew
set_option maxRecDepth 10000 in
set_option maxHeartbeats 4000000 in
theorem sdrain_zero (p : Value) (g : Nat) (w : World) (h : RowW w g [0, 0, 0, 0, 0]) :
    Calls Tryz.prog 229 #[p, .pointer none, .slice (some ⟨g, 0, none⟩) 5 5] w fun e w' => e = .returned (part 0 0 (.slice none 0 0) 0 0 0 0 0) ∧ Hid (RowW w' g [0, 0, 0, 9218868437227405312, -4503599627370496]) ∧ Hid (Mid g (g + 1) w w') := by
  have HS0 : Hid (∀ W, RowW W g [0, 0, 0, 0, 0] → _) := fun W hW => wswap_row g 0 _ 0 0 W hW (by simp) rfl [0, 0, 0, 0, 0] rfl
  have HS1 : Hid (∀ W, RowW W g [0, 0, 0, 0, 0] → _) := fun W hW => swapF_zero g 1 _ 0 0 (by unfold wrap64; omega) W hW (by simp) rfl [0, 0, 0, 0, 0] rfl
  have HS2 : Hid (∀ W, RowW W g [0, 0, 0, 0, 0] → _) := fun W hW => swapF_zero g 2 _ 0 0 (by unfold wrap64; omega) W hW (by simp) rfl [0, 0, 0, 0, 0] rfl
  have HS3 : Hid (∀ W, RowW W g [0, 0, 0, 0, 0] → _) := fun W hW => swapF_zero g 3 _ 9218868437227405312 9218868437227405312 (by unfold wrap64; omega) W hW (by simp) rfl [0, 0, 0, 9218868437227405312, 0] rfl
  have HS4 : Hid (∀ W, RowW W g [0, 0, 0, 9218868437227405312, 0] → _) := fun W hW => swapF_zero g 4 _ 18442240474082181120 (-4503599627370496) (by unfold wrap64; omega) W hW (by simp) rfl [0, 0, 0, 9218868437227405312, -4503599627370496] rfl
  have HU : Hid (∀ W, _) := inf_up
  have HD : Hid (∀ W, _) := inf_down
  have hl := h.lt
  have hn1 : ¬ (g ≤ w.heap.size ∧ w.heap.size < g + 1) := by omega
  have HN : Hid _ := new_1 w (.cells #[.int .i64 0, .int .u64 0, .slice none 0 0, .int .u64 0, .complex .f64 0 0, .float .f64 0, .float .f64 0] 60)
  obtain ⟨w0, hw0⟩ : ∃ w0, w.alloc (.cells #[.int .i64 0, .int .u64 0, .slice none 0 0, .int .u64 0, .complex .f64 0 0, .float .f64 0, .float .f64 0] 60) = w0 := ⟨_, rfl⟩
  have HR : Hid (RowW w0 g [0, 0, 0, 0, 0]) := by rw [← hw0]; exact h.alloc _
  have HM0 : Hid (Mid g (g + 1) w w0) := by rw [← hw0]; exact (Mid.refl _ _ _).alloc _
  rw [hw0] at HN
  clear h
  go_enter Tryz.func229, Tryz.ntmps229
  go_upto_region 4 with (first
    | (go_at_call 30; with_reducible refine Calls.mono (HS0.out _ HR.out) ?_; rintro e w1 ⟨rfl, HR1, HM1⟩)
    | (go_at_call 233; with_reducible refine Calls.mono (HS1.out _ HR1.out) ?_; rintro e w2 ⟨rfl, HR2, HM2⟩)
    | (go_at_call 233; with_reducible refine Calls.mono (HS2.out _ HR2.out) ?_; rintro e w3 ⟨rfl, HR3, HM3⟩))
  clear hw0
  have HR3d : Hid (RowW w3.drew g [0, 0, 0, 0, 0]) := HR3
  go_region_held3 (fun W => Mid g (g + 1) w3 W) (first | with_reducible assumption | exact Mid.refl _ _ _ | exact (Mid.refl _ _ _).drew)
    (first
      | (go_at_call 234; with_reducible refine Calls.mono (HU.out _) ?_; rintro e w4 ⟨rfl, rfl⟩)
      | (go_at_call 233; with_reducible refine Calls.mono (HS3.out _ HR3d.out) ?_; rintro e w4 ⟨rfl, HR4, HM4⟩; have hm4 := mid_drew HM4.out))
  go_upto_region 5 with fail
  have HR4d : Hid (RowW w4.drew g [0, 0, 0, 9218868437227405312, 0]) := HR4
  go_region_held3 (fun W => Mid g (g + 1) w4 W) (first | with_reducible assumption | exact Mid.refl _ _ _ | exact (Mid.refl _ _ _).drew)
    (first
      | (go_at_call 234; with_reducible refine Calls.mono (HD.out _) ?_; rintro e w5 ⟨rfl, rfl⟩)
      | (go_at_call 233; with_reducible refine Calls.mono (HS4.out _ HR4d.out) ?_; rintro e w5 ⟨rfl, HR5, HM5⟩; have hm5 := mid_drew HM5.out))
  have HM : Hid (Mid g (g + 1) w w5) := HM0.out.trans (HM1.out.trans (HM2.out.trans (HM3.out.trans (hm4.trans hm5))))
  have HN5 := hid_mid (hid_mid HN (HM1.out.trans (HM2.out.trans (HM3.out.trans (hm4.trans hm5)))) hn1) (Mid.refl g (g + 1) w5) hn1
  obtain ⟨q0, q1, q2, q3, q4, q5, q6⟩ := seven_cells HN5
  obtain ⟨f0, f1, f2, f3, f4, f5, f6⟩ := seven_fr HN5
  have sF := store_f
  have sC := store_c
  go_wp2_with fail
  rw [put7_eq]
  have HE := set_seven (v0 := .int .i64 0) (v1 := .int .u64 0) (v2 := .slice none 0 0) (v3 := .int .u64 0) (v4 := .complex .f64 0 0) (v5 := .float .f64 0) (v6 := .float .f64 0) HN5.out
  obtain ⟨z0, z1, z2, z3, z4, z5, z6⟩ := seven_cells HE
  simp [bodyPost, results, Tryz.results229, go_sem, z0, z1, z2, z3, z4, z5, z6]
  exact ⟨HR5.out.put7 (by omega) _ _ _ _ _ _ _, HM.out.put7 (Nat.le_refl _) _ _ _ _ _ _ _⟩
/-- Where a histogram's emptying stands. -/
structure HdI (g k m : Nat) (w wr : World) : Prop where
  row : RowW wr g (List.replicate (m + 2) 0)
  mid : Mid g (g + 1) w wr
  res : wr.heap[w.heap.size]? = some (.cells #[.int .i64 0, .int .u64 0, .slice none 0 0, .int .u64 0, .complex .f64 0 0, .float .f64 0, .float .f64 0] 60 (0, 0))
  prt : wr.heap[k]? = some (.cells #[.int .i64 0, .int .u64 0, .slice none 0 0, .int .u64 0, .complex .f64 0 0, .float .f64 0, .float .f64 0] 60 (0, 0))
theorem HdI.next {g k m : Nat} {w wr w1 : World} (h : HdI g k m w wr) (hg : g < w.heap.size) (hk : w.heap.size ≤ k) (hr : RowW w1 g (List.replicate (m + 2) 0)) (hm : Mid g (g + 1) wr w1) : HdI g k m w w1 :=
  ⟨hr, h.mid.trans hm, (hm.block _ (Array.getElem?_eq_some_iff.1 h.res).1 (by omega)).trans h.res, (hm.block _ (Array.getElem?_eq_some_iff.1 h.prt).1 (by omega)).trans h.prt⟩
set_option maxRecDepth 10000 in
set_option maxHeartbeats 4000000 in
theorem hdrain_zero (p : Value) (g m : Nat) (hm : m ≤ 16777216) (w : World) (h : RowW w g (List.replicate (m + 2) 0)) :
    Calls Tryz.prog 223 #[p, .pointer none, .slice (some ⟨g, 0, none⟩) (m + 2) (m + 2)] w fun e w' => e = .returned (part 0 0 (.slice none 0 0) 0 0 0 0 0) ∧ Hid (RowW w' g (List.replicate (m + 2) 0)) ∧ Hid (Mid g (g + 1) w w') := by
  have HS : Hid (∀ W, RowW W g (List.replicate (m + 2) 0) → Calls Tryz.prog 221 #[.pointer none, .slice (some ⟨g, 0, none⟩) (m + 2) (m + 2)] W fun e w' => e = .returned (.agg #[.int .i64 0, .int .u64 0]) ∧ Hid (RowW w' g (List.replicate (m + 2) 0)) ∧ Hid (Mid g (g + 1) W w')) := fun W hW => by
    have := drainSum_any g (m + 2) 0 0 (List.replicate m 0) W hW
    rw [List.length_replicate] at this
    exact this
  have HW : Hid (∀ (W : World) (i : Nat), i < m → RowW W g (List.replicate (m + 2) 0) → Calls Tryz.prog 30 #[.pointer (some ⟨g, 2 + i, none⟩), .pointer none, .int .i64 0] W fun e w' => e = .returned (.int .i64 0) ∧ Hid (RowW w' g (List.replicate (m + 2) 0)) ∧ Hid (Mid g (g + 1) W w')) := fun W i hi hW =>
    wswap_row g (2 + i) _ 0 0 W hW (by simp; omega) (by simp) _ (by rw [List.set_replicate_self])
  have hl := h.lt
  have hn1 : ¬ (g ≤ w.heap.size ∧ w.heap.size < g + 1) := by omega
  have HN : Hid _ := new_1 w (.cells #[.int .i64 0, .int .u64 0, .slice none 0 0, .int .u64 0, .complex .f64 0 0, .float .f64 0, .float .f64 0] 60)
  obtain ⟨w0, hw0⟩ : ∃ w0, w.alloc (.cells #[.int .i64 0, .int .u64 0, .slice none 0 0, .int .u64 0, .complex .f64 0 0, .float .f64 0, .float .f64 0] 60) = w0 := ⟨_, rfl⟩
  have HR : Hid (RowW w0 g (List.replicate (m + 2) 0)) := by rw [← hw0]; exact h.alloc _
  have HM0 : Hid (Mid g (g + 1) w w0) := by rw [← hw0]; exact (Mid.refl _ _ _).alloc _
  have hs0 : w.heap.size < w0.heap.size := by rw [← hw0]; simp
  rw [hw0] at HN
  have sF := store_f
  have sC := store_c
  clear h
  go_enter Tryz.func223, Tryz.ntmps223
  go_upto_region 2 with (go_at_call 221; with_reducible refine Calls.mono (HS.out _ HR.out) ?_; rintro e w1 ⟨rfl, HR1, HM1⟩)
  clear hw0
  have hs1 : w0.heap.size ≤ w1.heap.size := HM1.out.size
  have HI0 : Hid (HdI g w1.heap.size m w (w1.alloc (.cells #[.int .i64 0, .int .u64 0, .slice none 0 0, .int .u64 0, .complex .f64 0 0, .float .f64 0, .float .f64 0] 60))) :=
    ⟨HR1.out.alloc _, (HM0.out.trans HM1.out).alloc _, ((bel1 w1 _).block _ (by omega)).trans ((HM1.out.block _ hs0 hn1).trans HN.out), new_1 w1 _⟩
  have hk : w.heap.size < w1.heap.size := by omega
  generalize w1.heap.size = k at *
  go_wp2_with fail
  go_loopw [17] (fun a wr => ∃ i : Nat, i ≤ m ∧ a = .int .i64 (i : Int) ∧ Hid (HdI g k m w wr)) (fun a _ => m - (intOf a).toNat)
  case atStart => exact ⟨0, by omega, rfl, HI0.out⟩
  case round =>
    obtain ⟨i, hi, rfl, HI⟩ := hrel
    by_cases hlt : i < m
    · have hlt' : (i : Int) < (m : Int) := by omega
      have HSw : Hid (∀ _ : Unit, _) := fun _ => HW.out wr i hlt HI.out.row
      have e1 : (((2 + i : Nat) : Nat) : Int) = 2 + (i : Int) := by omega
      go_wp2_with (go_at_call 30; refine Calls.mono (HSw.out ()) ?_; rintro e w2 ⟨rfl, HR2, HM2⟩)
      exact ⟨⟨i + 1, by omega, by simp, HI.out.next hl (by omega) HR2.out HM2.out⟩, by simp [intOf]; omega⟩
    · obtain rfl : i = m := by omega
      have hlt' : ¬ (i : Int) < (i : Int) := by omega
      have HRs : Hid _ := HI.out.res
      have HPt : Hid _ := HI.out.prt
      obtain ⟨q0, q1, q2, q3, q4, q5, q6⟩ := seven_cells HPt
      obtain ⟨p0, p1, p2, p3, p4, p5, p6⟩ := seven_cells HRs
      obtain ⟨f0, f1, f2, f3, f4, f5, f6⟩ := seven_fr HRs
      go_wp2_with fail
      rw [put7_eq]
      have HE := set_seven (v0 := .int .i64 0) (v1 := .int .u64 0) (v2 := .slice none 0 0) (v3 := .int .u64 0) (v4 := .complex .f64 0 0) (v5 := .float .f64 0) (v6 := .float .f64 0) HRs.out
      obtain ⟨z0, z1, z2, z3, z4, z5, z6⟩ := seven_cells HE
      simp [bodyPost, results, Tryz.results223, go_sem, z0, z1, z2, z3, z4, z5, z6]
      exact ⟨HI.out.row.put7 (by omega) _ _ _ _ _ _ _, HI.out.mid.put7 (Nat.le_refl _) _ _ _ _ _ _ _⟩
theorem drains_counter (pc : Value) : Drains 212 pc [0, 0] 0 0 [0, 0] := fun W g h => cdrain_any pc g 2 0 0 [] W h
theorem drains_histogram (pc : Value) (m : Nat) (hm : m ≤ 16777216) : Drains 223 pc (List.replicate (m + 2) 0) 0 0 (List.replicate (m + 2) 0) := fun W g h => by
  rw [List.length_replicate]
  exact hdrain_zero pc g m hm W h
theorem drains_summary (pc : Value) : Drains 229 pc [0, 0, 0, 0, 0] 0 0 [0, 0, 0, 9218868437227405312, -4503599627370496] := fun W g h => sdrain_zero pc g W h
end Go.Proofs.YtpllckgpolhafaaGreatDoor
