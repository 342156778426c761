/- RULES: RulesReturns' walk. Own work of the verifier. -/
import Derived.Test.YtoaaijohmfaphaaGreatDoorSBK
import Derived.Test.YtoaaijohmfaphaaGreatDoorSBL
import Derived.Test.YtoaaijohmfaphaaGreatDoorSBI
import Derived.Test.YtoaaijohmfaphaaGreatDoorSBM
namespace Go.Proofs.YtoaaijohmfaphaaGreatDoor.Ru
open Go.RowKit Go.Sort Me

/-- What Print tells. -/
noncomputable def pnE (t : RT) : Int := if ckE t = 0 then (if 65536 < (wrT t).length then 4 else 0) else ckE t
noncomputable def pnT (t : RT) : List UInt8 := if ckE t = 0 then (if 65536 < (wrT t).length then [] else wrT t) else []
theorem pn_q {t : RT} {e : Ending} (h : PnQ t e) : e = .returned (.tuple #[.string ⟨(pnT t).toArray⟩, .int .i64 (pnE t)]) := by
  unfold pnE pnT
  rcases h with ⟨h1, rfl⟩ | ⟨h1, h2, rfl⟩ | ⟨h1, h2, rfl⟩
  · rw [if_neg h1, if_neg h1]
  · rw [if_pos h1, if_pos h1, if_pos h2, if_pos h2]
  · rw [if_pos h1, if_pos h1, if_neg (by omega), if_neg (by omega)]
/-- The three ways of Print. -/
theorem pn_ways (t : RT) : (ckE t ≠ 0 ∧ pnT t = [] ∧ pnE t = ckE t) ∨ (ckE t = 0 ∧ pnT t = [] ∧ pnE t = 4) ∨ (ckE t = 0 ∧ pnT t = wrT t ∧ pnE t = 0 ∧ (wrT t).length ≤ 65536) := by
  unfold pnT pnE
  by_cases h : ckE t = 0
  · rw [if_pos h, if_pos h]
    by_cases k : 65536 < (wrT t).length
    · rw [if_pos k, if_pos k]; exact Or.inr (Or.inl ⟨h, rfl, rfl⟩)
    · rw [if_neg k, if_neg k]; exact Or.inr (Or.inr ⟨h, rfl, rfl, by omega⟩)
  · rw [if_neg h, if_neg h]; exact Or.inl ⟨h, rfl, rfl⟩
theorem hx_at {W W1 : World} {g : Nat} {c : Array Value} {t : TypeId} (h : W.heap[g]? = some (.cells c t)) (hb : Below W.heap.size W W1) : W1.heap[g]? = some (.cells c t) := (hb.block g (Array.getElem?_eq_some_iff.1 h).1).trans h
theorem szA_X1 {t : RT} (h : ∀ s ∈ nds t, szA s) : ∀ s ∈ nds t, szX s := fun s hs => by
  obtain ⟨k, x, nm, lb, w, n, d, ar⟩ := s
  exact (h _ hs).1.1
/-- A rule of its own, beside the box of the one that was handed in. -/
structure K1 (w : World) (t : RT) (gx : Nat) (cx : Array Value) (gy : Nat) (cy : Array Value) (W : World) : Prop where
  kb : Below w.heap.size w W
  kg : W.heap[gx]? = some (Obj.cells cx 26)
  kh : W.heap[gy]? = some (Obj.cells cy 26)
  kr : RV 0 W t (.agg cy)
theorem K1.below {w W W1 : World} {t : RT} {gx gy : Nat} {cx cy : Array Value} (h : K1 w t gx cx gy cy W) (hb : Below W.heap.size W W1) : K1 w t gx cx gy cy W1 := ⟨bt h.kb hb, hx_at h.kg hb, hx_at h.kh hb, h.kr.below hb⟩
set_option maxHeartbeats 8000000 in
set_option maxRecDepth 100000 in
theorem returns_walk (w : World) (hf : EnvF w) (t : RT) (vx : Value) (hx : RVh w t vx) (ax : ∀ s ∈ nds t, szA s) :
    Calls Tryz.prog 3 #[vx] w fun e w' => e = .returned (.bool true) ∧ Below w.heap.size w w' := by
  have he : Env w := hf.e
  have hNI : ∀ s ∈ nds t, szN s ∧ szI s := fun s hs => ⟨(ax s hs).1, (ax s hs).2.1⟩
  have hN : ∀ s ∈ nds t, szN s := fun s hs => (ax s hs).1
  have HAw : Hid (∀ W, Below w.heap.size w W → Calls Tryz.prog 4 #[] W fun e w' => e = .returned (.bool true) ∧ Below W.heap.size W w') := fun W hb => awake_any W (he.below hb)
  have HSx : Hid (∀ W, Below w.heap.size w W → Calls Tryz.prog 5 #[vx] W fun e w' => e = .returned (.bool (decide (0 ≤ lfF t 32768))) ∧ Below W.heap.size W w') := fun W hb => small_any t vx W (RVh.rv _ _ (RVh.below hb _ _ hx)) (fun s hs => (ax s hs).2.2)
  have HOx : Hid (decide (0 ≤ lfF t 32768) = true → ∀ W, Below w.heap.size w W → Calls Tryz.prog 6 #[vx] W fun e w' => OfQ t W e w') := fun h W hb => of_any t vx W (RVh.below hb _ _ hx) (lf_small t 32768 (by decide) (of_decide_eq_true h))
  have HPr : Hid (∀ v W, Below w.heap.size w W → RV 0 W t v → Calls Tryz.prog 8 #[v] W fun e w' => e = .returned (.tuple #[.string ⟨(pnT t).toArray⟩, .int .i64 (pnE t)]) ∧ Below W.heap.size W w') := fun v W hb hv => (rpr_any t v W hv hNI (he.below hb)).mono fun e w' ⟨h, k⟩ => ⟨pn_q h, k⟩
  have HCk : Hid (∀ v W, Below w.heap.size w W → RV 0 W t v → Calls Tryz.prog 7 #[v] W fun e w' => e = .returned (.int .i64 (ckE t)) ∧ Below W.heap.size W w') := fun v W hb hv => check_any t v W hv hN (he.kd.below hb)
  have HPa : Hid (ckE t = 0 → (wrT t).length ≤ 65536 → ∀ W, Below w.heap.size w W → Calls Tryz.prog 9 #[.string ⟨(wrT t).toArray⟩] W fun e w' => (∃ v, e = .returned (.tuple #[v, .int .i64 0, .int .i64 0]) ∧ RV W.heap.size w' t v) ∧ Below W.heap.size W w') := fun h1 h2 W hb => parse_back t W (hf.below hb) h1 hNI h2
  have HSa : Hid (∀ v v2 W, RV 0 W t v → RV 0 W t v2 → Calls Tryz.prog 10 #[v, v2] W fun e w' => e = .returned (.bool true) ∧ Below W.heap.size W w') := fun v v2 W hv hv2 => by
    have q := csame_any t t v v2 W hv hv2 (szA_X1 ax) (szA_X1 ax)
    rw [smB_refl] at q
    exact q
  have HSd : Hid (∀ v W, Below w.heap.size w W → RV 0 W t v → Calls Tryz.prog 11 #[v, vx] W fun e w' => e = .returned (.bool true) ∧ Below W.heap.size W w') := fun v W hb hv => by
    have q := dsame_any t t v vx W hv (RVh.rv _ _ (RVh.below hb _ _ hx)) (szA_X1 ax) (szA_X1 ax)
    rw [smB_refl] at q
    exact q
  have HWy := hid_of (pn_ways t)
  obtain ⟨k0, x0, nm0, la0, ln0, lc0, w0, n0, d0, aa0, an0, ac0, rfl⟩ := (RVh.rv _ _ hx).form
  obtain ⟨W0, hW0⟩ : ∃ W0, W0 = w.alloc (.cells (rc k0 x0 nm0 (.slice la0 ln0 lc0) w0 n0 d0 (.slice aa0 an0 ac0)) 26) := ⟨_, rfl⟩
  have hb0 : Below w.heap.size w W0 := by rw [hW0]; exact bel1 w _
  have hn0 : W0.heap[w.heap.size]? = some (.cells (rc k0 x0 nm0 (.slice la0 ln0 lc0) w0 n0 d0 (.slice aa0 an0 ac0)) 26) := by rw [hW0]; exact new_1 w _
  have HW0 := hid_of hW0
  have HB0 := hid_of hb0
  have HN0 := hid_of hn0
  have sF := store_f
  clear he hf hx ax hNI hN hW0 hb0 hn0
  generalize hp : decide (0 ≤ lfF t 32768) = px at *
  generalize pnT t = L at *
  generalize pnE t = pe at *
  generalize wrT t = T at *
  generalize ckE t = z at *
  clear hp
  go_enter Tryz.func3, Tryz.ntmps3
  go_upto_region 1 with fail
  rw [← HW0.out]
  clear HW0
  go_wp2_with fail
  refine Calls.mono (HAw.out _ HB0.out) ?_
  rintro e W1 ⟨rfl, hb1⟩
  have HB1 := hid_of (bt HB0.out hb1)
  have HN1 := hid_of (hx_at HN0.out hb1)
  clear HB0 HN0 hb1 HAw
  go_upto_region 3 with fail
  obtain ⟨y0, y1, y2, y3, y4, y5, y6, y7⟩ := eight HN1.out
  go_wp2_with fail
  refine Calls.mono (HSx.out _ HB1.out) ?_
  rintro e W2 ⟨rfl, hb2⟩
  have HB2 := hid_of (bt HB1.out hb2)
  have HN2 := hid_of (hx_at HN1.out hb2)
  clear HB1 HN1 hb2 HSx y0 y1 y2 y3 y4 y5 y6 y7
  cases px
  · clear HOx HPr HCk HPa HSa HSd HWy HN2
    go_wp2_with fail
    go_ret
    exact ⟨rfl, HB2.out⟩
  have HOx1 := hid_of (HOx.out rfl)
  clear HOx
  go_upto_region 5 with fail
  obtain ⟨gx, hgx⟩ : ∃ gx, gx = w.heap.size := ⟨_, rfl⟩
  rw [← hgx] at HN2
  simp only [← hgx]
  have HGx := hid_of hgx
  clear hgx
  obtain ⟨y0, y1, y2, y3, y4, y5, y6, y7⟩ := eight HN2.out
  go_wp2_with fail
  refine Calls.mono (HOx1.out _ HB2.out) ?_
  rintro e W3 ⟨v3, rfl, hv3, hb3⟩
  obtain ⟨k1, x1, nm1, la1, ln1, lc1, w1, n1, d1, aa1, an1, ac1, rfl⟩ := hv3.form
  have HV3 := hid_of (hv3.mono (Nat.zero_le _))
  have HB3 := hid_of (bt HB2.out hb3)
  have HN3 := hid_of (hx_at HN2.out hb3)
  clear HB2 HN2 hb3 hv3 HOx1 y0 y1 y2 y3 y4 y5 y6 y7
  go_upto_region 6 with fail
  obtain ⟨W4, hW4⟩ : ∃ W4, W4 = W3.alloc (.cells (rc k1 x1 nm1 (.slice la1 ln1 lc1) w1 n1 d1 (.slice aa1 an1 ac1)) 26) := ⟨_, rfl⟩
  have hb4 : Below W3.heap.size W3 W4 := by rw [hW4]; exact bel1 W3 _
  have hn4 : W4.heap[W3.heap.size]? = some (.cells (rc k1 x1 nm1 (.slice la1 ln1 lc1) w1 n1 d1 (.slice aa1 an1 ac1)) 26) := by rw [hW4]; exact new_1 W3 _
  rw [← hW4]
  have HK4 : Hid (K1 w t gx (rc k0 x0 nm0 (.slice la0 ln0 lc0) w0 n0 d0 (.slice aa0 an0 ac0)) W3.heap.size (rc k1 x1 nm1 (.slice la1 ln1 lc1) w1 n1 d1 (.slice aa1 an1 ac1)) W4) := ⟨bt HB3.out hb4, hx_at HN3.out hb4, hn4, HV3.out.below hb4⟩
  clear hW4 hb4 hn4 HB3 HN3 HV3 HGx
  generalize W3.heap.size = gy at *
  obtain ⟨y0, y1, y2, y3, y4, y5, y6, y7⟩ := eight HK4.out.kh
  go_wp2_with fail
  refine Calls.mono (HCk.out _ _ HK4.out.kb HK4.out.kr) ?_
  rintro e W5 ⟨rfl, hb⟩
  have HK5 := hid_of (HK4.out.below hb)
  clear hb HK4 HCk y0 y1 y2 y3 y4 y5 y6 y7
  obtain ⟨y0, y1, y2, y3, y4, y5, y6, y7⟩ := eight HK5.out.kh
  go_wp2_with fail
  refine Calls.mono (HPr.out _ _ HK5.out.kb HK5.out.kr) ?_
  rintro e W6 ⟨rfl, hb⟩
  have HK6 := hid_of (HK5.out.below hb)
  clear hb HK5 HPr y0 y1 y2 y3 y4 y5 y6 y7
  rcases HWy.out with ⟨hz, hL, hp⟩ | ⟨hz, hL, hp⟩ | ⟨hz, hL, hp, hT⟩
  · subst hL hp
    have hz' : (pe != 0) = true := by rw [bne_iff_ne]; exact hz
    have HBw := hid_of HK6.out.kb
    clear HWy HK6 HPa HSa HSd
    go_wp2_with fail
    go_ret
    exact ⟨rfl, HBw.out⟩
  · subst hL hp hz
    have HBw := hid_of HK6.out.kb
    clear HWy HK6 HPa HSa HSd
    go_wp2_with fail
    go_ret
    exact ⟨rfl, HBw.out⟩
  subst hL hp hz
  have HP1 := hid_of (HPa.out (by first | rfl | trivial) hT)
  have HT := hid_of hT
  clear HWy HPa hT
  go_upto_region 10 with fail
  go_wp2_with fail
  refine Calls.mono (HP1.out _ HK6.out.kb) ?_
  rintro e W7 ⟨⟨v7, rfl, hv7⟩, hb7⟩
  have HK7 := hid_of (HK6.out.below hb7)
  obtain ⟨k2, x2, nm2, la2, ln2, lc2, w2, n2, d2, aa2, an2, ac2, rfl⟩ := hv7.form
  have HV7 := hid_of (hv7.mono (Nat.zero_le _))
  clear hb7 hv7 HK6 HP1
  go_upto_region 11 with fail
  obtain ⟨W8, hW8⟩ : ∃ W8, W8 = W7.alloc (.cells (rc k2 x2 nm2 (.slice la2 ln2 lc2) w2 n2 d2 (.slice aa2 an2 ac2)) 26) := ⟨_, rfl⟩
  have hb8 : Below W7.heap.size W7 W8 := by rw [hW8]; exact bel1 W7 _
  have hn8 : W8.heap[W7.heap.size]? = some (.cells (rc k2 x2 nm2 (.slice la2 ln2 lc2) w2 n2 d2 (.slice aa2 an2 ac2)) 26) := by rw [hW8]; exact new_1 W7 _
  rw [← hW8]
  have HK8 := hid_of (HK7.out.below hb8)
  have HV8 := hid_of (HV7.out.below hb8)
  have HN8 := hid_of hn8
  clear hW8 hb8 hn8 HK7 HV7
  generalize W7.heap.size = gz at *
  have hT' : (L.length : Int) ≤ 65536 := by have := HT.out; omega
  have HT' := hid_of hT'
  clear HT hT'
  obtain ⟨y0, y1, y2, y3, y4, y5, y6, y7⟩ := eight HK8.out.kh
  obtain ⟨z0, z1, z2, z3, z4, z5, z6, z7⟩ := eight HN8.out
  go_wp2_with fail
  refine Calls.mono (HSa.out _ _ _ HV8.out HK8.out.kr) ?_
  rintro e W9 ⟨rfl, hb⟩
  have HK9 := hid_of (HK8.out.below hb)
  have HV9 := hid_of (HV8.out.below hb)
  have HN9 := hid_of (hx_at HN8.out hb)
  clear hb HK8 HV8 HN8 HSa y0 y1 y2 y3 y4 y5 y6 y7 z0 z1 z2 z3 z4 z5 z6 z7
  obtain ⟨y0, y1, y2, y3, y4, y5, y6, y7⟩ := eight HK9.out.kg
  obtain ⟨z0, z1, z2, z3, z4, z5, z6, z7⟩ := eight HN9.out
  go_wp2_with fail
  refine Calls.mono (HSd.out _ _ HK9.out.kb HV9.out) ?_
  rintro e WA ⟨rfl, hb⟩
  have HBw := hid_of (bt HK9.out.kb hb)
  have hT' := HT'.out
  clear hb HK9 HV9 HN9 HSd HT' y0 y1 y2 y3 y4 y5 y6 y7 z0 z1 z2 z3 z4 z5 z6 z7
  go_wp2_with fail
  go_ret
  exact ⟨rfl, HBw.out⟩
end Go.Proofs.YtoaaijohmfaphaaGreatDoor.Ru
