/- RULES: Parse. Own work of the verifier. -/
import Derived.Test.YtoaaijohmfaphaaGreatDoorSBE
import Derived.Test.YtoaaijohmfaphaaGreatDoorSAB
namespace Go.Proofs.YtoaaijohmfaphaaGreatDoor.Ru
open Go.RowKit Me

set_option maxHeartbeats 1000000 in
set_option maxRecDepth 100000 in
theorem parse_any (PR : List UInt8 → Option Nat) (ck : RT → Nat) (T : List UInt8) (hTl : T.length ≤ 9223372036854775807) (w : World) (he : Env w) (hPR : T.length ≤ 65536 → ∀ u, Below w.heap.size w u → ∀ z, hitF PR T 512 ⟨0, 0, 0⟩ z → PrAt PR u (rowF isNm T z)) (hCk : T.length ≤ 65536 → (whlF PR T ⟨0, 0, 0⟩).2.e = 0 → CkAt ck w (whlF PR T ⟨0, 0, 0⟩).1) :
    Calls Tryz.prog 9 #[.string ⟨T.toArray⟩] w fun e w' => PsQ PR ck T w.heap.size e w' ∧ Below w.heap.size w w' := by
  obtain ⟨W0, hW0⟩ : ∃ W0, W0 = w.alloc (.cells (rc 0 0 [] (.slice none 0 0) 0 0 0 (.slice none 0 0)) 26) := ⟨_, rfl⟩
  have hb0 : Below w.heap.size w W0 := by rw [hW0]; exact bel1 w _
  have hz0 : Z8 w.heap.size W0 := by rw [hW0]; exact new_1 w _
  have hs0 : W0.heap.size = w.heap.size + 1 := by rw [hW0]; simp
  have sF := store_f
  by_cases hT : T.length ≤ 65536
  · obtain ⟨W1, hW1⟩ : ∃ W1, W1 = W0.alloc (.cells #[.string ⟨T.toArray⟩, .int .i64 0, .int .i64 0, .int .i64 0] 59) := ⟨_, rfl⟩
    have hb1 : Below W0.heap.size W0 W1 := by rw [hW1]; exact bel1 W0 _
    have hR1 : Rd T W0.heap.size W0 W1 ⟨0, 0, 0⟩ W1 := ⟨hb1, Nat.le_refl _, La.Ex.refl _ _, by rw [hW1]; simp, by rw [hW1]; exact new_1 W0 _⟩
    have hz1 := hz0.below hb1
    have HWh : La.HidC _ _ _ _ _ := whole_any PR (he.below hb0) (hPR hT W0 hb0) hR1 ⟨Nat.zero_le _, by decide, hT⟩ cf0
    have HCk : Hid ((whlF PR T ⟨0, 0, 0⟩).2.e = 0 → ∀ W B v, Below w.heap.size w W → RV B W (whlF PR T ⟨0, 0, 0⟩).1 v → Calls Tryz.prog 7 #[v] W fun e w' => e = .returned (.int .i64 (ck (whlF PR T ⟨0, 0, 0⟩).1 : Int)) ∧ Below W.heap.size W w') := fun h W B v hb hv => hCk hT h W B v hb hv
    have HP1 : Hid (∀ (z a : Nat) W, z ≠ 0 → z = (whlF PR T ⟨0, 0, 0⟩).2.e → a = (whlF PR T ⟨0, 0, 0⟩).2.a → PsQ PR ck T w.heap.size (.returned (.tuple #[rx 0 0 [] (.slice none 0 0) 0 0 0 (.slice none 0 0), .int .i64 (z : Int), .int .i64 (a : Int)])) W) := fun z a W h1 h2 h3 => Or.inl ⟨z, a, h1, rfl, Or.inr (Or.inl ⟨hT, h2, h3⟩)⟩
    have HP2 : Hid (∀ (z : Nat) W, z ≠ 0 → (whlF PR T ⟨0, 0, 0⟩).2.e = 0 → z = ck (whlF PR T ⟨0, 0, 0⟩).1 → PsQ PR ck T w.heap.size (.returned (.tuple #[rx 0 0 [] (.slice none 0 0) 0 0 0 (.slice none 0 0), .int .i64 (z : Int), .int .i64 0])) W) := fun z W h1 h2 h3 => Or.inl ⟨z, 0, h1, rfl, Or.inr (Or.inr ⟨hT, h2, h3, rfl⟩)⟩
    have HP3 : Hid (∀ v W, (whlF PR T ⟨0, 0, 0⟩).2.e = 0 → ck (whlF PR T ⟨0, 0, 0⟩).1 = 0 → RV w.heap.size W (whlF PR T ⟨0, 0, 0⟩).1 v → PsQ PR ck T w.heap.size (.returned (.tuple #[v, .int .i64 0, .int .i64 0])) W) := fun v W h1 h2 h3 => Or.inr ⟨hT, h1, h2, v, rfl, h3⟩
    have hT' : (T.length : Int) ≤ 65536 := by omega
    have HB1 := hid_of (bt hb0 hb1)
    have HZ1 := hid_of hz1
    have HR1 := hid_of hR1
    have HW0 := hid_of hW0
    have HW1 := hid_of hW1
    have hs1 : W1.heap.size = w.heap.size + 2 := by rw [hW1]; simp; omega
    clear he hPR hCk hb0 hz0 hb1 hR1 hz1 hW0 hW1 hT
    go_enter Tryz.func9, Tryz.ntmps9
    go_upto_region 4 with fail
    generalize hq : whlF PR T ⟨0, 0, 0⟩ = Q at *
    clear hq
    rw [← HW0.out]
    have e1 : W0.alloc (.cells #[.string ⟨T.toArray⟩, .int .i64 0, .int .i64 0, .int .i64 0] 59) = W1 := HW1.out.symm
    have e2 : W0.heap.size = w.heap.size + 1 := hs0
    rw [e2] at HWh HR1
    rw [e1]
    clear e1 e2 HW0 HW1
    go_wp2_with fail
    refine Calls.mono HWh.out ?_
    rintro e w2 ⟨t1, v1, rfl, hv1, ht1, hr⟩
    have hz2 := HZ1.out.ex hr.ex (by omega)
    have hv1' := hv1.mono (B' := w.heap.size + 1) (by omega)
    obtain ⟨k1, x1, nm1, la1, ln1, lc1, wi1, n1, d1, aa1, an1, ac1, rfl⟩ := hv1.form
    have HT1 := hid_of ht1
    have hb := bel1 w2 (.cells (rc k1 x1 nm1 (.slice la1 ln1 lc1) wi1 n1 d1 (.slice aa1 an1 ac1)) 26)
    have hR2 := hr.below hb
    have hlt2 := hz2.lt
    have HP := hid_of (P1.mk (g1 := w2.heap.size) (hz2.below hb) (hv1'.below hb) (new_1 w2 (.cells (rc k1 x1 nm1 (.slice la1 ln1 lc1) wi1 n1 d1 (.slice aa1 an1 ac1)) 26)))
    have hBw : Below w.heap.size w (w2.alloc (.cells (rc k1 x1 nm1 (.slice la1 ln1 lc1) wi1 n1 d1 (.slice aa1 an1 ac1)) 26)) := HB1.out.trans (hR2.ex.below (by omega) (by omega))
    have HBw := hid_of hBw
    have HR2 := hid_of hR2
    clear hv1 hv1' ht1 hr HZ1 hb hz2 HWh HR1 hR2 hBw HB1
    go_upto_region 5 with fail
    generalize w2.alloc (.cells (rc k1 x1 nm1 (.slice la1 ln1 lc1) wi1 n1 d1 (.slice aa1 an1 ac1)) 26) = W3 at *
    generalize w2.heap.size = g1 at *
    obtain ⟨⟨c0, c1, c2, c3⟩, -⟩ := four_cells HR2.out.at_
    by_cases k : Q.2.e = 0
    · have hk : ((Q.2.e : Int) == 0) = true := by rw [beq_iff_eq]; omega
      have HK := hid_of k
      have ht := HT1.out k
      subst ht
      obtain ⟨y0, y1, y2, y3, y4, y5, y6, y7⟩ := eight HP.out.bx
      have D : La.HidC _ _ _ _ _ := HCk.out k W3 _ _ HBw.out HP.out.rv
      clear HCk HP1 k HT1
      go_wp2_with fail
      refine Calls.mono D.out ?_
      rintro e w4 ⟨rfl, hb4⟩
      have hP4 := HP.out.below hb4
      have hB4 := HBw.out.trans (hb4.mono (by have := HBw.out.size; omega))
      clear D HP HR2 HBw hb4 y0 y1 y2 y3 y4 y5 y6 y7 c0 c1 c2 c3
      obtain ⟨z0, z1, z2, z3, z4, z5, z6, z7⟩ := eight hP4.z
      have zf := eight_f hP4.z
      by_cases kc : ck Q.1 = 0
      · have hkc : ((ck Q.1 : Int) == 0) = true := by rw [beq_iff_eq]; omega
        obtain ⟨y0, y1, y2, y3, y4, y5, y6, y7⟩ := eight hP4.bx
        have p1 := put8_heap hP4.z (.int .i64 k1) (.float .f64 x1) (.string ⟨nm1.toArray⟩) (.slice la1 ln1 lc1) (.int .i64 wi1) (.int .i64 n1) (.int .i64 d1) (.slice aa1 an1 ac1)
        have hx := put8_one w4 w.heap.size (.int .i64 k1) (.float .f64 x1) (.string ⟨nm1.toArray⟩) (.slice la1 ln1 lc1) (.int .i64 wi1) (.int .i64 n1) (.int .i64 d1) (.slice aa1 an1 ac1)
        obtain ⟨W9, hW9⟩ : ∃ W9, W9 = put8 w4 w.heap.size (.int .i64 k1) (.float .f64 x1) (.string ⟨nm1.toArray⟩) (.slice la1 ln1 lc1) (.int .i64 wi1) (.int .i64 n1) (.int .i64 d1) (.slice aa1 an1 ac1) := ⟨_, rfl⟩
        rw [← hW9] at p1 hx
        have HW9 := hid_of hW9
        clear hW9
        have HH := hid_of p1
        have HE := hid_of (HP3.out _ _ HK.out kc ((hP4.rv.ex hx (by omega)).mono (by omega)))
        have HBf := hid_of (hB4.trans (hx.below (Nat.le_refl _) (by have := hB4.size; omega)))
        clear hx p1 hP4 hB4 HP2 HP3 HK kc hs0 hs1 hlt2 hTl
        generalize ck Q.1 = c at *
        go_wp2_with fail
        obtain rfl := HW9.out
        (try simp only [Exit.inBlock, Exit.then]); refine bodyPost_ret (results_ctt rfl _ _ w.heap.size 26 _ (0, 0) _ rfl HH.out Tryz.underlying26 rfl (by kernel_rfl)) rfl ?_
        exact ⟨HE.out, HBf.out⟩
      · have hkc : ((ck Q.1 : Int) == 0) = false := by rw [beq_eq_false_iff_ne]; omega
        have p1 := put8_heap hP4.z (.int .i64 0) (.float .f64 0) (.string ⟨#[]⟩) (.slice none 0 0) (.int .i64 0) (.int .i64 0) (.int .i64 0) (.slice none 0 0)
        have hx := put8_one w4 w.heap.size (.int .i64 0) (.float .f64 0) (.string ⟨#[]⟩) (.slice none 0 0) (.int .i64 0) (.int .i64 0) (.int .i64 0) (.slice none 0 0)
        obtain ⟨W9, hW9⟩ : ∃ W9, W9 = put8 w4 w.heap.size (.int .i64 0) (.float .f64 0) (.string ⟨#[]⟩) (.slice none 0 0) (.int .i64 0) (.int .i64 0) (.int .i64 0) (.slice none 0 0) := ⟨_, rfl⟩
        rw [← hW9] at p1 hx
        have HW9 := hid_of hW9
        clear hW9
        have HH := hid_of p1
        have HE := hid_of (HP2.out _ W9 kc HK.out rfl)
        have HBf := hid_of (hB4.trans (hx.below (Nat.le_refl _) (by have := hB4.size; omega)))
        clear hx p1 hP4 hB4 HP2 HP3 HK kc hs0 hs1 hlt2 hTl
        generalize ck Q.1 = c at *
        go_wp2_with fail
        obtain rfl := HW9.out
        (try simp only [Exit.inBlock, Exit.then]); refine bodyPost_ret (results_ctt rfl _ _ w.heap.size 26 _ (0, 0) _ rfl HH.out Tryz.underlying26 rfl (by kernel_rfl)) rfl ?_
        exact ⟨HE.out, HBf.out⟩
    · have hk : ((Q.2.e : Int) == 0) = false := by rw [beq_eq_false_iff_ne]; omega
      obtain ⟨z0, z1, z2, z3, z4, z5, z6, z7⟩ := eight HP.out.z
      have zf := eight_f HP.out.z
      have HE0 : Hid (∀ W, PsQ PR ck T w.heap.size (.returned (.tuple #[rx 0 0 [] (.slice none 0 0) 0 0 0 (.slice none 0 0), .int .i64 (Q.2.e : Int), .int .i64 (Q.2.a : Int)])) W) := fun W => HP1.out _ _ W k rfl rfl
      have p1 := put8_heap HP.out.z (.int .i64 0) (.float .f64 0) (.string ⟨#[]⟩) (.slice none 0 0) (.int .i64 0) (.int .i64 0) (.int .i64 0) (.slice none 0 0)
      have hx := put8_one W3 w.heap.size (.int .i64 0) (.float .f64 0) (.string ⟨#[]⟩) (.slice none 0 0) (.int .i64 0) (.int .i64 0) (.int .i64 0) (.slice none 0 0)
      obtain ⟨W9, hW9⟩ : ∃ W9, W9 = put8 W3 w.heap.size (.int .i64 0) (.float .f64 0) (.string ⟨#[]⟩) (.slice none 0 0) (.int .i64 0) (.int .i64 0) (.int .i64 0) (.slice none 0 0) := ⟨_, rfl⟩
      rw [← hW9] at p1 hx
      have HW9 := hid_of hW9
      clear hW9
      have HH : Hid (W9.drew.heap[w.heap.size]? = some (.cells (rc 0 0 [] (.slice none 0 0) 0 0 0 (.slice none 0 0)) 26)) := p1
      have HBf := hid_of (HBw.out.trans (hx.below (Nat.le_refl _) (by have := HBw.out.size; omega)))
      clear HP1 HP2 HP3 HCk HT1 HP HBw HR2 p1 hx k hs0 hs1 hlt2 hTl
      generalize Q.2.e = qe at *
      generalize Q.2.a = qa at *
      go_wp2_with fail
      go_region
      go_wp2_with fail
      obtain rfl := HW9.out
      (try simp only [Exit.inBlock, Exit.then]); refine bodyPost_ret (results_ctt rfl _ _ w.heap.size 26 _ (0, 0) _ rfl HH.out Tryz.underlying26 rfl (by kernel_rfl)) rfl ?_
      exact ⟨HE0.out _, bel_drewB HBf.out⟩
  · have hT' : ¬ (T.length : Int) ≤ 65536 := by omega
    have hgt : (65536 : Int) < (T.length : Int) := by omega
    have hTl' : (T.length : Int) ≤ 9223372036854775807 := by omega
    have HE0 : Hid (∀ W, PsQ PR ck T w.heap.size (.returned (.tuple #[rx 0 0 [] (.slice none 0 0) 0 0 0 (.slice none 0 0), .int .i64 4, .int .i64 0])) W) := fun W => Or.inl ⟨4, 0, by decide, rfl, Or.inl ⟨by omega, rfl, rfl⟩⟩
    have HB0 := hid_of hb0
    have HZ0 := hid_of hz0
    have HW0 := hid_of hW0
    clear he hPR hCk hb0 hz0 hW0 hT hs0 hTl hT'
    go_enter Tryz.func9, Tryz.ntmps9
    go_wp2_with fail
    obtain rfl := HW0.out
    (try simp only [Exit.inBlock, Exit.then]); refine bodyPost_ret (results_ctt rfl _ _ w.heap.size 26 _ (0, 0) _ rfl HZ0.out Tryz.underlying26 rfl (by kernel_rfl)) rfl ?_
    exact ⟨HE0.out _, HB0.out⟩
end Go.Proofs.YtoaaijohmfaphaaGreatDoor.Ru
/- RULES: others, holds. Own work of the verifier. -/
namespace Go.Proofs.YtoaaijohmfaphaaGreatDoor.Ru
open Go.RowKit Me

theorem B1.set0 {g0 gx : Nat} {a0 a1 a2 a3 a4 a5 a6 a7 : Value} {W : World} (h : B1 g0 gx a0 a1 a2 a3 a4 a5 a6 a7 W) (hg : g0 ≠ gx) (v : Value) : B1 g0 gx v a1 a2 a3 a4 a5 a6 a7 (W.setCell ⟨gx, 0, none⟩ v) := by
  refine ⟨(Below.heap_setCell _ _ _ _ hg).trans h.z, ?_⟩
  have := Lib.heap_setCell_same (i := 0) h.bx v
  simpa using this
theorem B1.set1 {g0 gx : Nat} {a0 a1 a2 a3 a4 a5 a6 a7 : Value} {W : World} (h : B1 g0 gx a0 a1 a2 a3 a4 a5 a6 a7 W) (hg : g0 ≠ gx) (v : Value) : B1 g0 gx a0 v a2 a3 a4 a5 a6 a7 (W.setCell ⟨gx, 1, none⟩ v) := by
  refine ⟨(Below.heap_setCell _ _ _ _ hg).trans h.z, ?_⟩
  have := Lib.heap_setCell_same (i := 1) h.bx v
  simpa using this
abbrev shp (k : Int) : Nat := (kwI k).1
def othS (sh : Nat) (_k : Int) (x : Nat) (nm : List UInt8) (lv : Value) (w n d : Int) (av : Value) : Value :=
  if sh = 1 then rx 0 0 nm lv w n d av
  else if sh = 3 then rx 0 x [] (.slice none 0 0) 0 0 0 av
  else if sh = 2 then rx 0 x [] (.slice none 0 0) 0 n d av
  else rx 0 x nm lv w n d (.slice none 0 0)
theorem res_bel {W w : World} {g0 : Nat} (hb : Below w.heap.size w W) (hg : w.heap.size ≤ g0) (a0 a1 a2 a3 a4 a5 a6 a7 : Value) : Below w.heap.size w (put8 W g0 a0 a1 a2 a3 a4 a5 a6 a7) :=
  hb.trans ((put8_one W g0 a0 a1 a2 a3 a4 a5 a6 a7).below hg hb.size)
set_option maxHeartbeats 400000 in
set_option maxRecDepth 100000 in
theorem others_any (k : Int) (x : Nat) (nm : List UInt8) (lv : Value) (wi n d : Int) (av : Value) (hl : IsSl lv) (ha : IsSl av) (w : World) (h : Kd w) :
    Calls Tryz.prog 56 #[rx k x nm lv wi n d av] w fun e w' => e = .returned (othS (shp k) k x nm lv wi n d av) ∧ Below w.heap.size w w' := by
  obtain ⟨la, ln, lc, rfl⟩ := hl
  obtain ⟨aa, an, ac, rfl⟩ := ha
  obtain ⟨W0, hW0⟩ : ∃ W0, W0 = (w.alloc (.cells (rc k x nm (.slice la ln lc) wi n d (.slice aa an ac)) 26)).alloc (.cells (rc 0 0 [] (.slice none 0 0) 0 0 0 (.slice none 0 0)) 26) := ⟨_, rfl⟩
  have hb0 : Below w.heap.size w W0 := by rw [hW0]; exact La.bel2 w _ _
  have hB0 : B1 (w.heap.size + 1) w.heap.size (.int .i64 k) (.float .f64 x) (.string ⟨nm.toArray⟩) (.slice la ln lc) (.int .i64 wi) (.int .i64 n) (.int .i64 d) (.slice aa an ac) W0 := by
    rw [hW0]
    refine ⟨?_, ?_⟩
    · have := new_1 (w.alloc (.cells (rc k x nm (.slice la ln lc) wi n d (.slice aa an ac)) 26)) (.cells (rc 0 0 [] (.slice none 0 0) 0 0 0 (.slice none 0 0)) 26)
      rw [show (w.alloc (.cells (rc k x nm (.slice la ln lc) wi n d (.slice aa an ac)) 26)).heap.size = w.heap.size + 1 by simp] at this
      exact this
    · exact ((bel1 (w.alloc (.cells (rc k x nm (.slice la ln lc) wi n d (.slice aa an ac)) 26)) _).block w.heap.size (by simp)).trans (new_1 w _)
  have HK : Hid (∀ W, Below w.heap.size w W → Calls Tryz.prog 29 #[rx k x nm (.slice la ln lc) wi n d (.slice aa an ac)] W fun e w' => e = .returned (kx (kwI k)) ∧ Below W.heap.size W w') := fun W hb => kind_any k x nm _ wi n d _ ⟨_, _, _, rfl⟩ ⟨_, _, _, rfl⟩ W (h.below hb)
  obtain ⟨y0, y1, y2, y3, y4, y5, y6, y7⟩ := eight hB0.bx
  have HB0 := hid_of hB0
  have HW0 := hid_of hW0
  have Hb0 := hid_of hb0
  have sF := store_f
  have hfl := fldK
  unfold shp
  clear h hb0 hB0 hW0
  generalize kwI k = q at *
  obtain ⟨sh, wd⟩ := q
  dsimp only
  have fin : ∀ w1, Below W0.heap.size W0 w1 → B1 (w.heap.size + 1) w.heap.size (.int .i64 k) (.float .f64 x) (.string ⟨nm.toArray⟩) (.slice la ln lc) (.int .i64 wi) (.int .i64 n) (.int .i64 d) (.slice aa an ac) w1 ∧ Below w.heap.size w w1 := fun w1 hb => ⟨HB0.out.below hb, Hb0.out.trans (hb.mono Hb0.out.size)⟩
  have HFin := hid_of fin
  clear fin HB0
  go_enter Tryz.func56, Tryz.ntmps56
  go_upto_region 1 with fail
  rw [← HW0.out]
  clear HW0
  go_wp2_with fail
  refine Calls.mono (HK.out _ Hb0.out) ?_
  rintro e w1 ⟨rfl, hbw⟩
  obtain ⟨hB1, hb1⟩ := HFin.out w1 hbw
  clear hbw HFin Hb0 HK y0 y1 y2 y3 y4 y5 y6 y7
  obtain ⟨y0, y1, y2, y3, y4, y5, y6, y7⟩ := eight hB1.bx
  have yf := eight_f hB1.bx
  obtain ⟨z0, z1, z2, z3, z4, z5, z6, z7⟩ := eight hB1.z
  have zf := eight_f hB1.z
  by_cases q1 : sh = 1
  · subst q1

    have HQ : Hid (othS 1 k x nm (.slice la ln lc) wi n d (.slice aa an ac) = .agg #[.int .i64 0, .float .f64 0, .string ⟨nm.toArray⟩, .slice la ln lc, .int .i64 wi, .int .i64 n, .int .i64 d, .slice aa an ac]) := by
      show othS _ _ _ _ _ _ _ _ _ = _
      unfold othS
      rw [if_pos rfl]
    have HBx := hid_of ((hB1.set1 (by omega) (.float .f64 0)).set0 (by omega) (.int .i64 0))
    have Hbx := hid_of ((hb1.setCell (p := ⟨w.heap.size, 1, none⟩) (Nat.le_refl _) (.float .f64 0)).setCell (p := ⟨w.heap.size, 0, none⟩) (Nat.le_refl _) (.int .i64 0))
    clear hB1 hb1
    go_upto_region 10 with fail
    generalize ((w1.setCell ⟨w.heap.size, 1, none⟩ (.float .f64 0)).setCell ⟨w.heap.size, 0, none⟩ (.int .i64 0)) = W8 at *
    clear y0 y1 y2 y3 y4 y5 y6 y7 yf z0 z1 z2 z3 z4 z5 z6 z7 zf
    obtain ⟨y0, y1, y2, y3, y4, y5, y6, y7⟩ := eight HBx.out.bx
    obtain ⟨z0, z1, z2, z3, z4, z5, z6, z7⟩ := eight HBx.out.z
    have zf := eight_f HBx.out.z
    obtain ⟨W9, hW9⟩ : ∃ W9, W9 = put8 W8 (w.heap.size + 1) (.int .i64 0) (.float .f64 0) (.string ⟨nm.toArray⟩) (.slice la ln lc) (.int .i64 wi) (.int .i64 n) (.int .i64 d) (.slice aa an ac) := ⟨_, rfl⟩
    have HH : Hid (W9.heap[w.heap.size + 1]? = some (.cells #[.int .i64 0, .float .f64 0, .string ⟨nm.toArray⟩, .slice la ln lc, .int .i64 wi, .int .i64 n, .int .i64 d, .slice aa an ac] 26)) := by rw [hW9]; exact put8_heap HBx.out.z (.int .i64 0) (.float .f64 0) (.string ⟨nm.toArray⟩) (.slice la ln lc) (.int .i64 wi) (.int .i64 n) (.int .i64 d) (.slice aa an ac)
    have HBf : Hid (Below w.heap.size w W9) := by rw [hW9]; exact res_bel Hbx.out (by omega) _ _ _ _ _ _ _ _
    have HW9 := hid_of hW9
    clear HBx Hbx hW9
    go_wp2_with fail
    obtain rfl := HW9.out
    refine bodyPost_ret (results_cell_row (P := Tryz.prog) rfl _ _ (w.heap.size + 1) 26 _ (0, 0) _ rfl HH.out Tryz.underlying26 rfl (by kernel_rfl)) rfl ?_
    exact ⟨congrArg Ending.returned HQ.out.symm, HBf.out⟩
  · have b1 : ((sh : Int) == 1) = false := by rw [beq_eq_false_iff_ne]; omega
    by_cases q3 : sh = 3
    · subst q3
      have HQ : Hid (othS 3 k x nm (.slice la ln lc) wi n d (.slice aa an ac) = .agg #[.int .i64 0, .float .f64 x, .string ⟨#[]⟩, .slice none 0 0, .int .i64 0, .int .i64 0, .int .i64 0, .slice aa an ac]) := by
        show othS _ _ _ _ _ _ _ _ _ = _
        unfold othS
        rw [if_neg (by decide), if_pos rfl]
      have HBx := hid_of ((((((hB1.set5 (by omega) (.int .i64 0)).set6 (by omega) (.int .i64 0)).set2 (by omega) (.string ⟨#[]⟩)).set3 (by omega) (.slice none 0 0)).set4 (by omega) (.int .i64 0)).set0 (by omega) (.int .i64 0))
      have Hbx := hid_of ((((((hb1.setCell (p := ⟨w.heap.size, 5, none⟩) (Nat.le_refl _) (.int .i64 0)).setCell (p := ⟨w.heap.size, 6, none⟩) (Nat.le_refl _) (.int .i64 0)).setCell (p := ⟨w.heap.size, 2, none⟩) (Nat.le_refl _) (.string ⟨#[]⟩)).setCell (p := ⟨w.heap.size, 3, none⟩) (Nat.le_refl _) (.slice none 0 0)).setCell (p := ⟨w.heap.size, 4, none⟩) (Nat.le_refl _) (.int .i64 0)).setCell (p := ⟨w.heap.size, 0, none⟩) (Nat.le_refl _) (.int .i64 0))
      clear hB1 hb1
      go_upto_region 10 with fail
      generalize ((((((w1.setCell ⟨w.heap.size, 5, none⟩ (.int .i64 0)).setCell ⟨w.heap.size, 6, none⟩ (.int .i64 0)).setCell ⟨w.heap.size, 2, none⟩ (.string ⟨#[]⟩)).setCell ⟨w.heap.size, 3, none⟩ (.slice none 0 0)).setCell ⟨w.heap.size, 4, none⟩ (.int .i64 0)).setCell ⟨w.heap.size, 0, none⟩ (.int .i64 0)) = W8 at *
      clear y0 y1 y2 y3 y4 y5 y6 y7 yf z0 z1 z2 z3 z4 z5 z6 z7 zf
      obtain ⟨y0, y1, y2, y3, y4, y5, y6, y7⟩ := eight HBx.out.bx
      obtain ⟨z0, z1, z2, z3, z4, z5, z6, z7⟩ := eight HBx.out.z
      have zf := eight_f HBx.out.z
      obtain ⟨W9, hW9⟩ : ∃ W9, W9 = put8 W8 (w.heap.size + 1) (.int .i64 0) (.float .f64 x) (.string ⟨#[]⟩) (.slice none 0 0) (.int .i64 0) (.int .i64 0) (.int .i64 0) (.slice aa an ac) := ⟨_, rfl⟩
      have HH : Hid (W9.heap[w.heap.size + 1]? = some (.cells #[.int .i64 0, .float .f64 x, .string ⟨#[]⟩, .slice none 0 0, .int .i64 0, .int .i64 0, .int .i64 0, .slice aa an ac] 26)) := by rw [hW9]; exact put8_heap HBx.out.z (.int .i64 0) (.float .f64 x) (.string ⟨#[]⟩) (.slice none 0 0) (.int .i64 0) (.int .i64 0) (.int .i64 0) (.slice aa an ac)
      have HBf : Hid (Below w.heap.size w W9) := by rw [hW9]; exact res_bel Hbx.out (by omega) _ _ _ _ _ _ _ _
      have HW9 := hid_of hW9
      clear HBx Hbx hW9
      go_wp2_with fail
      obtain rfl := HW9.out
      refine bodyPost_ret (results_cell_row (P := Tryz.prog) rfl _ _ (w.heap.size + 1) 26 _ (0, 0) _ rfl HH.out Tryz.underlying26 rfl (by kernel_rfl)) rfl ?_
      exact ⟨congrArg Ending.returned HQ.out.symm, HBf.out⟩
    · have b3 : ((sh : Int) == 3) = false := by rw [beq_eq_false_iff_ne]; omega
      by_cases q2 : sh = 2
      · subst q2
        have HQ : Hid (othS 2 k x nm (.slice la ln lc) wi n d (.slice aa an ac) = .agg #[.int .i64 0, .float .f64 x, .string ⟨#[]⟩, .slice none 0 0, .int .i64 0, .int .i64 n, .int .i64 d, .slice aa an ac]) := by
          show othS _ _ _ _ _ _ _ _ _ = _
          unfold othS
          rw [if_neg (by decide), if_neg (by decide), if_pos rfl]
        have HBx := hid_of ((((hB1.set2 (by omega) (.string ⟨#[]⟩)).set3 (by omega) (.slice none 0 0)).set4 (by omega) (.int .i64 0)).set0 (by omega) (.int .i64 0))
        have Hbx := hid_of ((((hb1.setCell (p := ⟨w.heap.size, 2, none⟩) (Nat.le_refl _) (.string ⟨#[]⟩)).setCell (p := ⟨w.heap.size, 3, none⟩) (Nat.le_refl _) (.slice none 0 0)).setCell (p := ⟨w.heap.size, 4, none⟩) (Nat.le_refl _) (.int .i64 0)).setCell (p := ⟨w.heap.size, 0, none⟩) (Nat.le_refl _) (.int .i64 0))
        clear hB1 hb1
        go_upto_region 10 with fail
        generalize ((((w1.setCell ⟨w.heap.size, 2, none⟩ (.string ⟨#[]⟩)).setCell ⟨w.heap.size, 3, none⟩ (.slice none 0 0)).setCell ⟨w.heap.size, 4, none⟩ (.int .i64 0)).setCell ⟨w.heap.size, 0, none⟩ (.int .i64 0)) = W8 at *
        clear y0 y1 y2 y3 y4 y5 y6 y7 yf z0 z1 z2 z3 z4 z5 z6 z7 zf
        obtain ⟨y0, y1, y2, y3, y4, y5, y6, y7⟩ := eight HBx.out.bx
        obtain ⟨z0, z1, z2, z3, z4, z5, z6, z7⟩ := eight HBx.out.z
        have zf := eight_f HBx.out.z
        obtain ⟨W9, hW9⟩ : ∃ W9, W9 = put8 W8 (w.heap.size + 1) (.int .i64 0) (.float .f64 x) (.string ⟨#[]⟩) (.slice none 0 0) (.int .i64 0) (.int .i64 n) (.int .i64 d) (.slice aa an ac) := ⟨_, rfl⟩
        have HH : Hid (W9.heap[w.heap.size + 1]? = some (.cells #[.int .i64 0, .float .f64 x, .string ⟨#[]⟩, .slice none 0 0, .int .i64 0, .int .i64 n, .int .i64 d, .slice aa an ac] 26)) := by rw [hW9]; exact put8_heap HBx.out.z (.int .i64 0) (.float .f64 x) (.string ⟨#[]⟩) (.slice none 0 0) (.int .i64 0) (.int .i64 n) (.int .i64 d) (.slice aa an ac)
        have HBf : Hid (Below w.heap.size w W9) := by rw [hW9]; exact res_bel Hbx.out (by omega) _ _ _ _ _ _ _ _
        have HW9 := hid_of hW9
        clear HBx Hbx hW9
        go_wp2_with fail
        obtain rfl := HW9.out
        refine bodyPost_ret (results_cell_row (P := Tryz.prog) rfl _ _ (w.heap.size + 1) 26 _ (0, 0) _ rfl HH.out Tryz.underlying26 rfl (by kernel_rfl)) rfl ?_
        exact ⟨congrArg Ending.returned HQ.out.symm, HBf.out⟩
      · have b2 : ((sh : Int) == 2) = false := by rw [beq_eq_false_iff_ne]; omega
        have HQ : Hid (othS sh k x nm (.slice la ln lc) wi n d (.slice aa an ac) = .agg #[.int .i64 0, .float .f64 x, .string ⟨nm.toArray⟩, .slice la ln lc, .int .i64 wi, .int .i64 n, .int .i64 d, .slice none 0 0]) := by
          show othS _ _ _ _ _ _ _ _ _ = _
          unfold othS
          rw [if_neg q1, if_neg q3, if_neg q2]
        have HBx := hid_of ((hB1.set7 (by omega) (.slice none 0 0)).set0 (by omega) (.int .i64 0))
        have Hbx := hid_of ((hb1.setCell (p := ⟨w.heap.size, 7, none⟩) (Nat.le_refl _) (.slice none 0 0)).setCell (p := ⟨w.heap.size, 0, none⟩) (Nat.le_refl _) (.int .i64 0))
        clear hB1 hb1
        go_upto_region 10 with fail
        generalize ((w1.setCell ⟨w.heap.size, 7, none⟩ (.slice none 0 0)).setCell ⟨w.heap.size, 0, none⟩ (.int .i64 0)) = W8 at *
        clear y0 y1 y2 y3 y4 y5 y6 y7 yf z0 z1 z2 z3 z4 z5 z6 z7 zf
        obtain ⟨y0, y1, y2, y3, y4, y5, y6, y7⟩ := eight HBx.out.bx
        obtain ⟨z0, z1, z2, z3, z4, z5, z6, z7⟩ := eight HBx.out.z
        have zf := eight_f HBx.out.z
        obtain ⟨W9, hW9⟩ : ∃ W9, W9 = put8 W8 (w.heap.size + 1) (.int .i64 0) (.float .f64 x) (.string ⟨nm.toArray⟩) (.slice la ln lc) (.int .i64 wi) (.int .i64 n) (.int .i64 d) (.slice none 0 0) := ⟨_, rfl⟩
        have HH : Hid (W9.heap[w.heap.size + 1]? = some (.cells #[.int .i64 0, .float .f64 x, .string ⟨nm.toArray⟩, .slice la ln lc, .int .i64 wi, .int .i64 n, .int .i64 d, .slice none 0 0] 26)) := by rw [hW9]; exact put8_heap HBx.out.z (.int .i64 0) (.float .f64 x) (.string ⟨nm.toArray⟩) (.slice la ln lc) (.int .i64 wi) (.int .i64 n) (.int .i64 d) (.slice none 0 0)
        have HBf : Hid (Below w.heap.size w W9) := by rw [hW9]; exact res_bel Hbx.out (by omega) _ _ _ _ _ _ _ _
        have HW9 := hid_of hW9
        clear HBx Hbx hW9
        go_wp2_with fail
        obtain rfl := HW9.out
        refine bodyPost_ret (results_cell_row (P := Tryz.prog) rfl _ _ (w.heap.size + 1) 26 _ (0, 0) _ rfl HH.out Tryz.underlying26 rfl (by kernel_rfl)) rfl ?_
        exact ⟨congrArg Ending.returned HQ.out.symm, HBf.out⟩
end Go.Proofs.YtoaaijohmfaphaaGreatDoor.Ru
/- RULES: holds; Same with a rule of nothing. Own work of the verifier. -/
namespace Go.Proofs.YtoaaijohmfaphaaGreatDoor.Ru
open Go.RowKit Me

def hldB (sh x : Nat) (w n d : Int) (al : Nat) : Bool :=
  if sh = 1 then Re.finF x else if sh = 2 then winB w else if sh = 3 then winB w && shrB n d else if sh = 7 then decide (al = 1) else decide (al = 2)
theorem len_b (al m : Nat) : ((al : Int) == (m : Int)) = decide (al = m) := by
  by_cases h : al = m
  · rw [decide_eq_true h, beq_iff_eq, h]
  · rw [decide_eq_false h, beq_eq_false_iff_ne]; omega
set_option maxHeartbeats 2000000 in
set_option maxRecDepth 100000 in
theorem holds_any (k : Int) (x : Nat) (nm : List UInt8) (lv : Value) (wi n d : Int) (aa : Option Addr) (al ac : Nat) (hl : IsSl lv) (hx : x < 18446744073709551616) (w : World) (h : Kd w) :
    Calls Tryz.prog 57 #[rx k x nm lv wi n d (.slice aa al ac)] w fun e w' => e = .returned (.bool (hldB (shp k) x wi n d al)) ∧ Below w.heap.size w w' := by
  obtain ⟨la, ln, lc, rfl⟩ := hl
  obtain ⟨W0, hW0⟩ : ∃ W0, W0 = w.alloc (.cells (rc k x nm (.slice la ln lc) wi n d (.slice aa al ac)) 26) := ⟨_, rfl⟩
  have hb0 : Below w.heap.size w W0 := by rw [hW0]; exact bel1 w _
  have hn0 : W0.heap[w.heap.size]? = some (.cells (rc k x nm (.slice la ln lc) wi n d (.slice aa al ac)) 26) := by rw [hW0]; exact new_1 w _
  have HK : Hid (∀ W, Below w.heap.size w W → Calls Tryz.prog 29 #[rx k x nm (.slice la ln lc) wi n d (.slice aa al ac)] W fun e w' => e = .returned (kx (kwI k)) ∧ Below W.heap.size W w') := fun W hb => kind_any k x nm _ wi n d _ ⟨_, _, _, rfl⟩ ⟨_, _, _, rfl⟩ W (h.below hb)
  have h1 := Re.fin_ord (x % 9223372036854775808) (by omega)
  have HA : Hid (∀ W, Calls Tryz.prog 42 #[.float .f64 x] W fun e w' => e = .returned (.float .f64 (x % 9223372036854775808)) ∧ w' = W) := fun W => Re.abs_any x hx W
  have HWb : Hid (∀ W, Calls Tryz.prog 80 #[.int .i64 wi] W fun e w' => e = .returned (.bool (winB wi)) ∧ w' = W) := fun W => win_b wi W
  have HSb : Hid (∀ W, Calls Tryz.prog 81 #[.int .i64 n, .int .i64 d] W fun e w' => e = .returned (.bool (shrB n d)) ∧ w' = W) := fun W => share_b n d W
  obtain ⟨y0, y1, y2, y3, y4, y5, y6, y7⟩ := eight hn0
  have HN0 := hid_of hn0
  have HW0 := hid_of hW0
  have Hb0 := hid_of hb0
  have hfl := fldK
  have HL1 : Hid (((al : Int) == 1) = decide (al = 1)) := len_b al 1
  have HL2 : Hid (((al : Int) == 2) = decide (al = 2)) := len_b al 2
  have HQ : Hid (∀ sh, hldB sh x wi n d al = if sh = 1 then decide (x % 9223372036854775808 < 9218868437227405312) else if sh = 2 then winB wi else if sh = 3 then winB wi && shrB n d else if sh = 7 then decide (al = 1) else decide (al = 2)) := fun sh => rfl
  unfold shp
  clear h hb0 hn0 hW0 hx
  generalize kwI k = q at *
  obtain ⟨sh, wd⟩ := q
  dsimp only at *
  have HQs := hid_of (HQ.out sh)
  clear HQ
  generalize hldB sh x wi n d al = R at *
  generalize decide (x % 9223372036854775808 < 9218868437227405312) = fb at *
  generalize x % 9223372036854775808 = y at *
  generalize winB wi = wb at *
  generalize shrB n d = sb at *
  generalize decide (al = 1) = a1 at *
  generalize decide (al = 2) = a2 at *
  go_enter Tryz.func57, Tryz.ntmps57
  go_upto_region 1 with fail
  rw [← HW0.out]
  clear HW0
  go_wp2_with fail
  refine Calls.mono (HK.out _ Hb0.out) ?_
  rintro e w1 ⟨rfl, hbw⟩
  have hn1 := (hbw.block w.heap.size (Array.getElem?_eq_some_iff.1 HN0.out).1).trans HN0.out
  have HB1 := hid_of (Hb0.out.trans (hbw.mono Hb0.out.size))
  clear hbw HK Hb0 HN0 y0 y1 y2 y3 y4 y5 y6 y7
  obtain ⟨y0, y1, y2, y3, y4, y5, y6, y7⟩ := eight hn1
  clear hn1
  by_cases q1 : sh = 1
  · subst q1
    have HR : Hid (R = fb) := HQs.out
    clear HQs HWb HSb
    go_wp2_with fail
    refine Calls.mono (HA.out _) ?_
    rintro e w2 ⟨rfl, rfl⟩
    go_wp2_with fail
    go_ret
    exact ⟨retB HR.out.symm, HB1.out⟩
  · have b1 : ((sh : Int) == 1) = false := by rw [beq_eq_false_iff_ne]; omega
    by_cases q2 : sh = 2
    · subst q2
      have HR : Hid (R = wb) := HQs.out
      clear HQs HA HSb h1
      go_wp2_with fail
      refine Calls.mono (HWb.out _) ?_
      rintro e w2 ⟨rfl, rfl⟩
      go_wp2_with fail
      go_ret
      exact ⟨retB HR.out.symm, HB1.out⟩
    · have b2 : ((sh : Int) == 2) = false := by rw [beq_eq_false_iff_ne]; omega
      by_cases q3 : sh = 3
      · subst q3
        have HR : Hid (R = (wb && sb)) := HQs.out
        clear HQs HA h1
        cases wb
        · go_wp2_with fail
          refine Calls.mono (HWb.out _) ?_
          rintro e w2 ⟨rfl, rfl⟩
          go_wp2_with fail
          go_ret
          exact ⟨retB HR.out.symm, HB1.out⟩
        · go_wp2_with fail
          refine Calls.mono (HWb.out _) ?_
          rintro e w2 ⟨rfl, rfl⟩
          go_wp2_with fail
          refine Calls.mono (HSb.out _) ?_
          rintro e w2 ⟨rfl, rfl⟩
          go_wp2_with fail
          go_ret
          exact ⟨retB HR.out.symm, HB1.out⟩
      · have b3 : ((sh : Int) == 3) = false := by rw [beq_eq_false_iff_ne]; omega
        by_cases q7 : sh = 7
        · subst q7
          have HR : Hid (R = a1) := HQs.out
          clear HQs HA HWb HSb h1
          go_wp2_with fail
          go_ret
          exact ⟨retB (HL1.out.trans HR.out.symm), HB1.out⟩
        · have b7 : ((sh : Int) == 7) = false := by rw [beq_eq_false_iff_ne]; omega
          have HR : Hid (R = a2) := by
            have := HQs.out
            rw [if_neg q1, if_neg q2, if_neg q3, if_neg q7] at this
            exact this
          clear HQs HA HWb HSb h1
          go_wp2_with fail
          go_ret
          exact ⟨retB (HL2.out.trans HR.out.symm), HB1.out⟩
theorem eq_nil (a : Option Addr) (n c : Nat) (w : World) : Calls Tryz.prog 22 #[.slice a n c, .slice none 0 0] w fun e w' => e = .returned (.bool (decide (n = 0))) ∧ w' = w := by
  by_cases h : n = 0
  · subst h
    go_enter Tryz.func22, Tryz.ntmps22
    go_wp2_with fail
    go_rounds 1
    go_wp2_with fail
    go_ret
    exact ⟨rfl, rfl⟩
  · have hn : ((n : Int) == 0) = false := by rw [beq_eq_false_iff_ne]; omega
    rw [decide_eq_false h]
    go_enter Tryz.func22, Tryz.ntmps22
    go_wp2_with fail
    go_ret
    exact ⟨rfl, rfl⟩
theorem eqf_nil (a : Option Addr) (n c : Nat) (f : Value) (w : World) : Calls Tryz.prog 23 #[.slice a n c, .slice none 0 0, f] w fun e w' => e = .returned (.bool (decide (n = 0))) ∧ w' = w := by
  by_cases h : n = 0
  · subst h
    go_enter Tryz.func23, Tryz.ntmps23
    go_wp2_with fail
    go_rounds 1
    go_wp2_with fail
    go_ret
    exact ⟨rfl, rfl⟩
  · have hn : ((n : Int) == 0) = false := by rw [beq_eq_false_iff_ne]; omega
    rw [decide_eq_false h]
    go_enter Tryz.func23, Tryz.ntmps23
    go_wp2_with fail
    go_ret
    exact ⟨rfl, rfl⟩
end Go.Proofs.YtoaaijohmfaphaaGreatDoor.Ru
/- RULES: Same with a rule of nothing; checkNode. Own work of the verifier. -/
namespace Go.Proofs.YtoaaijohmfaphaaGreatDoor.Ru
open Go.RowKit Me

def s0B (x : Nat) (nm : List UInt8) (ln : Nat) (w n d : Int) (al : Nat) : Bool := Re.sF x 0 && (nm == []) && decide (ln = 0) && (w == 0) && (n == 0) && (d == 0) && decide (al = 0)
theorem heap_alloc2_old (w : World) (o1 o2 : Obj) : ((w.alloc o1).alloc o2).heap[w.heap.size]? = some o1 := ((bel1 (w.alloc o1) o2).block w.heap.size (by simp)).trans (new_1 w o1)
set_option maxHeartbeats 2000000 in
set_option maxRecDepth 100000 in
theorem same0_any (x : Nat) (nm : List UInt8) (la : Option Addr) (ln lc : Nat) (wi n d : Int) (aa : Option Addr) (al ac : Nat) (hx : x < 18446744073709551616) (w : World) :
    Calls Tryz.prog 10 #[rx 0 x nm (.slice la ln lc) wi n d (.slice aa al ac), rx 0 0 [] (.slice none 0 0) 0 0 0 (.slice none 0 0)] w fun e w' => e = .returned (.bool (s0B x nm ln wi n d al)) ∧ Below w.heap.size w w' := by
  obtain ⟨W0, hW0⟩ : ∃ W0, W0 = (w.alloc (.cells (rc 0 x nm (.slice la ln lc) wi n d (.slice aa al ac)) 26)).alloc (.cells (rc 0 0 [] (.slice none 0 0) 0 0 0 (.slice none 0 0)) 26) := ⟨_, rfl⟩
  have hb0 : Below w.heap.size w W0 := by rw [hW0]; exact La.bel2 w _ _
  have hn0 : W0.heap[w.heap.size]? = some (.cells (rc 0 x nm (.slice la ln lc) wi n d (.slice aa al ac)) 26) := by rw [hW0]; exact heap_alloc2_old w _ _
  have hz0 : Z8 (w.heap.size + 1) W0 := by
    rw [hW0]
    have := new_1 (w.alloc (.cells (rc 0 x nm (.slice la ln lc) wi n d (.slice aa al ac)) 26)) (.cells (rc 0 0 [] (.slice none 0 0) 0 0 0 (.slice none 0 0)) 26)
    rw [show (w.alloc (.cells (rc 0 x nm (.slice la ln lc) wi n d (.slice aa al ac)) 26)).heap.size = w.heap.size + 1 by simp] at this
    exact this
  have HS : Hid (∀ W, Calls Tryz.prog 21 #[.float .f64 x, .float .f64 0] W fun e w' => e = .returned (.bool (Re.sF x 0)) ∧ w' = W) := fun W => Re.same_any x 0 hx (by decide) W
  have HE : Hid (∀ W, Calls Tryz.prog 22 #[.slice la ln lc, .slice none 0 0] W fun e w' => e = .returned (.bool (decide (ln = 0))) ∧ w' = W) := fun W => eq_nil _ _ _ W
  have HF : Hid (∀ W, Calls Tryz.prog 23 #[.slice aa al ac, .slice none 0 0, .func (.func 10) #[] #[]] W fun e w' => e = .returned (.bool (decide (al = 0))) ∧ w' = W) := fun W => eqf_nil _ _ _ _ W
  obtain ⟨y0, y1, y2, y3, y4, y5, y6, y7⟩ := eight hn0
  obtain ⟨z0, z1, z2, z3, z4, z5, z6, z7⟩ := eight hz0
  have HW0 := hid_of hW0
  have Hb0 := hid_of hb0
  have HQ : Hid (s0B x nm ln wi n d al = (Re.sF x 0 && (nm == []) && decide (ln = 0) && (wi == 0) && (n == 0) && (d == 0) && decide (al = 0))) := rfl
  clear hW0 hb0 hn0 hz0
  generalize hRR : s0B x nm ln wi n d al = R at *
  clear hRR
  generalize Re.sF x 0 = b1 at *
  generalize decide (ln = 0) = b3 at *
  generalize decide (al = 0) = b7 at *
  cases b1 with
  | false =>
    have HR : Hid (R = false) := by
      show _ = _
      have := HQ.out
      simpa using this
    clear HQ hx z2 y2 z3 y3 z4 y4 z5 y5 z6 y6 z7 y7 HE HF
    go_enter Tryz.func10, Tryz.ntmps10
    go_upto_region 1 with fail
    rw [← HW0.out]
    clear HW0
    go_wp2_with (first | (go_at_call 21; refine (HS.out _).mono ?_; rintro e1 w1 ⟨rfl, rfl⟩))
    go_ret
    exact ⟨retB HR.out.symm, Hb0.out⟩
  | true =>
    cases nm with
    | cons ch nr =>
      have hne : ((ch :: nr) == []) = false := rfl
      generalize ch :: nr = nm at *
      have HR : Hid (R = false) := by
        show _ = _
        have := HQ.out
        simpa [hne] using this
      clear HQ hx z3 y3 z4 y4 z5 y5 z6 y6 z7 y7 HE HF
      go_enter Tryz.func10, Tryz.ntmps10
      go_upto_region 1 with fail
      rw [← HW0.out]
      clear HW0
      go_wp2_with (first | (go_at_call 21; refine (HS.out _).mono ?_; rintro e1 w1 ⟨rfl, rfl⟩))
      go_ret
      exact ⟨retB HR.out.symm, Hb0.out⟩
    | nil =>
      cases b3 with
      | false =>
        have HR : Hid (R = false) := by
          show _ = _
          have := HQ.out
          simpa using this
        clear HQ hx z4 y4 z5 y5 z6 y6 z7 y7 HF
        go_enter Tryz.func10, Tryz.ntmps10
        go_upto_region 1 with fail
        rw [← HW0.out]
        clear HW0
        go_wp2_with (first | (go_at_call 21; refine (HS.out _).mono ?_; rintro e1 w1 ⟨rfl, rfl⟩) | (go_at_call 22; refine (HE.out _).mono ?_; rintro e1 w1 ⟨rfl, rfl⟩))
        go_ret
        exact ⟨retB HR.out.symm, Hb0.out⟩
      | true =>
        by_cases q4 : wi = 0
        · subst q4
          by_cases q5 : n = 0
          · subst q5
            by_cases q6 : d = 0
            · subst q6
              have HR : Hid (R = b7) := by
                show _ = _
                have := HQ.out
                simpa using this
              clear HQ hx
              go_enter Tryz.func10, Tryz.ntmps10
              go_upto_region 1 with fail
              rw [← HW0.out]
              clear HW0
              go_wp2_with (first | (go_at_call 21; refine (HS.out _).mono ?_; rintro e1 w1 ⟨rfl, rfl⟩) | (go_at_call 22; refine (HE.out _).mono ?_; rintro e1 w1 ⟨rfl, rfl⟩) | (go_at_call 23; refine (HF.out _).mono ?_; rintro e1 w1 ⟨rfl, rfl⟩))
              go_ret
              exact ⟨retB HR.out.symm, Hb0.out⟩
            · have t6 : (d == 0) = false := beq_eq_false_iff_ne.2 q6
              have HR : Hid (R = false) := by
                show _ = _
                have := HQ.out
                simpa [t6] using this
              clear HQ hx z7 y7 HF
              go_enter Tryz.func10, Tryz.ntmps10
              go_upto_region 1 with fail
              rw [← HW0.out]
              clear HW0
              go_wp2_with (first | (go_at_call 21; refine (HS.out _).mono ?_; rintro e1 w1 ⟨rfl, rfl⟩) | (go_at_call 22; refine (HE.out _).mono ?_; rintro e1 w1 ⟨rfl, rfl⟩))
              go_ret
              exact ⟨retB HR.out.symm, Hb0.out⟩
          · have t5 : (n == 0) = false := beq_eq_false_iff_ne.2 q5
            have HR : Hid (R = false) := by
              show _ = _
              have := HQ.out
              simpa [t5] using this
            clear HQ hx z6 y6 z7 y7 HF
            go_enter Tryz.func10, Tryz.ntmps10
            go_upto_region 1 with fail
            rw [← HW0.out]
            clear HW0
            go_wp2_with (first | (go_at_call 21; refine (HS.out _).mono ?_; rintro e1 w1 ⟨rfl, rfl⟩) | (go_at_call 22; refine (HE.out _).mono ?_; rintro e1 w1 ⟨rfl, rfl⟩))
            go_ret
            exact ⟨retB HR.out.symm, Hb0.out⟩
        · have t4 : (wi == 0) = false := beq_eq_false_iff_ne.2 q4
          have HR : Hid (R = false) := by
            show _ = _
            have := HQ.out
            simpa [t4] using this
          clear HQ hx z5 y5 z6 y6 z7 y7 HF
          go_enter Tryz.func10, Tryz.ntmps10
          go_upto_region 1 with fail
          rw [← HW0.out]
          clear HW0
          go_wp2_with (first | (go_at_call 21; refine (HS.out _).mono ?_; rintro e1 w1 ⟨rfl, rfl⟩) | (go_at_call 22; refine (HE.out _).mono ?_; rintro e1 w1 ⟨rfl, rfl⟩))
          go_ret
          exact ⟨retB HR.out.symm, Hb0.out⟩
end Go.Proofs.YtoaaijohmfaphaaGreatDoor.Ru
