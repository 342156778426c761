/- RULES: the two texts that the law's awake reads. Own work of the verifier. -/
import Derived.Test.YtmmkboldkaehgaaGreatDoorSBG
import Derived.Test.YtmmkboldkaehgaaGreatDoorSBH
import Derived.Test.YtmmkboldkaehgaaGreatDoorSAB
import Derived.Test.YtmmkboldkaehgaaGreatDoorSBD
import Derived.Test.YtmmkboldkaehgaaGreatDoorSBF
import Derived.Deep.RegionHeld3
namespace Go.Proofs.YtmmkboldkaehgaaGreatDoor.Ru
open Go.RowKit Go.Sort Me

/-- The floats of the digits that those texts have. -/
def dPR (l : List UInt8) : Option Nat := if l = [49] then some 4607182418800017408 else if l = [50] then some 4611686018427387904 else if l = [53] then some 4617315517961601024 else none
def dOk (T : List UInt8) : Bool := (List.range (T.length + 1)).all fun a => if bgn (T.drop a) = 2 then (decide ((T.drop a).takeWhile isNm = [49]) || decide ((T.drop a).takeWhile isNm = [50]) || decide ((T.drop a).takeWhile isNm = [53])) else true
theorem dPr_at (u : World) (h : Rl.Glob2 u) (l : List UInt8) (hl : l = [49] ∨ l = [50] ∨ l = [53]) : PrAt dPR u l := by
  intro W hb
  rcases hl with rfl | rfl | rfl
  · refine (Rl.dreal_1 W (h.below hb)).mono ?_
    rintro e w' ⟨rfl, hb⟩
    exact ⟨Or.inl ⟨_, by unfold dPR; rw [if_pos rfl], rfl⟩, hb⟩
  · refine (Rl.dreal_2 W (h.below hb)).mono ?_
    rintro e w' ⟨rfl, hb⟩
    exact ⟨Or.inl ⟨_, by unfold dPR; rw [if_neg (by decide), if_pos rfl], rfl⟩, hb⟩
  · refine (Rl.dreal_5 W (h.below hb)).mono ?_
    rintro e w' ⟨rfl, hb⟩
    exact ⟨Or.inl ⟨_, by unfold dPR; rw [if_neg (by decide), if_neg (by decide), if_pos rfl], rfl⟩, hb⟩
theorem dnum_of (T : List UInt8) (h : dOk T = true) (s : St) (ho : Ok T s) (hb : bgn (rst T s) = 2) : rowF isNm T s = [49] ∨ rowF isNm T s = [50] ∨ rowF isNm T s = [53] := by
  have he : s.e = 0 := by
    by_cases q : s.e = 0
    · exact q
    · unfold rst at hb
      rw [if_neg q] at hb
      cases hb
  unfold rowF
  unfold rst at hb ⊢
  rw [if_pos he] at hb ⊢
  have := (List.all_eq_true.1 h) s.a (List.mem_range.2 (by have := ho.a; omega))
  rw [if_pos hb] at this
  simpa [or_assoc] using this
abbrev tx1 : List UInt8 := [40, 49, 32, 60, 32, 116, 111, 116, 97, 108, 40, 97, 44, 32, 53, 41, 41]
abbrev tx2 : List UInt8 := [49, 32, 43, 32, 50]
/-- The rule (1 < total(a, 5)). -/
abbrev rl1 : RT := .mk 13 0 [] [] 0 0 0 [.mk 1 4607182418800017408 [] [] 0 0 0 [], .mk 2 0 [97] [] 5 0 0 []]
theorem whl1 : whlF dPR tx1 ⟨0, 0, 0⟩ = (rl1, ⟨17, 0, 3⟩) := by kernel_rfl
theorem whl2 : (whlF dPR tx2 ⟨0, 0, 0⟩).2 = ⟨1, 5, 1⟩ := by kernel_rfl
theorem dok1 : dOk tx1 = true := by decide +kernel
theorem dok2 : dOk tx2 = true := by decide +kernel
theorem ck1 : ckE rl1 = 0 := by decide +kernel
theorem sz1 : ∀ s ∈ nds rl1, szN s ∧ szI s := by
  intro s hs
  have : s = rl1 ∨ s = .mk 1 4607182418800017408 [] [] 0 0 0 [] ∨ s = .mk 2 0 [97] [] 5 0 0 [] := by simpa [nds, ndsL] using hs
  rcases this with rfl | rfl | rfl
  all_goals exact ⟨⟨by decide, by decide, by decide, fun a ha => by cases ha⟩, by decide, by decide, by decide⟩
theorem wr1 : wrT rl1 = tx1 := by
  simp only [wrT, wrTs, Rl.dtext_1]
  kernel_rfl
theorem parse1 (w : World) (he : Env w) : Calls Tryz.prog 9 #[.string ⟨#[40, 49, 32, 60, 32, 116, 111, 116, 97, 108, 40, 97, 44, 32, 53, 41, 41]⟩] w fun e w' => (∃ v, e = .returned (.tuple #[v, .int .i64 0, .int .i64 0]) ∧ RV 0 w' rl1 v) ∧ Below w.heap.size w w' := by
  have := parse_any dPR (fun t => (ckE t).toNat) tx1 (by decide) w he (fun _ u hb s ho h2 => dPr_at u (he.below hb).gl _ (dnum_of tx1 dok1 s ho h2)) (fun _ _ => by
    rw [whl1]
    exact ckAt_of rl1 w (fun s hs => (sz1 s hs).1) he.kd)
  refine this.mono ?_
  rintro e w' ⟨hq, hb⟩
  refine ⟨?_, hb⟩
  unfold PsQ at hq
  rw [whl1] at hq
  rcases hq with ⟨z, a, hz, -, ⟨h, -⟩ | ⟨-, h, -⟩ | ⟨-, -, h, -⟩⟩ | ⟨-, -, -, v, h1, h2⟩
  · exact absurd h (by decide)
  · exact absurd h hz
  · dsimp only at h; rw [ck1] at h; exact absurd h hz
  · exact ⟨v, h1, h2.mono (Nat.zero_le _)⟩
theorem parse2 (w : World) (he : Env w) : Calls Tryz.prog 9 #[.string ⟨#[49, 32, 43, 32, 50]⟩] w fun e w' => e = .returned (.tuple #[rx 0 0 [] (.slice none 0 0) 0 0 0 (.slice none 0 0), .int .i64 5, .int .i64 1]) ∧ Below w.heap.size w w' := by
  have := parse_any dPR (fun t => (ckE t).toNat) tx2 (by decide) w he (fun _ u hb s ho h2 => dPr_at u (he.below hb).gl _ (dnum_of tx2 dok2 s ho h2)) (fun _ h => by
    rw [whl2] at h
    cases h)
  refine this.mono ?_
  rintro e w' ⟨hq, hb⟩
  refine ⟨?_, hb⟩
  unfold PsQ at hq
  rw [whl2] at hq
  rcases hq with ⟨z, a, hz, h1, ⟨h, -⟩ | ⟨-, h, h'⟩ | ⟨-, h, -⟩⟩ | ⟨-, h, -⟩
  · exact absurd h (by decide)
  · rw [h1, h, h']; rfl
  · cases h
  · cases h
theorem print1 (v : Value) (w : World) (hv : RV 0 w rl1 v) (he : Env w) : Calls Tryz.prog 10 #[v] w fun e w' => e = .returned (.tuple #[.string ⟨#[40, 49, 32, 60, 32, 116, 111, 116, 97, 108, 40, 97, 44, 32, 53, 41, 41]⟩, .int .i64 0]) ∧ Below w.heap.size w w' := by
  refine (rprint_any rl1 v w hv sz1 (fun _ => by rw [wr1]; decide) he).mono ?_
  rintro e w' ⟨hq, hb⟩
  refine ⟨?_, hb⟩
  unfold PnQ at hq
  rw [wr1, ck1] at hq
  rcases hq with ⟨h, -⟩ | ⟨-, h, -⟩ | ⟨-, -, h⟩
  · exact absurd rfl h
  · exact absurd h (by decide)
  · exact h
theorem type1 (v : Value) (w : World) (hv : RV 0 w rl1 v) (h : Kd w) : Calls Tryz.prog 11 #[v] w fun e w' => e = .returned (.tuple #[.bool true, .int .i64 0]) ∧ Below w.heap.size w w' := by
  refine (type_any rl1 v w hv (fun s hs => (sz1 s hs).1) h).mono ?_
  rintro e w' ⟨rfl, hb⟩
  refine ⟨?_, hb⟩
  rw [ck1, if_pos rfl]
  rfl
end Go.Proofs.YtmmkboldkaehgaaGreatDoor.Ru
/- RULES: awake; RulesNames' walk. Own work of the verifier. -/
namespace Go.Proofs.YtmmkboldkaehgaaGreatDoor.Ru
open Go.RowKit Go.Sort Me

set_option maxHeartbeats 1000000 in
theorem rnew2 (w : World) : Calls Tryz.prog 12 #[.int .i64 2] w fun e w' => e = .returned (.tuple #[.pointer (some ⟨w.heap.size, 0, none⟩), .int .i64 0]) ∧ Below w.heap.size w w' := by
  go_enter Tryz.func12, Tryz.ntmps12
  go_wp2
  simp [bodyPost, results, Tryz.results12, go_sem]
  exact bel1 _ _
theorem two_two : (FloatKind.f64.format.order 4611686018427387904 4611686018427387904 == some .eq) = true := by decide +kernel
set_option maxHeartbeats 4000000 in
set_option maxRecDepth 100000 in
theorem awake_any (w : World) (he : Env w) : Calls Tryz.prog 4 #[] w fun e w' => e = .returned (.bool true) ∧ Below w.heap.size w w' := by
  have HP1 : Hid (∀ W, Below w.heap.size w W → Calls Tryz.prog 9 #[.string ⟨#[40, 49, 32, 60, 32, 116, 111, 116, 97, 108, 40, 97, 44, 32, 53, 41, 41]⟩] W fun e w' => (∃ v, e = .returned (.tuple #[v, .int .i64 0, .int .i64 0]) ∧ RV 0 w' rl1 v) ∧ Below W.heap.size W w') := fun W hb => parse1 W (he.below hb)
  have HP2 : Hid (∀ W, Below w.heap.size w W → Calls Tryz.prog 9 #[.string ⟨#[49, 32, 43, 32, 50]⟩] W fun e w' => e = .returned (.tuple #[rx 0 0 [] (.slice none 0 0) 0 0 0 (.slice none 0 0), .int .i64 5, .int .i64 1]) ∧ Below W.heap.size W w') := fun W hb => parse2 W (he.below hb)
  have HPn : Hid (∀ v W, Below w.heap.size w W → RV 0 W rl1 v → Calls Tryz.prog 10 #[v] W fun e w' => e = .returned (.tuple #[.string ⟨#[40, 49, 32, 60, 32, 116, 111, 116, 97, 108, 40, 97, 44, 32, 53, 41, 41]⟩, .int .i64 0]) ∧ Below W.heap.size W w') := fun v W hb hv => print1 v W hv (he.below hb)
  have HTy : Hid (∀ v W, Below w.heap.size w W → RV 0 W rl1 v → Calls Tryz.prog 11 #[v] W fun e w' => e = .returned (.tuple #[.bool true, .int .i64 0]) ∧ Below W.heap.size W w') := fun v W hb hv => type1 v W hv (he.kd.below hb)
  have HNw : Hid (∀ W : World, Calls Tryz.prog 12 #[.int .i64 2] W fun e w' => e = .returned (.tuple #[.pointer (some ⟨W.heap.size, 0, none⟩), .int .i64 0]) ∧ Below W.heap.size W w') := fun W => rnew2 W
  have HEv : Hid (∀ p W, Below w.heap.size w W → Calls Tryz.prog 13 #[.pointer p, .int .i64 0, rx 1 4611686018427387904 [] (.slice none 0 0) 0 0 0 (.slice none 0 0)] W fun e w' => e = .returned (.tuple #[.agg #[.bool false, .bool false, .float .f64 4611686018427387904], .int .i64 0]) ∧ Below W.heap.size W w') := fun p W hb => eval_two _ ⟨p, rfl⟩ W (he.kd.below hb)
  have hf2 := two_two
  have sF := store_f
  clear he
  go_enter Tryz.func4, Tryz.ntmps4
  go_wp2_with fail
  refine Calls.mono (HP1.out _ (Below.refl _ _)) ?_
  rintro e w1 ⟨⟨v, rfl, hv⟩, hb1⟩
  unfold RV at hv
  obtain ⟨lv, ao, b, o, cap, rfl, hl, hao, hc1, hc2, hrs⟩ := hv
  obtain ⟨la, lb0, lo, lc, rfl, hlr⟩ := hl
  have hv1 : RV 0 w1 rl1 (rx 13 0 [] (.slice la 0 lc) 0 0 0 (.slice ao 2 cap)) := by
    unfold RV
    exact ⟨_, ao, b, o, cap, rfl, ⟨la, lb0, lo, lc, rfl, hlr⟩, hao, hc1, hc2, hrs⟩
  have hX := bel1 w1 (.cells (rc 13 0 [] (.slice la 0 lc) 0 0 0 (.slice ao 2 cap)) 26)
  have hn := new_1 w1 (.cells (rc 13 0 [] (.slice la 0 lc) 0 0 0 (.slice ao 2 cap)) 26)
  have HV := hid_of (hv1.below hX)
  have HB := hid_of (bt hb1 hX)
  have HN := hid_of hn
  clear hv1 hX hn hb1 hao hc1 hc2 hrs hlr HP1
  go_upto_region 2 with fail
  generalize w1.alloc (.cells (rc 13 0 [] (.slice la 0 lc) 0 0 0 (.slice ao 2 cap)) 26) = W2 at *
  generalize w1.heap.size = gx at *
  go_wp2_with fail
  refine Calls.mono (HP2.out _ HB.out) ?_
  rintro e w3 ⟨rfl, hb3⟩
  have hX := hb3.trans ((bel1 w3 (.cells (rc 0 0 [] (.slice none 0 0) 0 0 0 (.slice none 0 0)) 26)).mono hb3.size)
  have HV3 := hid_of (HV.out.below hX)
  have HB3 := hid_of (bt HB.out hX)
  have HN3 := hid_of ((hX.block _ (Array.getElem?_eq_some_iff.1 HN.out).1).trans HN.out)
  clear HV HB HN hX hb3 HP2
  go_upto_region 3 with fail
  generalize w3.alloc (.cells (rc 0 0 [] (.slice none 0 0) 0 0 0 (.slice none 0 0)) 26) = W4 at *
  generalize w3.heap.size = gy at *
  obtain ⟨y0, y1, y2, y3, y4, y5, y6, y7⟩ := eight HN3.out
  go_wp2_with fail
  refine Calls.mono (HPn.out _ _ HB3.out HV3.out) ?_
  rintro e w5 ⟨rfl, hb5⟩
  have HV5 := hid_of (HV3.out.below hb5)
  have HB5 := hid_of (bt HB3.out hb5)
  have HN5 := hid_of ((hb5.block _ (Array.getElem?_eq_some_iff.1 HN3.out).1).trans HN3.out)
  clear HV3 HB3 HN3 hb5 HPn y0 y1 y2 y3 y4 y5 y6 y7
  go_upto_region 4 with fail
  obtain ⟨y0, y1, y2, y3, y4, y5, y6, y7⟩ := eight HN5.out
  go_wp2_with fail
  refine Calls.mono (HTy.out _ _ HB5.out HV5.out) ?_
  rintro e w6 ⟨rfl, hb6⟩
  have HB6 := hid_of (bt HB5.out hb6)
  have HN6 := hid_of ((hb6.block _ (Array.getElem?_eq_some_iff.1 HN5.out).1).trans HN5.out)
  clear HV5 HB5 HN5 hb6 HTy y0 y1 y2 y3 y4 y5 y6 y7
  go_upto_region 5 with fail
  go_wp2_with fail
  refine Calls.mono (HNw.out _) ?_
  rintro e w7 ⟨rfl, hb7⟩
  have HB7 := hid_of (bt HB6.out hb7)
  have HN7 := hid_of ((hb7.block _ (Array.getElem?_eq_some_iff.1 HN6.out).1).trans HN6.out)
  clear HB6 HN6 hb7 HNw
  generalize w6.heap.size = gr at *
  go_upto_region 6 with fail
  go_wp2_with fail
  refine Calls.mono (HEv.out _ _ HB7.out) ?_
  rintro e w8 ⟨rfl, hb8⟩
  have hX := hb8.trans ((bel1 w8 (.cells #[.bool false, .bool false, .float .f64 4611686018427387904] 42)).mono hb8.size)
  have HB9 := hid_of (bt HB7.out hX)
  have hn9 := (hX.block _ (Array.getElem?_eq_some_iff.1 HN7.out).1).trans HN7.out
  obtain ⟨⟨a0, a1, a2⟩, -⟩ := three (new_1 w8 (.cells #[.bool false, .bool false, .float .f64 4611686018427387904] 42))
  obtain ⟨y0, -⟩ := eight hn9
  clear HB7 HN7 hb8 hX hn9 HEv
  go_upto_region 9 with fail
  generalize w8.alloc (.cells #[.bool false, .bool false, .float .f64 4611686018427387904] 42) = W9 at *
  generalize w8.heap.size = ga at *
  go_wp2_with fail
  go_ret
  exact ⟨rfl, HB9.out⟩
end Go.Proofs.YtmmkboldkaehgaaGreatDoor.Ru
/- RULES: RulesSames' walk. Own work of the verifier. -/
namespace Go.Proofs.YtmmkboldkaehgaaGreatDoor.Ru
open Go.RowKit Go.Sort Me

theorem lfF_lt : ∀ (t : RT) (n : Int), lfF t n ≤ n - 1 := by
  intro t n
  obtain ⟨k, x, nm, lb, w, nn, d, ar⟩ := t
  unfold lfF
  have := lfL_le' ar (n - (1 + (lb.length : Int))) (fun a _ n => lfF_le a n)
  omega
theorem lfL_all : ∀ (ar : List RT) (n : Int), 0 ≤ lfL ar n → (ar.length : Int) ≤ n ∧ ∀ a ∈ ar, ∃ n', n' ≤ n ∧ 0 ≤ lfF a n'
  | [], n, h => by unfold lfL at h; exact ⟨by simpa using h, fun a ha => by cases ha⟩
  | t :: ar, n, h => by
    unfold lfL at h
    by_cases q : 0 ≤ n
    · rw [if_pos q] at h
      obtain ⟨h1, h2⟩ := lfL_all ar _ h
      have h3 := lfF_lt t n
      refine ⟨by rw [List.length_cons]; omega, fun a ha => ?_⟩
      rcases List.mem_cons.1 ha with rfl | ha
      · exact ⟨n, by omega, by omega⟩
      · obtain ⟨n', k1, k2⟩ := h2 a ha
        exact ⟨n', by omega, k2⟩
    · rw [if_neg q] at h; exact absurd h q
/-- What is small has short lists. -/
theorem lf_small : ∀ (t : RT) (n : Int), n ≤ 32768 → 0 ≤ lfF t n → ∀ s ∈ nds t, szO s := by
  refine RT.ind ?_
  intro k x nm lb w nn d ar ih n hn h s hs
  unfold lfF at h
  obtain ⟨h1, h2⟩ := lfL_all ar _ h
  unfold nds at hs
  rcases List.mem_cons.1 hs with rfl | hs
  · exact ⟨by omega, by omega⟩
  · obtain ⟨a, ha, hsa⟩ := ndsL_ex hs
    obtain ⟨n', k1, k2⟩ := h2 a ha
    exact ih a ha n' (by omega) k2 s hsa
mutual
theorem smB_sym : ∀ (t t2 : RT), smB t t2 = smB t2 t
  | .mk k x nm lb w n d ar, .mk k2 x2 nm2 lb2 w2 n2 d2 ar2 => by
    have e1 : Re.sF x x2 = Re.sF x2 x := by
      unfold Re.sF Re.sg
      rcases Nat.lt_trichotomy (Re.rk x) (Re.rk x2) with h | h | h
      · rw [if_pos h, if_neg (by omega), if_pos h]; rfl
      · rw [h]
      · rw [if_neg (by omega), if_pos h, if_pos h]; rfl
    rw [smB, smB, smL_sym ar ar2, e1, Bool.beq_comm (a := nm)]
    have e2 : (k == k2) = (k2 == k) := by rw [Bool.eq_iff_iff, beq_iff_eq, beq_iff_eq]; exact eq_comm
    have e3 : decide (lb = lb2) = decide (lb2 = lb) := decide_eq_decide.2 eq_comm
    have e4 : (w == w2) = (w2 == w) := by rw [Bool.eq_iff_iff, beq_iff_eq, beq_iff_eq]; exact eq_comm
    have e5 : (n == n2) = (n2 == n) := by rw [Bool.eq_iff_iff, beq_iff_eq, beq_iff_eq]; exact eq_comm
    have e6 : (d == d2) = (d2 == d) := by rw [Bool.eq_iff_iff, beq_iff_eq, beq_iff_eq]; exact eq_comm
    rw [e2, e3, e4, e5, e6]
theorem smL_sym : ∀ (a b : List RT), smL a b = smL b a
  | [], [] => rfl
  | [], _ :: _ => by rw [smL, smL]; rfl
  | _ :: _, [] => by rw [smL, smL]; rfl
  | t :: ar, t2 :: ar2 => by rw [smL, smL, smB_sym t t2, smL_sym ar ar2]
end
theorem smL_refl' : ∀ (ar : List RT), (∀ a ∈ ar, smB a a = true) → smL ar ar = true
  | [], _ => by rw [smL]; rfl
  | t :: ar, h => by rw [smL, h t List.mem_cons_self, smL_refl' ar (fun a ha => h a (List.mem_cons_of_mem _ ha))]; rfl
theorem smB_refl : ∀ t : RT, smB t t = true := by
  refine RT.ind ?_
  intro k x nm lb w n d ar ih
  rw [smB, smL_refl' ar ih]
  have e1 : Re.sF x x = true := by
    unfold Re.sF Re.sg
    rw [if_neg (Nat.lt_irrefl _), if_neg (Nat.lt_irrefl _)]
    rfl
  simp [e1]
end Go.Proofs.YtmmkboldkaehgaaGreatDoor.Ru
