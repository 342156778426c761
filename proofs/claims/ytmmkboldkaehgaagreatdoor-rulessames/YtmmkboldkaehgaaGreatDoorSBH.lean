/- real.Parse AT ONE DIGIT (printed by gen_vi.py). Own work of the verifier. -/
import Derived.Test.YtmmkboldkaehgaaGreatDoorSAP
import Derived.WalkMore
namespace Go.Proofs.YtmmkboldkaehgaaGreatDoor.Rl
open Go.RowKit Go.Sort

set_option maxHeartbeats 1000000 in
theorem dspecial_1 (w : World) : Calls Tryz.prog 184 #[.string ⟨#[49]⟩] w fun e w' => e = .returned (.tuple #[.float .f64 0, .int .i64 0, .bool false]) ∧ w' = w := by
  go_enter Tryz.func184, Tryz.ntmps184
  go_wp2
  go_ret3
  exact ⟨rfl, rfl⟩
set_option maxHeartbeats 4000000 in
set_option maxRecDepth 100000 in
theorem dread_1 (w : World) : Calls Tryz.prog 185 #[.string ⟨#[49]⟩] w fun e w' => e = .returned (.tuple #[.int .u64 1, .int .i64 0, .bool false, .bool false, .bool false, .int .i64 1, .bool true]) ∧ Below w.heap.size w w' := by
  go_enter Tryz.func185, Tryz.ntmps185
  go_wp2_with fail
  go_step3
  go_wp2_with fail
  go_step3
  go_wp2_with fail
  go_rounds 2
  go_wp2_with fail
  rw [Exit.noGoto_ret]
  show bodyPost _ _ _ _ _ _
  simp [bodyPost, results, Tryz.results185, go_sem]
  exact ⟨by decide, Below.refl _ _⟩
set_option maxHeartbeats 1000000 in
theorem dspecial_2 (w : World) : Calls Tryz.prog 184 #[.string ⟨#[50]⟩] w fun e w' => e = .returned (.tuple #[.float .f64 0, .int .i64 0, .bool false]) ∧ w' = w := by
  go_enter Tryz.func184, Tryz.ntmps184
  go_wp2
  go_ret3
  exact ⟨rfl, rfl⟩
set_option maxHeartbeats 4000000 in
set_option maxRecDepth 100000 in
theorem dread_2 (w : World) : Calls Tryz.prog 185 #[.string ⟨#[50]⟩] w fun e w' => e = .returned (.tuple #[.int .u64 2, .int .i64 0, .bool false, .bool false, .bool false, .int .i64 1, .bool true]) ∧ Below w.heap.size w w' := by
  go_enter Tryz.func185, Tryz.ntmps185
  go_wp2_with fail
  go_step3
  go_wp2_with fail
  go_step3
  go_wp2_with fail
  go_rounds 2
  go_wp2_with fail
  rw [Exit.noGoto_ret]
  show bodyPost _ _ _ _ _ _
  simp [bodyPost, results, Tryz.results185, go_sem]
  exact ⟨by decide, Below.refl _ _⟩
set_option maxHeartbeats 1000000 in
theorem dspecial_5 (w : World) : Calls Tryz.prog 184 #[.string ⟨#[53]⟩] w fun e w' => e = .returned (.tuple #[.float .f64 0, .int .i64 0, .bool false]) ∧ w' = w := by
  go_enter Tryz.func184, Tryz.ntmps184
  go_wp2
  go_ret3
  exact ⟨rfl, rfl⟩
set_option maxHeartbeats 4000000 in
set_option maxRecDepth 100000 in
theorem dread_5 (w : World) : Calls Tryz.prog 185 #[.string ⟨#[53]⟩] w fun e w' => e = .returned (.tuple #[.int .u64 5, .int .i64 0, .bool false, .bool false, .bool false, .int .i64 1, .bool true]) ∧ Below w.heap.size w w' := by
  go_enter Tryz.func185, Tryz.ntmps185
  go_wp2_with fail
  go_step3
  go_wp2_with fail
  go_step3
  go_wp2_with fail
  go_rounds 2
  go_wp2_with fail
  rw [Exit.noGoto_ret]
  show bodyPost _ _ _ _ _ _
  simp [bodyPost, results, Tryz.results185, go_sem]
  exact ⟨by decide, Below.refl _ _⟩
set_option maxHeartbeats 1000000 in
set_option maxRecDepth 100000 in
theorem dexact (n x : Nat) (hn : n < 100) (hx : floatOfInt .f64 (n : Int) = x) (w : World) (hGl : Glob w) : Calls Tryz.prog 194 #[.int .u64 (n : Int), .int .i64 0, .bool false] w fun e w' => e = .returned (.tuple #[.float .f64 x, .bool true]) ∧ Below w.heap.size w w' := by
  have h52 := hGl.m52
  clear hGl
  go_enter Tryz.func194, Tryz.ntmps194
  go_wp2
  go_ret2
  exact ⟨rfl, Below.refl _ _⟩
set_option maxHeartbeats 4000000 in
set_option maxRecDepth 100000 in
theorem datof (s : ByteArray) (n x : Nat) (hn0 : 0 < n) (hn : n < 100) (_hs1 : s.size = 1) (hx : floatOfInt .f64 (n : Int) = x)
    (HS : Hid (∀ W, Calls Tryz.prog 184 #[.string s] W fun e w' => e = .returned (.tuple #[.float .f64 0, .int .i64 0, .bool false]) ∧ w' = W))
    (HR : Hid (∀ W, Calls Tryz.prog 185 #[.string s] W fun e w' => e = .returned (.tuple #[.int .u64 (n : Int), .int .i64 0, .bool false, .bool false, .bool false, .int .i64 1, .bool true]) ∧ Below W.heap.size W w')) (w : World) (hGl : Glob w) :
    Calls Tryz.prog 173 #[.string s] w fun e w' => e = .returned (.tuple #[.float .f64 x, .int .i64 1, .nilIface]) ∧ Below w.heap.size w w' := by
  have hn1 : ((n : Int) == 0) = false := by rw [beq_eq_false_iff_ne]; omega
  have HX : Hid _ := dexact n x hn hx
  clear hx
  go_enter Tryz.func173, Tryz.ntmps173
  go_wp2_with (first
    | (go_at_call 184; refine (HS.out _).mono ?_; rintro e w ⟨rfl, rfl⟩)
    | fail)
  refine (HR.out _).mono ?_
  rintro e w1 ⟨rfl, hb1⟩
  have hG1 := hGl.below hb1
  have ho := hG1.opt
  go_wp2_with (first
    | (go_at_call 178; with_reducible refine (bool2_u64 _ _).mono ?_; rintro e w1 ⟨rfl, rfl⟩)
    | fail)
  refine (HX.out w1 hG1).mono ?_
  rintro e w2 ⟨rfl, hb2⟩
  go_wp2
  go_ret3
  exact ⟨rfl, hb1.trans (hb2.mono hb1.size)⟩
set_option maxHeartbeats 1000000 in
theorem dprefix (s : ByteArray) (q : Nat) (w : World) (HA : Hid (Calls Tryz.prog 173 #[.string s] w fun e w' => e = .returned (.tuple #[.float .f64 q, .int .i64 1, .nilIface]) ∧ Below w.heap.size w w')) :
    Calls Tryz.prog 135 #[.string s, .int .i64 64] w fun e w' => e = .returned (.tuple #[.float .f64 q, .int .i64 1, .nilIface]) ∧ Below w.heap.size w w' := by
  go_enter Tryz.func135, Tryz.ntmps135
  go_wp2_with fail
  refine HA.out.mono ?_
  rintro e w1 ⟨rfl, hb1⟩
  go_wp2
  go_ret3
  exact ⟨rfl, hb1⟩
set_option maxHeartbeats 1000000 in
theorem dparse (s : ByteArray) (q : Nat) (hs1 : s.size = 1) (w : World) (HA : Hid (Calls Tryz.prog 173 #[.string s] w fun e w' => e = .returned (.tuple #[.float .f64 q, .int .i64 1, .nilIface]) ∧ Below w.heap.size w w')) :
    Calls Tryz.prog 101 #[.string s, .int .i64 64] w fun e w' => e = .returned (.tuple #[.float .f64 q, .nilIface]) ∧ Below w.heap.size w w' := by
  go_enter Tryz.func101, Tryz.ntmps101
  go_wp2_with fail
  refine (dprefix s q w HA).mono ?_
  rintro e w1 ⟨rfl, hb1⟩
  go_wp2
  go_ret2
  exact ⟨rfl, hb1⟩
set_option maxHeartbeats 1000000 in
theorem dParse (s : ByteArray) (q : Nat) (hs1 : s.size = 1) (w : World) (HA : Hid (Calls Tryz.prog 173 #[.string s] w fun e w' => e = .returned (.tuple #[.float .f64 q, .int .i64 1, .nilIface]) ∧ Below w.heap.size w w')) :
    Calls Tryz.prog 82 #[.string s, .int .i64 64] w fun e w' => e = .returned (.tuple #[.float .f64 q, .nilIface]) ∧ Below w.heap.size w w' := by
  go_enter Tryz.func82, Tryz.ntmps82
  go_wp2_with fail
  refine (dparse s q hs1 w HA).mono ?_
  rintro e w1 ⟨rfl, hb1⟩
  go_wp2
  go_ret2
  exact ⟨rfl, hb1⟩
theorem dtrim {u k : Nat} {L : List UInt8} (hL : Lib.decDigits u = L) (h1 : k ≤ L.length) (h2 : ∀ j (h : j < L.length), k ≤ j → L[j] = 48) (h3 : k = 0 ∨ ∃ h : k - 1 < L.length, L[k - 1] ≠ 48) : Trim u k := by
  subst hL
  exact ⟨by rw [← Lib.decDigits_length]; exact h1, h2, h3⟩
theorem dsd_1 : sd 4607182418800017408 = (1000000000000000, -15) := by kernel_rfl
theorem ddd_1 : Lib.decDigits 1000000000000000 = [49, 48, 48, 48, 48, 48, 48, 48, 48, 48, 48, 48, 48, 48, 48, 48] := by kernel_rfl
theorem dtr_1 : trimLen 1000000000000000 = 1 := (trim_len (dtrim ddd_1 (by decide) (by decide) (Or.inr ⟨by decide, by decide⟩))).symm
theorem dtext_1 : pText 4607182418800017408 = [49] := by
  have hn : Lib.nDigits 1000000000000000 = 16 := by rw [← Lib.decDigits_length, ddd_1]; rfl
  unfold pText
  rw [if_neg (by decide +kernel)]
  unfold fText
  rw [if_neg (by decide), if_neg (by decide), if_neg (by decide)]
  unfold pt
  rw [dsd_1]
  dsimp only
  rw [dtr_1, hn]
  unfold fB
  rw [if_neg (by decide), if_pos (by decide), ddd_1]
  decide
set_option maxHeartbeats 1000000 in
theorem dreal_1 (w : World) (hG : Glob2 w) : Calls Tryz.prog 63 #[.string ⟨#[49]⟩] w fun e w' => e = .returned (.tuple #[.float .f64 4607182418800017408, .int .i64 0]) ∧ Below w.heap.size w w' := by
  have HA : Hid _ := dParse ⟨#[49]⟩ 4607182418800017408 (by decide) w (datof ⟨#[49]⟩ 1 4607182418800017408 (by decide) (by decide) (by decide) (by decide +kernel) dspecial_1 dread_1 w hG.glob)
  have HP : Hid (∀ W, Below w.heap.size w W → Calls Tryz.prog 34 #[.float .f64 4607182418800017408] W fun e w' => e = .returned (.string ⟨#[49]⟩) ∧ Below W.heap.size W w') := fun W hb => by
    have := print_all 4607182418800017408 (by decide) W (hG.below hb)
    rw [dtext_1] at this
    exact this
  go_enter Tryz.func63, Tryz.ntmps63
  go_wp2_with fail
  refine Calls.mono HA.out ?_
  rintro e w1 ⟨rfl, hb1⟩
  have HB1 : Hid (Below w.heap.size w w1) := hb1
  go_wp2_with fail
  refine Calls.mono (HP.out w1 HB1.out) ?_
  rintro e w2 ⟨rfl, hb2⟩
  go_wp2
  go_ret2
  exact ⟨rfl, HB1.out.trans (hb2.mono HB1.out.size)⟩
theorem dsd_2 : sd 4611686018427387904 = (2000000000000000, -15) := by kernel_rfl
theorem ddd_2 : Lib.decDigits 2000000000000000 = [50, 48, 48, 48, 48, 48, 48, 48, 48, 48, 48, 48, 48, 48, 48, 48] := by kernel_rfl
theorem dtr_2 : trimLen 2000000000000000 = 1 := (trim_len (dtrim ddd_2 (by decide) (by decide) (Or.inr ⟨by decide, by decide⟩))).symm
theorem dtext_2 : pText 4611686018427387904 = [50] := by
  have hn : Lib.nDigits 2000000000000000 = 16 := by rw [← Lib.decDigits_length, ddd_2]; rfl
  unfold pText
  rw [if_neg (by decide +kernel)]
  unfold fText
  rw [if_neg (by decide), if_neg (by decide), if_neg (by decide)]
  unfold pt
  rw [dsd_2]
  dsimp only
  rw [dtr_2, hn]
  unfold fB
  rw [if_neg (by decide), if_pos (by decide), ddd_2]
  decide
set_option maxHeartbeats 1000000 in
theorem dreal_2 (w : World) (hG : Glob2 w) : Calls Tryz.prog 63 #[.string ⟨#[50]⟩] w fun e w' => e = .returned (.tuple #[.float .f64 4611686018427387904, .int .i64 0]) ∧ Below w.heap.size w w' := by
  have HA : Hid _ := dParse ⟨#[50]⟩ 4611686018427387904 (by decide) w (datof ⟨#[50]⟩ 2 4611686018427387904 (by decide) (by decide) (by decide) (by decide +kernel) dspecial_2 dread_2 w hG.glob)
  have HP : Hid (∀ W, Below w.heap.size w W → Calls Tryz.prog 34 #[.float .f64 4611686018427387904] W fun e w' => e = .returned (.string ⟨#[50]⟩) ∧ Below W.heap.size W w') := fun W hb => by
    have := print_all 4611686018427387904 (by decide) W (hG.below hb)
    rw [dtext_2] at this
    exact this
  go_enter Tryz.func63, Tryz.ntmps63
  go_wp2_with fail
  refine Calls.mono HA.out ?_
  rintro e w1 ⟨rfl, hb1⟩
  have HB1 : Hid (Below w.heap.size w w1) := hb1
  go_wp2_with fail
  refine Calls.mono (HP.out w1 HB1.out) ?_
  rintro e w2 ⟨rfl, hb2⟩
  go_wp2
  go_ret2
  exact ⟨rfl, HB1.out.trans (hb2.mono HB1.out.size)⟩
theorem dsd_5 : sd 4617315517961601024 = (5000000000000000, -15) := by kernel_rfl
theorem ddd_5 : Lib.decDigits 5000000000000000 = [53, 48, 48, 48, 48, 48, 48, 48, 48, 48, 48, 48, 48, 48, 48, 48] := by kernel_rfl
theorem dtr_5 : trimLen 5000000000000000 = 1 := (trim_len (dtrim ddd_5 (by decide) (by decide) (Or.inr ⟨by decide, by decide⟩))).symm
theorem dtext_5 : pText 4617315517961601024 = [53] := by
  have hn : Lib.nDigits 5000000000000000 = 16 := by rw [← Lib.decDigits_length, ddd_5]; rfl
  unfold pText
  rw [if_neg (by decide +kernel)]
  unfold fText
  rw [if_neg (by decide), if_neg (by decide), if_neg (by decide)]
  unfold pt
  rw [dsd_5]
  dsimp only
  rw [dtr_5, hn]
  unfold fB
  rw [if_neg (by decide), if_pos (by decide), ddd_5]
  decide
set_option maxHeartbeats 1000000 in
theorem dreal_5 (w : World) (hG : Glob2 w) : Calls Tryz.prog 63 #[.string ⟨#[53]⟩] w fun e w' => e = .returned (.tuple #[.float .f64 4617315517961601024, .int .i64 0]) ∧ Below w.heap.size w w' := by
  have HA : Hid _ := dParse ⟨#[53]⟩ 4617315517961601024 (by decide) w (datof ⟨#[53]⟩ 5 4617315517961601024 (by decide) (by decide) (by decide) (by decide +kernel) dspecial_5 dread_5 w hG.glob)
  have HP : Hid (∀ W, Below w.heap.size w W → Calls Tryz.prog 34 #[.float .f64 4617315517961601024] W fun e w' => e = .returned (.string ⟨#[53]⟩) ∧ Below W.heap.size W w') := fun W hb => by
    have := print_all 4617315517961601024 (by decide) W (hG.below hb)
    rw [dtext_5] at this
    exact this
  go_enter Tryz.func63, Tryz.ntmps63
  go_wp2_with fail
  refine Calls.mono HA.out ?_
  rintro e w1 ⟨rfl, hb1⟩
  have HB1 : Hid (Below w.heap.size w w1) := hb1
  go_wp2_with fail
  refine Calls.mono (HP.out w1 HB1.out) ?_
  rintro e w2 ⟨rfl, hb2⟩
  go_wp2
  go_ret2
  exact ⟨rfl, HB1.out.trans (hb2.mono HB1.out.size)⟩
end Go.Proofs.YtmmkboldkaehgaaGreatDoor.Rl
