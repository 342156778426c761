/- THE TEXT WITHOUT AN EXPONENT, as the library writes it. Own work of the verifier. -/
import Derived.Test.YthgpdniflkojpaaGreatDoorL7
namespace Go.Proofs.YthgpdniflkojpaaGreatDoor
open Go.RowKit Go.Sort

theorem take_one (l : List Int) (j : Nat) (h : j < l.length) : l.take (j + 1) = l.take j ++ [l[j]] := List.take_succ_eq_append_getElem h
theorem rep_one (j : Nat) : List.replicate (j + 1) (48 : Int) = List.replicate j 48 ++ [48] := List.replicate_succ'
set_option maxHeartbeats 4000000 in
set_option maxRecDepth 100000 in
theorem fmtF_whole (neg : Bool) (B g u k D : Nat) (W0 w : World) (v : Value) (hbuf : Buf B (some (g, u)) W0 v [] w) (hk0 : 1 ≤ k) (hk : k ≤ (dI u).length) (hk2 : k ≤ 20) (hkD : k ≤ D) (hD : D ≤ 400) :
    Calls Tryz.prog 69 #[v, .bool neg, .slice (some ⟨g, 0, none⟩) 32 32, .int .i64 (D : Int), .int .i64 (k : Int), .int .i64 0, .int .u8 102, .bool true] w fun r w' => ∃ v', r = .returned v' ∧ Buf B (some (g, u)) W0 v' ((if neg then [45] else []) ++ (dI u).take k ++ List.replicate (D - k) 48) w' := by
  obtain ⟨i0, hi, hz0, hz1, hz2⟩ := info_parts infoByte
  have hmin : min (k : Int) (D : Int) = (k : Int) := by omega
  have hD0 : decide (0 < D) = true := decide_eq_true (by omega)
  obtain ⟨R, hR⟩ : ∃ R : Nat, D - k = R := ⟨_, rfl⟩
  have hRi : (D : Int) - (k : Int) = (R : Int) := by omega
  have hR2 : R ≤ 400 := by omega
  rw [hR]
  obtain ⟨pre, HPRE⟩ : ∃ pre : List Int, Hid (pre = if neg then [45] else []) := ⟨_, rfl⟩
  have hpl : pre.length ≤ 1 := by rw [HPRE.out]; cases neg <;> decide
  rw [← HPRE.out]
  cases neg
  all_goals
    go_enter Tryz.func69, Tryz.ntmps69
    go_wp2_with (first
      | (at_builtin; refine wpList_append_own _ rfl _ _ 68 rfl B 5 i0 (.int .u8 0) 1 1 Tryz.underlying68 hi hz0 hz1 hz2 rfl (by decide) _ _ _ rfl (hbuf.own.alloc _) ⟨_, 0, none⟩ 1 1 [_] rfl rfl (cell_one_new _ _ _) (by intro u hu; simp at hu; subst hu; rfl) (by have := hbuf.len; unfold maxLen; omega) (by have := hbuf.len; omega) (by have := hbuf.size; simp; omega) ?_; intro v w hown hgrow hnil; have hbuf := hbuf.push _ hown hgrow hnil (by simp); clear hown hgrow hnil)
      | fail)
    have hbuf : Buf B (some (g, u)) W0 v pre w := by rw [HPRE.out]; exact hbuf
    go_loopw [191, 0, 25] (fun a v _ wr => ∃ j : Nat, j ≤ k ∧ a = .int .i64 j ∧ Buf B (some (g, u)) W0 v (pre ++ (dI u).take j) wr) (fun a _ _ _ => k - (intOf a).toNat)
    case atStart => exact ⟨0, Nat.zero_le _, rfl, by simpa using hbuf⟩
    case round =>
      obtain ⟨j, hj, rfl, hbuf⟩ := hrel
      rcases Nat.lt_or_eq_of_le hj with hlt | heq
      · have hc := (hbuf.dig g u rfl).int j (by omega)
        have HX : Hid _ := take_one (dI u) j (by omega)
        generalize (dI u)[j] = x at *
        go_wp2_with (first
          | (at_builtin; refine wpList_append_own _ rfl _ _ 68 rfl B 5 i0 (.int .u8 0) 1 1 Tryz.underlying68 hi hz0 hz1 hz2 rfl (by decide) _ _ _ rfl (hbuf.own.alloc _) ⟨_, 0, none⟩ 1 1 [_] rfl rfl (cell_one_new _ _ _) (by intro u hu; simp at hu; subst hu; rfl) (by have := hbuf.len; unfold maxLen; omega) (by have := hbuf.len; omega) (by have := hbuf.size; simp; omega) ?_; intro v w hown hgrow hnil; have hbuf := hbuf.push _ hown hgrow hnil (by simp; omega); clear hown hgrow hnil)
          | fail)
        go_roundw
        case rel => exact ⟨j + 1, by omega, by go_num, by rw [HX.out, ← List.append_assoc]; exact hbuf⟩
        case measure => simp [intOf]; omega
      · subst heq
        have hlen : (pre ++ (dI u).take j).length ≤ 21 := by simp; omega
        obtain ⟨zs, hzs⟩ : ∃ zs, pre ++ (dI u).take j = zs := ⟨_, rfl⟩
        rw [hzs] at hbuf hlen
        have HZ : Hid _ := hzs
        clear hzs
        go_wp2_with fail
        go_loopw [203, 0] (fun a v wr => ∃ i : Nat, i ≤ R ∧ a = .int .i64 i ∧ Buf B (some (g, u)) W0 v (zs ++ List.replicate i 48) wr) (fun a _ _ => R - (intOf a).toNat)
        case atStart => exact ⟨0, Nat.zero_le _, rfl, by simpa using hbuf⟩
        case round =>
          obtain ⟨i, hir, rfl, hbuf⟩ := hrel
          rcases Nat.lt_or_eq_of_le hir with hlt2 | heq2
          · go_wp2_with (first
              | (at_builtin; refine wpList_append_own _ rfl _ _ 68 rfl B 5 i0 (.int .u8 0) 1 1 Tryz.underlying68 hi hz0 hz1 hz2 rfl (by decide) _ _ _ rfl (hbuf.own.alloc _) ⟨_, 0, none⟩ 1 1 [_] rfl rfl (cell_one_new _ _ _) (by intro u hu; simp at hu; subst hu; rfl) (by have := hbuf.len; unfold maxLen; omega) (by have := hbuf.len; omega) (by have := hbuf.size; simp; omega) ?_; intro v w hown hgrow hnil; have hbuf := hbuf.push _ hown hgrow hnil (by simp; omega); clear hown hgrow hnil)
              | fail)
            go_roundw
            case rel => exact ⟨i + 1, by omega, by go_num, by rw [rep_one, ← List.append_assoc]; exact hbuf⟩
            case measure => simp [intOf]; omega
          · subst heq2
            go_wp2_with fail
            go_ret
            exact ⟨_, rfl, by rw [HZ.out]; exact hbuf⟩
end Go.Proofs.YthgpdniflkojpaaGreatDoor
/- THE TEXT OF A FLOAT BELOW 1, as the library writes it. Own work of the verifier. -/
namespace Go.Proofs.YthgpdniflkojpaaGreatDoor
open Go.RowKit Go.Sort

set_option maxHeartbeats 4000000 in
set_option maxRecDepth 100000 in
theorem fmtF_below (neg : Bool) (B g u k Z P : Nat) (dp : Int) (W0 w : World) (v : Value) (hbuf : Buf B (some (g, u)) W0 v [] w) (hk0 : 1 ≤ k) (hk : k ≤ (dI u).length) (hk2 : k ≤ 20) (hZ : Z ≤ 400) (hdp : -dp = (Z : Int)) (hP : P = k + Z) :
    Calls Tryz.prog 69 #[v, .bool neg, .slice (some ⟨g, 0, none⟩) 32 32, .int .i64 dp, .int .i64 (k : Int), .int .i64 (P : Int), .int .u8 102, .bool true] w fun r w' => ∃ v', r = .returned v' ∧ Buf B (some (g, u)) W0 v' ((if neg then [45] else []) ++ [48, 46] ++ List.replicate Z 48 ++ (dI u).take k) w' := by
  obtain ⟨i0, hi, hz0, hz1, hz2⟩ := info_parts infoByte
  have hdp1 : decide (0 < dp) = false := decide_eq_false (by omega)
  have hP0 : decide (0 < P) = true := decide_eq_true (by omega)
  have hmax1 : max (0 : Int) (Z : Int) = (Z : Int) := by omega
  have hmin1 : min (P : Int) (Z : Int) = (Z : Int) := by omega
  have hoff : dp + (Z : Int) = 0 := by omega
  have hmax2 : max (0 : Int) (k : Int) = (k : Int) := by omega
  have hsub : (P : Int) - (Z : Int) = (k : Int) := by omega
  have hb0 : -400 ≤ dp := by omega
  have hb1 : dp ≤ 0 := by omega
  have hPb : P ≤ 420 := by omega
  have HDP : Hid _ := hP
  clear hP
  obtain ⟨pre, HPRE⟩ : ∃ pre : List Int, Hid (pre = ((if neg then [45] else []) ++ [48, 46] : List Int)) := ⟨(if neg then [45] else []) ++ [48, 46], rfl⟩
  have hpl : pre.length ≤ 3 := by rw [HPRE.out]; cases neg <;> decide
  rw [← HPRE.out]
  cases neg
  all_goals
    go_enter Tryz.func69, Tryz.ntmps69
    go_wp2_with (first
      | (at_builtin; refine wpList_append_own _ rfl _ _ 68 rfl B 5 i0 (.int .u8 0) 1 1 Tryz.underlying68 hi hz0 hz1 hz2 rfl (by decide) _ _ _ rfl (hbuf.own.alloc _) ⟨_, 0, none⟩ 1 1 [_] rfl rfl (cell_one_new _ _ _) (by intro u hu; simp at hu; subst hu; rfl) (by have := hbuf.len; unfold maxLen; omega) (by have := hbuf.len; omega) (by have := hbuf.size; simp; omega) ?_; intro v w hown hgrow hnil; have hbuf := hbuf.push _ hown hgrow hnil (by simp); clear hown hgrow hnil)
      | fail)
    have hbuf : Buf B (some (g, u)) W0 v pre w := by rw [HPRE.out]; exact hbuf
    go_loopw [240, 0] (fun a v wr => ∃ i : Nat, i ≤ Z ∧ a = .int .i64 i ∧ Buf B (some (g, u)) W0 v (pre ++ List.replicate i 48) wr) (fun a _ _ => Z - (intOf a).toNat)
    case atStart => exact ⟨0, Nat.zero_le _, rfl, by simpa using hbuf⟩
    case round =>
      obtain ⟨i, hir, rfl, hbuf⟩ := hrel
      rcases Nat.lt_or_eq_of_le hir with hlt2 | heq2
      · go_wp2_with (first
          | (at_builtin; refine wpList_append_own _ rfl _ _ 68 rfl B 5 i0 (.int .u8 0) 1 1 Tryz.underlying68 hi hz0 hz1 hz2 rfl (by decide) _ _ _ rfl (hbuf.own.alloc _) ⟨_, 0, none⟩ 1 1 [_] rfl rfl (cell_one_new _ _ _) (by intro u hu; simp at hu; subst hu; rfl) (by have := hbuf.len; unfold maxLen; omega) (by have := hbuf.len; omega) (by have := hbuf.size; simp; omega) ?_; intro v w hown hgrow hnil; have hbuf := hbuf.push _ hown hgrow hnil (by simp; omega); clear hown hgrow hnil)
          | fail)
        go_roundw
        case rel => exact ⟨i + 1, by omega, by go_num, by rw [rep_one, ← List.append_assoc]; exact hbuf⟩
        case measure => simp [intOf]; omega
      · subst heq2
        have hlen : (pre ++ List.replicate i (48 : Int)).length ≤ 403 := by simp; omega
        obtain ⟨zs, hzs⟩ : ∃ zs, pre ++ List.replicate i (48 : Int) = zs := ⟨_, rfl⟩
        rw [hzs] at hbuf hlen
        have HZ : Hid _ := hzs
        clear hzs
        go_wp2_with fail
        go_loopw [247, 0, 30] (fun a v _ wr => ∃ j : Nat, j ≤ k ∧ a = .int .i64 j ∧ Buf B (some (g, u)) W0 v (zs ++ (dI u).take j) wr) (fun a _ _ _ => k - (intOf a).toNat)
        case atStart => exact ⟨0, Nat.zero_le _, rfl, by simpa using hbuf⟩
        case round =>
          obtain ⟨j, hj, rfl, hbuf⟩ := hrel
          rcases Nat.lt_or_eq_of_le hj with hlt3 | heq3
          · have hc := (hbuf.dig g u rfl).int j (by omega)
            have HX : Hid _ := take_one (dI u) j (by omega)
            generalize (dI u)[j] = x at *
            go_wp2_with (first
              | (at_builtin; refine wpList_append_own _ rfl _ _ 68 rfl B 5 i0 (.int .u8 0) 1 1 Tryz.underlying68 hi hz0 hz1 hz2 rfl (by decide) _ _ _ rfl (hbuf.own.alloc _) ⟨_, 0, none⟩ 1 1 [_] rfl rfl (cell_one_new _ _ _) (by intro u hu; simp at hu; subst hu; rfl) (by have := hbuf.len; unfold maxLen; omega) (by have := hbuf.len; omega) (by have := hbuf.size; simp; omega) ?_; intro v w hown hgrow hnil; have hbuf := hbuf.push _ hown hgrow hnil (by simp; omega); clear hown hgrow hnil)
              | fail)
            go_roundw
            case rel => exact ⟨j + 1, by omega, by go_num, by rw [HX.out, ← List.append_assoc]; exact hbuf⟩
            case measure => simp [intOf]; omega
          · subst heq3
            go_wp2_with fail
            go_loopw [261, 0] (fun a v wr => a = .int .i64 0 ∧ Buf B (some (g, u)) W0 v (zs ++ (dI u).take j) wr) (fun _ _ _ => 0)
            case atStart => exact ⟨rfl, hbuf⟩
            case round =>
              obtain ⟨rfl, hbuf⟩ := hrel
              go_wp2_with fail
              go_ret
              exact ⟨_, rfl, by rw [HZ.out]; exact hbuf⟩
end Go.Proofs.YthgpdniflkojpaaGreatDoor
/- THE TEXT WITH AN EXPONENT and several digits. Own work of the verifier. -/
namespace Go.Proofs.YthgpdniflkojpaaGreatDoor
open Go.RowKit Go.Sort

/-- The digits behind the first. -/
def mid (u k : Nat) : List Int := ((dI u).take k).drop 1
theorem mid_length (u k : Nat) (h : k ≤ (dI u).length) : (mid u k).length = k - 1 := by unfold mid; rw [List.length_drop, List.length_take]; omega
theorem mid_at (u k : Nat) (h : k ≤ (dI u).length) : ∀ j (hj : j < (mid u k).length), (dI u)[1 + j]? = some (mid u k)[j] := by
  intro j hj
  have hl := mid_length u k h
  have h2 : (mid u k)[j] = (dI u)[1 + j]'(by omega) := by unfold mid; simp [Nat.add_comm]
  rw [h2]; exact List.getElem?_eq_getElem _
set_option maxHeartbeats 4000000 in
set_option maxRecDepth 100000 in
theorem fmtE_many (neg : Bool) (B g u E k P : Nat) (dp d0 : Int) (W0 w : World) (v : Value) (hbuf : Buf B (some (g, u)) W0 v [] w) (h0 : (dI u)[0]? = some d0) (hdp : dp - 1 = (E : Int) ∨ dp - 1 < 0 ∧ 1 - dp = (E : Int)) (hE : E ≤ 400) (hk : 2 ≤ k) (hk1 : k ≤ (dI u).length) (hk2 : k ≤ 20) (hP : P = k - 1) :
    Calls Tryz.prog 69 #[v, .bool neg, .slice (some ⟨g, 0, none⟩) 32 32, .int .i64 dp, .int .i64 (k : Int), .int .i64 (P : Int), .int .u8 101, .bool true] w fun r w' => ∃ v', r = .returned v' ∧ Buf B (some (g, u)) W0 v' ((if neg then [45, d0, 46] else [d0, 46]) ++ mid u k ++ eTail dp) w' := by
  obtain ⟨i0, hi, hz0, hz1, hz2⟩ := info_parts infoByte
  have ht : (dp - 1 = (E : Int) ∧ eTail dp = 101 :: 43 :: eDig E) ∨ (dp - 1 < 0 ∧ -(dp - 1) = (E : Int) ∧ eTail dp = 101 :: 45 :: eDig E) := by
    unfold eTail
    rcases hdp with h | ⟨h, k⟩
    · rw [if_neg (by omega), show (dp - 1).toNat = E from by omega]; exact Or.inl ⟨h, rfl⟩
    · rw [if_pos h, show (1 - dp).toNat = E from by omega]; exact Or.inr ⟨h, by omega, rfl⟩
  have hr : (E < 10 ∧ eDig E = [48, (E : Int) + 48]) ∨ (10 ≤ E ∧ E < 100 ∧ eDig E = [(E : Int) / 10 + 48, (E : Int) % 10 + 48]) ∨ (100 ≤ E ∧ eDig E = [(E : Int) / 100 + 48, (E : Int) / 10 % 10 + 48, (E : Int) % 10 + 48]) := by
    unfold eDig
    by_cases h1 : E < 10
    · exact Or.inl ⟨h1, if_pos h1⟩
    · rw [if_neg h1]
      by_cases h2 : E < 100
      · exact Or.inr (Or.inl ⟨by omega, h2, if_pos h2⟩)
      · exact Or.inr (Or.inr ⟨by omega, if_neg h2⟩)
  clear hdp
  have hmin : min (k : Int) ((P : Int) + 1) = (k : Int) := by omega
  have hP0 : decide (0 < P) = true := decide_eq_true (by omega)
  have hk3 : decide (1 < k) = true := decide_eq_true (by omega)
  have hk4 : ((k : Int) != 0) = true := by rw [bne_iff_ne]; omega
  have hk5 : ((k : Int) == 0) = false := by rw [beq_eq_false_iff_ne]; omega
  have hz : (P : Int) + 1 - (k : Int) = 0 := by omega
  have hml := mid_length u k hk1
  have HMID : Hid _ := mid_at u k hk1
  have HP : Hid _ := hP
  clear hP
  have hd := hbuf.at0 h0
  have H0 : Hid _ := h0
  clear h0
  obtain ⟨pre, HPRE⟩ : ∃ pre : List Int, Hid (pre = ((if neg then [45, d0, 46] else [d0, 46]) ++ mid u k : List Int)) := ⟨(if neg then [45, d0, 46] else [d0, 46]) ++ mid u k, rfl⟩
  have hpl : pre.length ≤ 22 := by rw [HPRE.out]; cases neg <;> simp [hml] <;> omega
  rw [← HPRE.out]
  cases neg
  all_goals
    rcases ht with ⟨hp, ht⟩ | ⟨hp0, hp, ht⟩
    all_goals
      rcases hr with ⟨r1, r2⟩ | ⟨r0, r1, r2⟩ | ⟨r0, r2⟩
      all_goals
        rw [ht, r2]
        clear ht r2
        go_enter Tryz.func69, Tryz.ntmps69
        go_wp2_with (first
          | (at_builtin; refine wpList_append_own _ rfl _ _ 68 rfl B 5 i0 (.int .u8 0) 1 1 Tryz.underlying68 hi hz0 hz1 hz2 rfl (by decide) _ _ _ rfl (hbuf.own.alloc _) ⟨_, 0, none⟩ 1 1 [_] rfl rfl (cell_one_new _ _ _) (by intro u hu; simp at hu; subst hu; rfl) (by have := hbuf.len; unfold maxLen; omega) (by have := hbuf.len; omega) (by have := hbuf.size; simp; omega) ?_; intro v w hown hgrow hnil; have hbuf := hbuf.push _ hown hgrow hnil (by simp); have hd := hbuf.at0 H0.out; clear hown hgrow hnil)
          | (at_builtin; refine wpList_append_own _ rfl _ _ 68 rfl B 5 i0 (.int .u8 0) 1 1 Tryz.underlying68 hi hz0 hz1 hz2 rfl (by decide) _ _ _ rfl hbuf.own ⟨g, 1, none⟩ (k - 1) 31 ((mid u k).map (Value.int .u8)) rfl (by rw [List.length_map, hml, Nat.mul_one]) (hbuf.mid 1 HMID.out) (ints_oneCell .u8 _) (by have := hbuf.len; unfold maxLen; omega) (by have := hbuf.len; omega) hbuf.size ?_; intro v w hown hgrow hnil; have hbuf := hbuf.grow (World.grownBy.refl _ _) (k - 1) hml hown hgrow hnil (by simp [hml]; omega); clear hown hgrow hnil)
          | fail)
        have hbuf : Buf B (some (g, u)) W0 v pre w := by rw [HPRE.out]; exact hbuf
        go_loopw [114, 0] (fun a v wr => a = .int .i64 0 ∧ Buf B (some (g, u)) W0 v pre wr) (fun _ _ _ => 0)
        case atStart => exact ⟨rfl, hbuf⟩
        case round =>
          obtain ⟨rfl, hbuf⟩ := hrel
          go_wp2_with (first
            | (at_builtin; refine wpList_append_own _ rfl _ _ 68 rfl B 5 i0 (.int .u8 0) 1 1 Tryz.underlying68 hi hz0 hz1 hz2 rfl (by decide) _ _ _ rfl (hbuf.own.alloc _) ⟨_, 0, none⟩ 1 1 [_] rfl rfl (cell_one_new _ _ _) (by intro u hu; simp at hu; subst hu; rfl) (by have := hbuf.len; unfold maxLen; omega) (by have := hbuf.len; omega) (by have := hbuf.size; simp; omega) ?_; intro v w hown hgrow hnil; have hbuf := hbuf.push _ hown hgrow hnil (by simp; omega); clear hown hgrow hnil)
            | (at_builtin; refine wpList_append_own _ rfl _ _ 68 rfl B 5 i0 (.int .u8 0) 1 1 Tryz.underlying68 hi hz0 hz1 hz2 rfl (by decide) _ _ _ rfl (hbuf.own.alloc _) ⟨_, 0, none⟩ 2 2 [_, _] rfl rfl (cell_two_new _ _ _ _) (by intro u hu; simp at hu; rcases hu with rfl | rfl <;> rfl) (by have := hbuf.len; unfold maxLen; omega) (by have := hbuf.len; omega) (by have := hbuf.size; simp; omega) ?_; intro v w hown hgrow hnil; have hbuf := hbuf.push2 _ hown hgrow hnil (by simp; omega); clear hown hgrow hnil)
            | (at_builtin; refine wpList_append_own _ rfl _ _ 68 rfl B 5 i0 (.int .u8 0) 1 1 Tryz.underlying68 hi hz0 hz1 hz2 rfl (by decide) _ _ _ rfl (hbuf.own.alloc _) ⟨_, 0, none⟩ 3 3 [_, _, _] rfl rfl (cell_three_new _ _ _ _ _) (by intro u hu; simp at hu; rcases hu with rfl | rfl | rfl <;> rfl) (by have := hbuf.len; unfold maxLen; omega) (by have := hbuf.len; omega) (by have := hbuf.size; simp; omega) ?_; intro v w hown hgrow hnil; have hbuf := hbuf.push3 _ hown hgrow hnil (by simp; omega); clear hown hgrow hnil)
            | fail)
          go_ret
          exact ⟨_, rfl, by simpa using hbuf⟩
end Go.Proofs.YthgpdniflkojpaaGreatDoor
