/- THE TEXT WITH AN EXPONENT and several digits. Own work of the verifier. -/
import Derived.Test.YtmejmohambhaaaaGreatDoorL9
namespace Go.Proofs.YtmejmohambhaaaaGreatDoor
open Go.RowKit Go.Sort

/-- The digits behind the first. -/
def mid (u k : Nat) : List Int := ((dI u).take k).drop 1
theorem mid_length (u k : Nat) (h : k ≤ (dI u).length) : (mid u k).length = k - 1 := by unfold mid; rw [List.length_drop, List.length_take]; omega
theorem mid_at (u k : Nat) (h : k ≤ (dI u).length) : ∀ j (hj : j < (mid u k).length), (dI u)[1 + j]? = some (mid u k)[j] := by
  intro j hj
  have hl := mid_length u k h
  have h2 : (mid u k)[j] = (dI u)[1 + j]'(by omega) := by unfold mid; simp [Nat.add_comm]
  rw [h2]; exact List.getElem?_eq_getElem _
set_option maxHeartbeats 4000000 in
set_option maxRecDepth 100000 in
theorem fmtE_many (neg : Bool) (B g u E k P : Nat) (dp d0 : Int) (W0 w : World) (v : Value) (hbuf : Buf B (some (g, u)) W0 v [] w) (h0 : (dI u)[0]? = some d0) (hdp : dp - 1 = (E : Int) ∨ dp - 1 < 0 ∧ 1 - dp = (E : Int)) (hE : E ≤ 400) (hk : 2 ≤ k) (hk1 : k ≤ (dI u).length) (hk2 : k ≤ 20) (hP : P = k - 1) :
    Calls Tryz.prog 60 #[v, .bool neg, .slice (some ⟨g, 0, none⟩) 32 32, .int .i64 dp, .int .i64 (k : Int), .int .i64 (P : Int), .int .u8 101, .bool true] w fun r w' => ∃ v', r = .returned v' ∧ Buf B (some (g, u)) W0 v' ((if neg then [45, d0, 46] else [d0, 46]) ++ mid u k ++ eTail dp) w' := by
  obtain ⟨i0, hi, hz0, hz1, hz2⟩ := info_parts infoByte
  have ht : (dp - 1 = (E : Int) ∧ eTail dp = 101 :: 43 :: eDig E) ∨ (dp - 1 < 0 ∧ -(dp - 1) = (E : Int) ∧ eTail dp = 101 :: 45 :: eDig E) := by
    unfold eTail
    rcases hdp with h | ⟨h, k⟩
    · rw [if_neg (by omega), show (dp - 1).toNat = E from by omega]; exact Or.inl ⟨h, rfl⟩
    · rw [if_pos h, show (1 - dp).toNat = E from by omega]; exact Or.inr ⟨h, by omega, rfl⟩
  have hr : (E < 10 ∧ eDig E = [48, (E : Int) + 48]) ∨ (10 ≤ E ∧ E < 100 ∧ eDig E = [(E : Int) / 10 + 48, (E : Int) % 10 + 48]) ∨ (100 ≤ E ∧ eDig E = [(E : Int) / 100 + 48, (E : Int) / 10 % 10 + 48, (E : Int) % 10 + 48]) := by
    unfold eDig
    by_cases h1 : E < 10
    · exact Or.inl ⟨h1, if_pos h1⟩
    · rw [if_neg h1]
      by_cases h2 : E < 100
      · exact Or.inr (Or.inl ⟨by omega, h2, if_pos h2⟩)
      · exact Or.inr (Or.inr ⟨by omega, if_neg h2⟩)
  clear hdp
  have hmin : min (k : Int) ((P : Int) + 1) = (k : Int) := by omega
  have hP0 : decide (0 < P) = true := decide_eq_true (by omega)
  have hk3 : decide (1 < k) = true := decide_eq_true (by omega)
  have hk4 : ((k : Int) != 0) = true := by rw [bne_iff_ne]; omega
  have hk5 : ((k : Int) == 0) = false := by rw [beq_eq_false_iff_ne]; omega
  have hz : (P : Int) + 1 - (k : Int) = 0 := by omega
  have hml := mid_length u k hk1
  have HMID : Hid _ := mid_at u k hk1
  have HP : Hid _ := hP
  clear hP
  have hd := hbuf.at0 h0
  have H0 : Hid _ := h0
  clear h0
  obtain ⟨pre, HPRE⟩ : ∃ pre : List Int, Hid (pre = ((if neg then [45, d0, 46] else [d0, 46]) ++ mid u k : List Int)) := ⟨(if neg then [45, d0, 46] else [d0, 46]) ++ mid u k, rfl⟩
  have hpl : pre.length ≤ 22 := by rw [HPRE.out]; cases neg <;> simp [hml] <;> omega
  rw [← HPRE.out]
  cases neg
  all_goals
    rcases ht with ⟨hp, ht⟩ | ⟨hp0, hp, ht⟩
    all_goals
      rcases hr with ⟨r1, r2⟩ | ⟨r0, r1, r2⟩ | ⟨r0, r2⟩
      all_goals
        rw [ht, r2]
        clear ht r2
        go_enter Tryz.func60, Tryz.ntmps60
        go_wp2_with (first
          | (at_builtin; refine wpList_append_own _ rfl _ _ 58 rfl B 5 i0 (.int .u8 0) 1 1 Tryz.underlying58 hi hz0 hz1 hz2 rfl (by decide) _ _ _ rfl (hbuf.own.alloc _) ⟨_, 0, none⟩ 1 1 [_] rfl rfl (cell_one_new _ _ _) (by intro u hu; simp at hu; subst hu; rfl) (by have := hbuf.len; unfold maxLen; omega) (by have := hbuf.len; omega) (by have := hbuf.size; simp; omega) ?_; intro v w hown hgrow hnil; have hbuf := hbuf.push _ hown hgrow hnil (by simp); have hd := hbuf.at0 H0.out; clear hown hgrow hnil)
          | (at_builtin; refine wpList_append_own _ rfl _ _ 58 rfl B 5 i0 (.int .u8 0) 1 1 Tryz.underlying58 hi hz0 hz1 hz2 rfl (by decide) _ _ _ rfl hbuf.own ⟨g, 1, none⟩ (k - 1) 31 ((mid u k).map (Value.int .u8)) rfl (by rw [List.length_map, hml, Nat.mul_one]) (hbuf.mid 1 HMID.out) (ints_oneCell .u8 _) (by have := hbuf.len; unfold maxLen; omega) (by have := hbuf.len; omega) hbuf.size ?_; intro v w hown hgrow hnil; have hbuf := hbuf.grow (World.grownBy.refl _ _) (k - 1) hml hown hgrow hnil (by simp [hml]; omega); clear hown hgrow hnil)
          | fail)
        have hbuf : Buf B (some (g, u)) W0 v pre w := by rw [HPRE.out]; exact hbuf
        go_loopw [114, 0] (fun a v wr => a = .int .i64 0 ∧ Buf B (some (g, u)) W0 v pre wr) (fun _ _ _ => 0)
        case atStart => exact ⟨rfl, hbuf⟩
        case round =>
          obtain ⟨rfl, hbuf⟩ := hrel
          go_wp2_with (first
            | (at_builtin; refine wpList_append_own _ rfl _ _ 58 rfl B 5 i0 (.int .u8 0) 1 1 Tryz.underlying58 hi hz0 hz1 hz2 rfl (by decide) _ _ _ rfl (hbuf.own.alloc _) ⟨_, 0, none⟩ 1 1 [_] rfl rfl (cell_one_new _ _ _) (by intro u hu; simp at hu; subst hu; rfl) (by have := hbuf.len; unfold maxLen; omega) (by have := hbuf.len; omega) (by have := hbuf.size; simp; omega) ?_; intro v w hown hgrow hnil; have hbuf := hbuf.push _ hown hgrow hnil (by simp; omega); clear hown hgrow hnil)
            | (at_builtin; refine wpList_append_own _ rfl _ _ 58 rfl B 5 i0 (.int .u8 0) 1 1 Tryz.underlying58 hi hz0 hz1 hz2 rfl (by decide) _ _ _ rfl (hbuf.own.alloc _) ⟨_, 0, none⟩ 2 2 [_, _] rfl rfl (cell_two_new _ _ _ _) (by intro u hu; simp at hu; rcases hu with rfl | rfl <;> rfl) (by have := hbuf.len; unfold maxLen; omega) (by have := hbuf.len; omega) (by have := hbuf.size; simp; omega) ?_; intro v w hown hgrow hnil; have hbuf := hbuf.push2 _ hown hgrow hnil (by simp; omega); clear hown hgrow hnil)
            | (at_builtin; refine wpList_append_own _ rfl _ _ 58 rfl B 5 i0 (.int .u8 0) 1 1 Tryz.underlying58 hi hz0 hz1 hz2 rfl (by decide) _ _ _ rfl (hbuf.own.alloc _) ⟨_, 0, none⟩ 3 3 [_, _, _] rfl rfl (cell_three_new _ _ _ _ _) (by intro u hu; simp at hu; rcases hu with rfl | rfl | rfl <;> rfl) (by have := hbuf.len; unfold maxLen; omega) (by have := hbuf.len; omega) (by have := hbuf.size; simp; omega) ?_; intro v w hown hgrow hnil; have hbuf := hbuf.push3 _ hown hgrow hnil (by simp; omega); clear hown hgrow hnil)
            | fail)
          go_ret
          exact ⟨_, rfl, by simpa using hbuf⟩
end Go.Proofs.YtmejmohambhaaaaGreatDoor
