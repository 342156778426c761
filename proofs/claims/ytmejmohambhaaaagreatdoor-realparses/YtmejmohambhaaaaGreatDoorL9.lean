/- THE TEXT OF A FLOAT BELOW 1, as the library writes it. Own work of the verifier. -/
import Derived.Test.YtmejmohambhaaaaGreatDoorL8
namespace Go.Proofs.YtmejmohambhaaaaGreatDoor
open Go.RowKit Go.Sort

set_option maxHeartbeats 4000000 in
set_option maxRecDepth 100000 in
theorem fmtF_below (neg : Bool) (B g u k Z P : Nat) (dp : Int) (W0 w : World) (v : Value) (hbuf : Buf B (some (g, u)) W0 v [] w) (hk0 : 1 ≤ k) (hk : k ≤ (dI u).length) (hk2 : k ≤ 20) (hZ : Z ≤ 400) (hdp : -dp = (Z : Int)) (hP : P = k + Z) :
    Calls Tryz.prog 60 #[v, .bool neg, .slice (some ⟨g, 0, none⟩) 32 32, .int .i64 dp, .int .i64 (k : Int), .int .i64 (P : Int), .int .u8 102, .bool true] w fun r w' => ∃ v', r = .returned v' ∧ Buf B (some (g, u)) W0 v' ((if neg then [45] else []) ++ [48, 46] ++ List.replicate Z 48 ++ (dI u).take k) w' := by
  obtain ⟨i0, hi, hz0, hz1, hz2⟩ := info_parts infoByte
  have hdp1 : decide (0 < dp) = false := decide_eq_false (by omega)
  have hP0 : decide (0 < P) = true := decide_eq_true (by omega)
  have hmax1 : max (0 : Int) (Z : Int) = (Z : Int) := by omega
  have hmin1 : min (P : Int) (Z : Int) = (Z : Int) := by omega
  have hoff : dp + (Z : Int) = 0 := by omega
  have hmax2 : max (0 : Int) (k : Int) = (k : Int) := by omega
  have hsub : (P : Int) - (Z : Int) = (k : Int) := by omega
  have hb0 : -400 ≤ dp := by omega
  have hb1 : dp ≤ 0 := by omega
  have hPb : P ≤ 420 := by omega
  have HDP : Hid _ := hP
  clear hP
  obtain ⟨pre, HPRE⟩ : ∃ pre : List Int, Hid (pre = ((if neg then [45] else []) ++ [48, 46] : List Int)) := ⟨(if neg then [45] else []) ++ [48, 46], rfl⟩
  have hpl : pre.length ≤ 3 := by rw [HPRE.out]; cases neg <;> decide
  rw [← HPRE.out]
  cases neg
  all_goals
    go_enter Tryz.func60, Tryz.ntmps60
    go_wp2_with (first
      | (at_builtin; refine wpList_append_own _ rfl _ _ 58 rfl B 5 i0 (.int .u8 0) 1 1 Tryz.underlying58 hi hz0 hz1 hz2 rfl (by decide) _ _ _ rfl (hbuf.own.alloc _) ⟨_, 0, none⟩ 1 1 [_] rfl rfl (cell_one_new _ _ _) (by intro u hu; simp at hu; subst hu; rfl) (by have := hbuf.len; unfold maxLen; omega) (by have := hbuf.len; omega) (by have := hbuf.size; simp; omega) ?_; intro v w hown hgrow hnil; have hbuf := hbuf.push _ hown hgrow hnil (by simp); clear hown hgrow hnil)
      | fail)
    have hbuf : Buf B (some (g, u)) W0 v pre w := by rw [HPRE.out]; exact hbuf
    go_loopw [240, 0] (fun a v wr => ∃ i : Nat, i ≤ Z ∧ a = .int .i64 i ∧ Buf B (some (g, u)) W0 v (pre ++ List.replicate i 48) wr) (fun a _ _ => Z - (intOf a).toNat)
    case atStart => exact ⟨0, Nat.zero_le _, rfl, by simpa using hbuf⟩
    case round =>
      obtain ⟨i, hir, rfl, hbuf⟩ := hrel
      rcases Nat.lt_or_eq_of_le hir with hlt2 | heq2
      · go_wp2_with (first
          | (at_builtin; refine wpList_append_own _ rfl _ _ 58 rfl B 5 i0 (.int .u8 0) 1 1 Tryz.underlying58 hi hz0 hz1 hz2 rfl (by decide) _ _ _ rfl (hbuf.own.alloc _) ⟨_, 0, none⟩ 1 1 [_] rfl rfl (cell_one_new _ _ _) (by intro u hu; simp at hu; subst hu; rfl) (by have := hbuf.len; unfold maxLen; omega) (by have := hbuf.len; omega) (by have := hbuf.size; simp; omega) ?_; intro v w hown hgrow hnil; have hbuf := hbuf.push _ hown hgrow hnil (by simp; omega); clear hown hgrow hnil)
          | fail)
        go_roundw
        case rel => exact ⟨i + 1, by omega, by go_num, by rw [rep_one, ← List.append_assoc]; exact hbuf⟩
        case measure => simp [intOf]; omega
      · subst heq2
        have hlen : (pre ++ List.replicate i (48 : Int)).length ≤ 403 := by simp; omega
        obtain ⟨zs, hzs⟩ : ∃ zs, pre ++ List.replicate i (48 : Int) = zs := ⟨_, rfl⟩
        rw [hzs] at hbuf hlen
        have HZ : Hid _ := hzs
        clear hzs
        go_wp2_with fail
        go_loopw [247, 0, 30] (fun a v _ wr => ∃ j : Nat, j ≤ k ∧ a = .int .i64 j ∧ Buf B (some (g, u)) W0 v (zs ++ (dI u).take j) wr) (fun a _ _ _ => k - (intOf a).toNat)
        case atStart => exact ⟨0, Nat.zero_le _, rfl, by simpa using hbuf⟩
        case round =>
          obtain ⟨j, hj, rfl, hbuf⟩ := hrel
          rcases Nat.lt_or_eq_of_le hj with hlt3 | heq3
          · have hc := (hbuf.dig g u rfl).int j (by omega)
            have HX : Hid _ := take_one (dI u) j (by omega)
            generalize (dI u)[j] = x at *
            go_wp2_with (first
              | (at_builtin; refine wpList_append_own _ rfl _ _ 58 rfl B 5 i0 (.int .u8 0) 1 1 Tryz.underlying58 hi hz0 hz1 hz2 rfl (by decide) _ _ _ rfl (hbuf.own.alloc _) ⟨_, 0, none⟩ 1 1 [_] rfl rfl (cell_one_new _ _ _) (by intro u hu; simp at hu; subst hu; rfl) (by have := hbuf.len; unfold maxLen; omega) (by have := hbuf.len; omega) (by have := hbuf.size; simp; omega) ?_; intro v w hown hgrow hnil; have hbuf := hbuf.push _ hown hgrow hnil (by simp; omega); clear hown hgrow hnil)
              | fail)
            go_roundw
            case rel => exact ⟨j + 1, by omega, by go_num, by rw [HX.out, ← List.append_assoc]; exact hbuf⟩
            case measure => simp [intOf]; omega
          · subst heq3
            go_wp2_with fail
            go_loopw [261, 0] (fun a v wr => a = .int .i64 0 ∧ Buf B (some (g, u)) W0 v (zs ++ (dI u).take j) wr) (fun _ _ _ => 0)
            case atStart => exact ⟨rfl, hbuf⟩
            case round =>
              obtain ⟨rfl, hbuf⟩ := hrel
              go_wp2_with fail
              go_ret
              exact ⟨_, rfl, by rw [HZ.out]; exact hbuf⟩
end Go.Proofs.YtmejmohambhaaaaGreatDoor
