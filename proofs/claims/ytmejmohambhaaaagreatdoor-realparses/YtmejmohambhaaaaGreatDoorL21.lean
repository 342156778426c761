/- THE TEXT OF A FLOAT WITH A POINT INSIDE, as the library writes it. Own work of the verifier. -/
import Derived.Test.YtmejmohambhaaaaGreatDoorL9
namespace Go.Proofs.YtmejmohambhaaaaGreatDoor
open Go.RowKit Go.Sort

/-- The digits behind the point. -/
def behind (u D k : Nat) : List Int := ((dI u).take k).drop D
theorem behind_length (u D k : Nat) (h : k ≤ (dI u).length) : (behind u D k).length = k - D := by unfold behind; rw [List.length_drop, List.length_take]; omega
theorem behind_at (u D k : Nat) (h : k ≤ (dI u).length) (hD : D ≤ k) : ∀ j (hj : j < k - D), (behind u D k)[j]'(by rw [behind_length u D k h]; exact hj) = (dI u)[D + j]'(by omega) := by
  intro j hj
  unfold behind; simp
set_option maxHeartbeats 4000000 in
set_option maxRecDepth 100000 in
theorem fmtF_mid (neg : Bool) (B g u k D P : Nat) (W0 w : World) (v : Value) (hbuf : Buf B (some (g, u)) W0 v [] w) (hD0 : 1 ≤ D) (hDk : D < k) (hk : k ≤ (dI u).length) (hk2 : k ≤ 20) (hP : P = k - D) :
    Calls Tryz.prog 60 #[v, .bool neg, .slice (some ⟨g, 0, none⟩) 32 32, .int .i64 (D : Int), .int .i64 (k : Int), .int .i64 (P : Int), .int .u8 102, .bool true] w fun r w' => ∃ v', r = .returned v' ∧ Buf B (some (g, u)) W0 v' ((if neg then [45] else []) ++ (dI u).take D ++ [46] ++ behind u D k) w' := by
  obtain ⟨i0, hi, hz0, hz1, hz2⟩ := info_parts infoByte
  have hmin : min (k : Int) (D : Int) = (D : Int) := by omega
  have hd0 : decide (0 < D) = true := decide_eq_true (by omega)
  have hP0 : decide (0 < P) = true := decide_eq_true (by omega)
  have hmax1 : max (0 : Int) (-(D : Int)) = 0 := by omega
  have hmin2 : min (P : Int) 0 = 0 := by omega
  have hkd : (k : Int) - (D : Int) = (P : Int) := by omega
  have hmax2 : max (0 : Int) (P : Int) = (P : Int) := by omega
  have hDb : D ≤ 20 := by omega
  have hPb : P ≤ 20 := by omega
  have HBA : Hid (∀ j (hj : j < k - D), (behind u D k)[j]'(by rw [behind_length u D k hk]; exact hj) = (dI u)[D + j]'(Nat.lt_of_lt_of_le (Nat.add_lt_of_lt_sub' hj) hk)) := behind_at u D k hk (Nat.le_of_lt hDk)
  have HP : Hid _ := hP
  have hbl : (behind u D k).length = P := by rw [behind_length u D k hk, hP]
  clear hP
  obtain ⟨pre, HPRE⟩ : ∃ pre : List Int, Hid (pre = if neg then [45] else []) := ⟨_, rfl⟩
  have hpl : pre.length ≤ 1 := by rw [HPRE.out]; cases neg <;> decide
  rw [← HPRE.out]
  cases neg
  all_goals
    go_enter Tryz.func60, Tryz.ntmps60
    go_wp2_with (first
      | (at_builtin; refine wpList_append_own _ rfl _ _ 58 rfl B 5 i0 (.int .u8 0) 1 1 Tryz.underlying58 hi hz0 hz1 hz2 rfl (by decide) _ _ _ rfl (hbuf.own.alloc _) ⟨_, 0, none⟩ 1 1 [_] rfl rfl (cell_one_new _ _ _) (by intro u hu; simp at hu; subst hu; rfl) (by have := hbuf.len; unfold maxLen; omega) (by have := hbuf.len; omega) (by have := hbuf.size; simp; omega) ?_; intro v w hown hgrow hnil; have hbuf := hbuf.push _ hown hgrow hnil (by simp); clear hown hgrow hnil)
      | fail)
    have hbuf : Buf B (some (g, u)) W0 v pre w := by rw [HPRE.out]; exact hbuf
    go_loopw [191, 0, 25] (fun a v _ wr => ∃ j : Nat, j ≤ D ∧ a = .int .i64 j ∧ Buf B (some (g, u)) W0 v (pre ++ (dI u).take j) wr) (fun a _ _ _ => D - (intOf a).toNat)
    case atStart => exact ⟨0, Nat.zero_le _, rfl, by simpa using hbuf⟩
    case round =>
      obtain ⟨j, hj, rfl, hbuf⟩ := hrel
      rcases Nat.lt_or_eq_of_le hj with hlt | heq
      · have hc := (hbuf.dig g u rfl).int j (by omega)
        have HX : Hid _ := take_one (dI u) j (by omega)
        generalize (dI u)[j] = x at *
        go_wp2_with (first
          | (at_builtin; refine wpList_append_own _ rfl _ _ 58 rfl B 5 i0 (.int .u8 0) 1 1 Tryz.underlying58 hi hz0 hz1 hz2 rfl (by decide) _ _ _ rfl (hbuf.own.alloc _) ⟨_, 0, none⟩ 1 1 [_] rfl rfl (cell_one_new _ _ _) (by intro u hu; simp at hu; subst hu; rfl) (by have := hbuf.len; unfold maxLen; omega) (by have := hbuf.len; omega) (by have := hbuf.size; simp; omega) ?_; intro v w hown hgrow hnil; have hbuf := hbuf.push _ hown hgrow hnil (by simp; omega); clear hown hgrow hnil)
          | fail)
        go_roundw
        case rel => exact ⟨j + 1, by omega, by go_num, by rw [HX.out, ← List.append_assoc]; exact hbuf⟩
        case measure => simp [intOf]; omega
      · subst heq
        have hlen : (pre ++ (dI u).take j).length ≤ 21 := by simp; omega
        obtain ⟨zs, hzs⟩ : ∃ zs, pre ++ (dI u).take j = zs := ⟨_, rfl⟩
        rw [hzs] at hbuf hlen
        have HZ : Hid _ := hzs
        clear hzs
        go_wp2_with fail
        go_loopw [203, 0] (fun a v wr => a = .int .i64 0 ∧ Buf B (some (g, u)) W0 v zs wr) (fun _ _ _ => 0)
        case atStart => exact ⟨rfl, hbuf⟩
        case round =>
          obtain ⟨rfl, hbuf⟩ := hrel
          go_wp2_with (first
            | (at_builtin; refine wpList_append_own _ rfl _ _ 58 rfl B 5 i0 (.int .u8 0) 1 1 Tryz.underlying58 hi hz0 hz1 hz2 rfl (by decide) _ _ _ rfl (hbuf.own.alloc _) ⟨_, 0, none⟩ 1 1 [_] rfl rfl (cell_one_new _ _ _) (by intro u hu; simp at hu; subst hu; rfl) (by have := hbuf.len; unfold maxLen; omega) (by have := hbuf.len; omega) (by have := hbuf.size; simp; omega) ?_; intro v w hown hgrow hnil; have hbuf := hbuf.push _ hown hgrow hnil (by simp; omega); clear hown hgrow hnil)
            | fail)
          go_loopw [240, 0] (fun a v wr => a = .int .i64 0 ∧ Buf B (some (g, u)) W0 v (zs ++ [46]) wr) (fun _ _ _ => 0)
          case atStart => exact ⟨rfl, hbuf⟩
          case round =>
            obtain ⟨rfl, hbuf⟩ := hrel
            go_wp2_with fail
            go_loopw [247, 0, 30] (fun a v _ wr => ∃ i : Nat, i ≤ P ∧ a = .int .i64 i ∧ Buf B (some (g, u)) W0 v (zs ++ [46] ++ (behind u j k).take i) wr) (fun a _ _ _ => P - (intOf a).toNat)
            case atStart => exact ⟨0, Nat.zero_le _, rfl, by simpa using hbuf⟩
            case round =>
              obtain ⟨i, hir, rfl, hbuf⟩ := hrel
              rcases Nat.lt_or_eq_of_le hir with hlt3 | heq3
              · have hpk : i < k - j := by have := HP.out; omega
                have hc := (hbuf.dig g u rfl).int (j + i) (by omega)
                rw [← HBA.out i hpk] at hc
                have HX : Hid _ := take_one (behind u j k) i (by omega)
                generalize (behind u j k)[i]'(by omega) = x at *
                go_wp2_with (first
                  | (at_builtin; refine wpList_append_own _ rfl _ _ 58 rfl B 5 i0 (.int .u8 0) 1 1 Tryz.underlying58 hi hz0 hz1 hz2 rfl (by decide) _ _ _ rfl (hbuf.own.alloc _) ⟨_, 0, none⟩ 1 1 [_] rfl rfl (cell_one_new _ _ _) (by intro u hu; simp at hu; subst hu; rfl) (by have := hbuf.len; unfold maxLen; omega) (by have := hbuf.len; omega) (by have := hbuf.size; simp; omega) ?_; intro v w hown hgrow hnil; have hbuf := hbuf.push _ hown hgrow hnil (by simp; omega); clear hown hgrow hnil)
                  | fail)
                go_roundw
                case rel => exact ⟨i + 1, by omega, by go_num, by rw [HX.out, ← List.append_assoc]; exact hbuf⟩
                case measure => simp [intOf]; omega
              · subst heq3
                rw [List.take_of_length_le (by omega)] at hbuf
                go_wp2_with fail
                go_loopw [261, 0] (fun a v wr => a = .int .i64 0 ∧ Buf B (some (g, u)) W0 v (zs ++ [46] ++ behind u j k) wr) (fun _ _ _ => 0)
                case atStart => exact ⟨rfl, hbuf⟩
                case round =>
                  obtain ⟨rfl, hbuf⟩ := hrel
                  go_wp2_with fail
                  go_ret
                  exact ⟨_, rfl, by rw [HZ.out]; exact hbuf⟩
end Go.Proofs.YtmejmohambhaaaaGreatDoor
