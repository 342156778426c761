/- THE TEXT WITHOUT AN EXPONENT, as the library writes it. Own work of the verifier. -/
import Derived.Test.YtmejmohambhaaaaGreatDoorL7
namespace Go.Proofs.YtmejmohambhaaaaGreatDoor
open Go.RowKit Go.Sort

theorem take_one (l : List Int) (j : Nat) (h : j < l.length) : l.take (j + 1) = l.take j ++ [l[j]] := List.take_succ_eq_append_getElem h
theorem rep_one (j : Nat) : List.replicate (j + 1) (48 : Int) = List.replicate j 48 ++ [48] := List.replicate_succ'
set_option maxHeartbeats 4000000 in
set_option maxRecDepth 100000 in
theorem fmtF_whole (neg : Bool) (B g u k D : Nat) (W0 w : World) (v : Value) (hbuf : Buf B (some (g, u)) W0 v [] w) (hk0 : 1 ≤ k) (hk : k ≤ (dI u).length) (hk2 : k ≤ 20) (hkD : k ≤ D) (hD : D ≤ 400) :
    Calls Tryz.prog 60 #[v, .bool neg, .slice (some ⟨g, 0, none⟩) 32 32, .int .i64 (D : Int), .int .i64 (k : Int), .int .i64 0, .int .u8 102, .bool true] w fun r w' => ∃ v', r = .returned v' ∧ Buf B (some (g, u)) W0 v' ((if neg then [45] else []) ++ (dI u).take k ++ List.replicate (D - k) 48) w' := by
  obtain ⟨i0, hi, hz0, hz1, hz2⟩ := info_parts infoByte
  have hmin : min (k : Int) (D : Int) = (k : Int) := by omega
  have hD0 : decide (0 < D) = true := decide_eq_true (by omega)
  obtain ⟨R, hR⟩ : ∃ R : Nat, D - k = R := ⟨_, rfl⟩
  have hRi : (D : Int) - (k : Int) = (R : Int) := by omega
  have hR2 : R ≤ 400 := by omega
  rw [hR]
  obtain ⟨pre, HPRE⟩ : ∃ pre : List Int, Hid (pre = if neg then [45] else []) := ⟨_, rfl⟩
  have hpl : pre.length ≤ 1 := by rw [HPRE.out]; cases neg <;> decide
  rw [← HPRE.out]
  cases neg
  all_goals
    go_enter Tryz.func60, Tryz.ntmps60
    go_wp2_with (first
      | (at_builtin; refine wpList_append_own _ rfl _ _ 58 rfl B 5 i0 (.int .u8 0) 1 1 Tryz.underlying58 hi hz0 hz1 hz2 rfl (by decide) _ _ _ rfl (hbuf.own.alloc _) ⟨_, 0, none⟩ 1 1 [_] rfl rfl (cell_one_new _ _ _) (by intro u hu; simp at hu; subst hu; rfl) (by have := hbuf.len; unfold maxLen; omega) (by have := hbuf.len; omega) (by have := hbuf.size; simp; omega) ?_; intro v w hown hgrow hnil; have hbuf := hbuf.push _ hown hgrow hnil (by simp); clear hown hgrow hnil)
      | fail)
    have hbuf : Buf B (some (g, u)) W0 v pre w := by rw [HPRE.out]; exact hbuf
    go_loopw [191, 0, 25] (fun a v _ wr => ∃ j : Nat, j ≤ k ∧ a = .int .i64 j ∧ Buf B (some (g, u)) W0 v (pre ++ (dI u).take j) wr) (fun a _ _ _ => k - (intOf a).toNat)
    case atStart => exact ⟨0, Nat.zero_le _, rfl, by simpa using hbuf⟩
    case round =>
      obtain ⟨j, hj, rfl, hbuf⟩ := hrel
      rcases Nat.lt_or_eq_of_le hj with hlt | heq
      · have hc := (hbuf.dig g u rfl).int j (by omega)
        have HX : Hid _ := take_one (dI u) j (by omega)
        generalize (dI u)[j] = x at *
        go_wp2_with (first
          | (at_builtin; refine wpList_append_own _ rfl _ _ 58 rfl B 5 i0 (.int .u8 0) 1 1 Tryz.underlying58 hi hz0 hz1 hz2 rfl (by decide) _ _ _ rfl (hbuf.own.alloc _) ⟨_, 0, none⟩ 1 1 [_] rfl rfl (cell_one_new _ _ _) (by intro u hu; simp at hu; subst hu; rfl) (by have := hbuf.len; unfold maxLen; omega) (by have := hbuf.len; omega) (by have := hbuf.size; simp; omega) ?_; intro v w hown hgrow hnil; have hbuf := hbuf.push _ hown hgrow hnil (by simp; omega); clear hown hgrow hnil)
          | fail)
        go_roundw
        case rel => exact ⟨j + 1, by omega, by go_num, by rw [HX.out, ← List.append_assoc]; exact hbuf⟩
        case measure => simp [intOf]; omega
      · subst heq
        have hlen : (pre ++ (dI u).take j).length ≤ 21 := by simp; omega
        obtain ⟨zs, hzs⟩ : ∃ zs, pre ++ (dI u).take j = zs := ⟨_, rfl⟩
        rw [hzs] at hbuf hlen
        have HZ : Hid _ := hzs
        clear hzs
        go_wp2_with fail
        go_loopw [203, 0] (fun a v wr => ∃ i : Nat, i ≤ R ∧ a = .int .i64 i ∧ Buf B (some (g, u)) W0 v (zs ++ List.replicate i 48) wr) (fun a _ _ => R - (intOf a).toNat)
        case atStart => exact ⟨0, Nat.zero_le _, rfl, by simpa using hbuf⟩
        case round =>
          obtain ⟨i, hir, rfl, hbuf⟩ := hrel
          rcases Nat.lt_or_eq_of_le hir with hlt2 | heq2
          · go_wp2_with (first
              | (at_builtin; refine wpList_append_own _ rfl _ _ 58 rfl B 5 i0 (.int .u8 0) 1 1 Tryz.underlying58 hi hz0 hz1 hz2 rfl (by decide) _ _ _ rfl (hbuf.own.alloc _) ⟨_, 0, none⟩ 1 1 [_] rfl rfl (cell_one_new _ _ _) (by intro u hu; simp at hu; subst hu; rfl) (by have := hbuf.len; unfold maxLen; omega) (by have := hbuf.len; omega) (by have := hbuf.size; simp; omega) ?_; intro v w hown hgrow hnil; have hbuf := hbuf.push _ hown hgrow hnil (by simp; omega); clear hown hgrow hnil)
              | fail)
            go_roundw
            case rel => exact ⟨i + 1, by omega, by go_num, by rw [rep_one, ← List.append_assoc]; exact hbuf⟩
            case measure => simp [intOf]; omega
          · subst heq2
            go_wp2_with fail
            go_ret
            exact ⟨_, rfl, by rw [HZ.out]; exact hbuf⟩
end Go.Proofs.YtmejmohambhaaaaGreatDoor
