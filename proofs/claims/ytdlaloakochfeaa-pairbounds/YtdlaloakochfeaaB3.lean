/- WHICH whole number IS GREATER, the document's. Own work of the verifier. -/
import Derived.Test.YtdlaloakochfeaaB2
namespace Go.Proofs.Ytdlaloakochfeaa
open Go.RowKit Soft

theorem trim_same (ao : Option Addr) (b o cap : Nat) (L : List Nat) (w : World) (h : RB w ao b o cap L) (ht : Trm L) :
    Calls Try.prog 29 #[.slice ao L.length cap] w fun e w' => e = .returned (.slice ao L.length cap) ∧ w' = w := by
  refine (trim_any ao b o cap L w h).mono ?_
  rintro e w' ⟨n, rfl, rfl, hn, hz, _⟩
  have : n = L.length := by
    rcases Nat.lt_or_eq_of_le hn with c | c
    · exfalso
      have hL : L ≠ [] := fun e => by rw [e] at c; simp at c
      have h1 := ht hL
      rw [List.getLast_eq_getElem] at h1
      exact h1 (hz (L.length - 1) (by omega) (by omega))
    · exact c
  rw [this]
  exact ⟨rfl, rfl⟩
set_option maxHeartbeats 2000000 in
theorem greater_rows (ao : Option Addr) (b o cap : Nat) (A : List Nat) (ao2 : Option Addr) (b2 o2 cap2 : Nat) (C : List Nat) (w : World) (h : RB w ao b o cap A) (k : RB w ao2 b2 o2 cap2 C) (hA : Trm A) (hC : Trm C) (hl : A.length ≤ 1000000000) (_hl2 : C.length ≤ 1000000000) :
    Calls Try.prog 26 #[.slice ao A.length cap, .slice ao2 C.length cap2] w fun e w' => e = .returned (.bool (decide (bv C < bv A))) ∧ ∃ m, w' = w.drewN m := by
  have H1 := trim_same ao b o cap A w h hA
  have H2 := trim_same ao2 b2 o2 cap2 C w k hC
  by_cases hlen0 : A.length = C.length
  · have hlen : Hid _ := hlen0
    have hle : ((A.length : Int) != (C.length : Int)) = false := by rw [bne_eq_false_iff_eq]; omega
    clear hlen0
    go_enter Try.func26, Try.ntmps26
    go_wp2_with (go_at_call 29; (first | (with_reducible refine H1.mono ?_) | (with_reducible refine H2.mono ?_)); rintro e w' ⟨rfl, rfl⟩)
    go_loopw [5] (fun a wr => ∃ i m : Nat, i ≤ A.length ∧ a = .int .i64 ((i : Int) - 1) ∧ Hid (A.drop i = C.drop i) ∧ wr = w'.drewN m) (fun a _ => (intOf a + 1).toNat)
    case atStart => exact ⟨A.length, 0, by omega, rfl, by unfold Hid; rw [List.drop_length, hlen.out, List.drop_length], rfl⟩
    case round =>
      obtain ⟨i, m, hi, rfl, hd, rfl⟩ := hrel
      by_cases h0 : i = 0
      · subst h0
        have he : A = C := by have := hd.out; simpa using this
        have hdec : decide (bv C < bv A) = false := decide_eq_false (by rw [he]; omega)
        have hn : ¬ (0 : Int) ≤ ((0 : Nat) : Int) - 1 := by omega
        have HD : Hid _ := hdec
        clear hdec he
        go_wp2_with fail
        go_ret
        exact ⟨retB HD.out.symm, m, rfl⟩
      · obtain ⟨j, rfl⟩ : ∃ j, i = j + 1 := ⟨i - 1, by omega⟩
        have u1 : j < A.length := by omega
        have u2 : j < C.length := by have := hlen.out; omega
        obtain rfl := h.addr (by intro e; rw [e] at u1; simp at u1)
        obtain rfl := k.addr (by intro e; rw [e] at u2; simp at u2)
        have q1 := h.row j u1
        have q2 := k.row j u2
        have e1 : ((j + 1 : Nat) : Int) - 1 = (j : Int) := by omega
        have e2 : (0 : Int) ≤ (j : Int) := by omega
        have v1 : (j : Int) < (A.length : Int) := by omega
        have v2 : (j : Int) < (C.length : Int) := by omega
        by_cases hx : A[j] = C[j]
        · have hd' : Hid (A.drop j = C.drop j) := drop_eq u1 u2 hd.out hx
          rw [hx] at q1
          clear hx
          generalize C[j] = x at *
          go_wp2_with fail
          go_quiet (fail)
          go_wp2_with fail
          exact ⟨⟨j, _, by omega, by go_num, hd', rfl⟩, by simp [intOf]⟩
        · have hg : decide (C[j] < A[j]) = decide (bv C < bv A) := by
            apply decide_eq_decide.2
            rcases Nat.lt_or_gt_of_ne hx with c | c
            · have := bv_top h.small u2 u1 hd.out.symm c
              omega
            · have := bv_top k.small u1 u2 hd.out c
              omega
          have hne : (((A[j] : Nat) : Int) != ((C[j] : Nat) : Int)) = true := by rw [bne_iff_ne]; omega
          have HG : Hid _ := hg
          clear hg hx
          generalize A[j] = x at *
          generalize C[j] = y at *
          go_wp2_with fail
          go_quiet (fail)
          go_wp2_with fail
          go_quiet (fail)
          go_wp2_with fail
          go_ret
          refine ⟨retB HG.out, ?_⟩
          simp only [World.drewN_drewN]
          exact ⟨_, rfl⟩
  · have hle : ((A.length : Int) != (C.length : Int)) = true := by rw [bne_iff_ne]; omega
    have hg : decide (C.length < A.length) = decide (bv C < bv A) := by
      apply decide_eq_decide.2
      rcases Nat.lt_or_gt_of_ne hlen0 with c | c
      · have := bv_longer hC h.small c
        omega
      · have := bv_longer hA k.small c
        omega
    have HG : Hid _ := hg
    clear hg hlen0
    go_enter Try.func26, Try.ntmps26
    go_wp2_with (go_at_call 29; (first | (with_reducible refine H1.mono ?_) | (with_reducible refine H2.mono ?_)); rintro e w' ⟨rfl, rfl⟩)
    go_ret
    exact ⟨retB HG.out, 0, rfl⟩
end Go.Proofs.Ytdlaloakochfeaa
