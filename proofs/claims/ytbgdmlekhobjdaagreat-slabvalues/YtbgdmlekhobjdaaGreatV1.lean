/- PARTS: the document's leaves. Own work of the verifier. -/
import Derived.Test.YtbgdmlekhobjdaaGreatS14
import Derived.Test.YtbgdmlekhobjdaaGreatPC
import Derived.Test.YtbgdmlekhobjdaaGreatV0
namespace Go.Proofs.YtbgdmlekhobjdaaGreat
open Go.RowKit

set_option maxHeartbeats 1000000 in
theorem scount_any (ao : Option Addr) (b o cap : Nat) (A : List Cn) (hao : A ≠ [] → ao = some ⟨b, o, none⟩) (ao' : Option Addr) (b' o' cap' : Nat) (C : List Cn) (hao' : C ≠ [] → ao' = some ⟨b', o', none⟩) (hl : A.length ≤ 9223372036854775807) (hl' : C.length ≤ 9223372036854775807) (w : World) (hA : RowC w b o A) (hC : RowC w b' o' C) :
    Calls Tryz.prog 33 #[.slice ao A.length cap, .slice ao' C.length cap'] w fun e w' => e = .returned (.bool (decide (A = C))) ∧ ∃ n, w' = w.drewN n := by
  by_cases hlen : A.length = C.length
  · have ht : ((A.length : Int) != (C.length : Int)) = false := by rw [bne_eq_false_iff_eq]; omega
    have HL : Hid _ := hlen
    clear hlen
    go_enter Tryz.func33, Tryz.ntmps33
    go_wp2_with fail
    go_loopw [5] (fun c wr => ∃ i n : Nat, i ≤ A.length ∧ c = .int .i64 (i : Int) ∧ wr = w.drewN n ∧ Hid (A.take i = C.take i)) (fun c _ => A.length - (intOf c).toNat)
    case atStart => exact ⟨0, 0, by omega, rfl, rfl, by simp [Hid]⟩
    case round =>
      obtain ⟨i, n, hi, rfl, rfl, hE⟩ := hrel
      by_cases hlt : i < A.length
      · have hlt2 : i < C.length := by have := HL.out; omega
        obtain rfl := hao (by intro e; rw [e] at hlt; simp at hlt)
        obtain rfl := hao' (by intro e; rw [e] at hlt2; simp at hlt2)
        have hlt' : (i : Int) < (A.length : Int) := by omega
        have hlt2' : (i : Int) < (C.length : Int) := by omega
        obtain ⟨q1, q2⟩ := hA i hlt
        obtain ⟨q3, q4⟩ := hC i hlt2
        have HT1 : Hid (A.take (i + 1) = A.take i ++ [A[i]]) := List.take_succ_eq_append_getElem hlt
        have HT2 : Hid (C.take (i + 1) = C.take i ++ [C[i]]) := List.take_succ_eq_append_getElem hlt2
        have HN : Hid (A[i] ≠ C[i] → A ≠ C) := fun h e => h (by subst e; rfl)
        obtain ⟨x, y, hxy⟩ : ∃ x y, A[i] = (x, y) := ⟨_, _, rfl⟩
        obtain ⟨u, v, huv⟩ : ∃ u v, C[i] = (u, v) := ⟨_, _, rfl⟩
        rw [hxy] at q1 q2 HT1 HN
        rw [huv] at q3 q4 HT2 HN
        clear hxy huv
        by_cases he : x = u ∧ y = v
        · obtain ⟨rfl, rfl⟩ := he
          go_wp2_with fail
          go_region
          go_wp2_with fail
          exact ⟨⟨i + 1, n + 1, by omega, by go_num, rfl, by unfold Hid; rw [HT1.out, HT2.out, hE.out]⟩, by simp [intOf]; omega⟩
        · have hne : decide (A = C) = false := decide_eq_false (HN.out (fun e => he ⟨(Prod.mk.inj e).1, (Prod.mk.inj e).2⟩))
          have HNE : Hid _ := hne
          have hor : (x == u) = false ∨ (x = u ∧ ((y : Int) == (v : Int)) = false) := by
            by_cases h1 : x = u
            · right
              exact ⟨h1, by rw [beq_eq_false_iff_ne]; intro h2; exact he ⟨h1, by omega⟩⟩
            · left
              rw [beq_eq_false_iff_ne]
              exact h1
          clear he hne HN
          rcases hor with h1 | ⟨rfl, h1⟩
          · go_wp2_with fail
            go_region
            go_wp2_with fail
            go_ret
            exact ⟨retB HNE.out.symm, n + 1, rfl⟩
          · go_wp2_with fail
            go_region
            go_wp2_with fail
            go_ret
            exact ⟨retB HNE.out.symm, n + 1, rfl⟩
      · obtain rfl : i = A.length := by omega
        have hlt' : ¬ (A.length : Int) < (A.length : Int) := by omega
        have he : decide (A = C) = true := by
          have := hE.out
          rw [List.take_length, HL.out, List.take_length] at this
          exact decide_eq_true this
        have HE : Hid _ := he
        clear he
        go_wp2_with fail
        go_ret
        exact ⟨retB HE.out.symm, n, rfl⟩
  · have ht : ((A.length : Int) != (C.length : Int)) = true := by rw [bne_iff_ne]; omega
    have hne : decide (A = C) = false := decide_eq_false (fun e => hlen (by rw [e]))
    rw [hne]
    clear hlen hne
    go_enter Tryz.func33, Tryz.ntmps33
    go_wp2_with fail
    go_ret
    exact ⟨rfl, 0, rfl⟩
theorem scounts_sn {w : World} {v v' : Value} {A C : List Cn} (h : SN w v A) (h' : SN w v' C) (hl : A.length ≤ 9223372036854775807) (hl' : C.length ≤ 9223372036854775807) : Calls Tryz.prog 33 #[v, v'] w fun e w' => e = .returned (.bool (decide (A = C))) ∧ Below w.heap.size w w' := by
  obtain ⟨ao, b, o, cap, rfl, hao, hr⟩ := h.sc
  obtain ⟨ao', b', o', cap', rfl, hao', hr'⟩ := h'.sc
  refine Calls.mono (scount_any ao b o cap A hao ao' b' o' cap' C hao' hl hl' w hr hr') ?_
  rintro e w' ⟨rfl, n, rfl⟩
  exact ⟨rfl, below_drew w n⟩
theorem rmerge_sn (W : World) (v v' : Value) (A C : List Cn) (hA : SN W v A) (hC : SN W v' C) (hW : Wc (A ++ C)) (lA : A.length ≤ 1048576) (lC : C.length ≤ 1048576) : Calls Tryz.prog 26 #[v, v'] W fun e w' => Md W (A ++ C) e w' := by
  rcases hA with ⟨rfl, rfl⟩ | ⟨b, o, cap, rfl, _, hr⟩
  · rcases hC with ⟨rfl, rfl⟩ | ⟨b', o', cap', rfl, _, hr'⟩
    · exact merge_none W
    · exact merge_left _ C cap' lC W hr'.cells hW
  · rcases hC with ⟨rfl, rfl⟩ | ⟨b', o', cap', rfl, _, hr'⟩
    · exact merge_right _ A cap lA W hr.cells hW
    · exact merge_some _ A cap _ C cap' lA lC W hr.cells (fun W' hW' => (hr'.below hW' (fun k => hr'.lt k)).cells) hW
theorem ahead_any (a b : Nat) (ha : a < 18446744073709551616) (hb : b < 18446744073709551616) (w : World) : Calls Tryz.prog 28 #[.int .u64 (a : Int), .int .u64 (b : Int)] w fun e w' => e = .returned (.bool (decide (Pr.sg (Pr.rk a) (Pr.rk b) < 0))) ∧ w' = w := by
  have HC : Hid _ := Pr.zcmp a b ha hb
  have h1 := Pr.mf64from (a : Int)
  have h2 := Pr.mf64from (b : Int)
  rw [Int.toNat_natCast] at h1 h2
  generalize Pr.sg (Pr.rk a) (Pr.rk b) = z at *
  go_enter Tryz.func28, Tryz.ntmps28
  go_wp2_with (go_at_call 44; with_reducible refine (HC.out _).mono ?_; rintro e w ⟨rfl, rfl⟩)
  go_ret
  exact ⟨rfl, rfl⟩
/-- A part, as the document has it; a raw one, as the law has it. -/
abbrev rpart (hi lo : Int) (v : Value) (n s c mn mx : Nat) : Value := .agg #[.int .i64 hi, .int .u64 lo, v, .int .u64 (n : Int), .int .u64 (s : Int), .int .u64 (c : Int), .int .u64 (mn : Int), .int .u64 (mx : Int)]
set_option maxHeartbeats 1000000 in
theorem ref_any (hi lo : Int) (ao : Option Addr) (m cap n s c mn mx : Nat) (w : World) : Calls Tryz.prog 8 #[rpart hi lo (.slice ao m cap) n s c mn mx] w fun e w' => e = .returned (rpart hi lo (.slice ao m cap) n s c mn mx) ∧ Below w.heap.size w w' := by
  go_enter Tryz.func8, Tryz.ntmps8
  go_wp2_with fail
  simp [bodyPost, results, Tryz.results8, go_sem]
  exact bel2 _ _ _
theorem bits_any (x : Nat) (w : World) : Calls Tryz.prog 35 #[.float .f64 x] w fun e w' => e = .returned (.int .u64 (x : Int)) ∧ w' = w := by
  have h1 := Pr.mf64bits x
  go_enter Tryz.func35, Tryz.ntmps35
  go_wp2
  go_ret
  exact ⟨rfl, rfl⟩
end Go.Proofs.YtbgdmlekhobjdaaGreat
