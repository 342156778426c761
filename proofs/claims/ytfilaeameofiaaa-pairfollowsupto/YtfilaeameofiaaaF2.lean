/- PairFollows: THE WALK. Own work of the verifier. -/
import Derived.Test.YtfilaeameofiaaaF1
namespace Go.Proofs.Ytfilaeameofiaaa
open Go.RowKit Soft

/-- Whole numbers of 32 bits, one behind the other. -/
def RowI (w : World) (b o : Nat) (L : List Int) : Prop := ∀ i (h : i < L.length), w.cell? ⟨b, o + i, none⟩ = some (.int .i32 L[i])
theorem RowI.below {w w1 : World} {b o : Nat} {L : List Int} {B : Nat} (h : RowI w b o L) (hb : Below B w w1) (hB : L ≠ [] → b < B) : RowI w1 b o L := fun i hi => by
  rw [hb.cell (p := ⟨b, o + i, none⟩) (hB (by intro k; rw [k] at hi; simp at hi))]; exact h i hi
theorem RowI.lt {w : World} {b o : Nat} {L : List Int} (h : RowI w b o L) (hL : L ≠ []) : b < w.heap.size := by
  cases L with
  | nil => exact absurd rfl hL
  | cons x l => exact lt_of_cell (h 0 (by simp))
def Small32 (L : List Int) : Prop := ∀ x ∈ L, -2147483648 ≤ x ∧ x ≤ 2147483647
theorem below_drew (w : World) (n : Nat) : Below w.heap.size w (w.drewN n) := bdrew (Below.refl _ _) n
/-- Of one float that may be recorded. -/
theorem ofx_any (x : Nat) (hx : Soft.Fin x) (b : Nat) (W : World) (hb : b = W.heap.size) : Calls Try.prog 16 #[.slice (some ⟨b, 0, none⟩) 1 1] (W.alloc (.cells #[.float .f64 x] 33)) fun e w' => e = .returned (.complex .f64 (fw (vw x)) 0) ∧ ∃ n, w' = (W.alloc (.cells #[.float .f64 x] 33)).drewN n :=
  pof_at b [x] 1 _ _ (by rw [List.all_cons, List.all_nil, Bool.and_true]; exact decide_eq_true hx.1) (by show 1 < _; decide) (of_alone hx).1 (fin_not_nan (of_alone hx).2.2.1.1) (by decide) _ (rowF_new W b [x] _ hb)
theorem intV {k : IntKind} {A B : Int} (h : A = B) : Value.int k A = .int k B := by rw [h]
set_option maxHeartbeats 8000000 in
theorem follows_walk (ao : Option Addr) (b o cap : Nat) (L : List Nat) (hao : L ≠ [] → ao = some ⟨b, o, none⟩) (hL : Small L) (w : World) (hR : RowU w b o L)
    (ao2 : Option Addr) (b2 o2 cap2 : Nat) (M : List Int) (hao2 : M ≠ [] → ao2 = some ⟨b2, o2, none⟩) (hM : Small32 M) (hI : RowI w b2 o2 M) (hlen : L.length + M.length ≤ 1048576) (cut : Int) (hc0 : -9223372036854775808 ≤ cut) (hc1 : cut ≤ 9223372036854775807) :
    Calls Try.prog 5 #[.slice ao L.length cap, .slice ao2 M.length cap2, .int .i64 cut] w fun e w' => e = .returned (.bool true) ∧ Below w.heap.size w w' := by
  go_enter Try.func5, Try.ntmps5
  go_wp2_with fail
  go_loopw [7] (fun a wr => ∃ k : Nat, k ≤ L.length ∧ a = .int .i64 (k : Int) ∧ Below w.heap.size w wr) (fun a _ => (L.length - (intOf a).toNat))
  case atStart => exact ⟨0, by omega, rfl, Below.refl _ _⟩
  case round =>
    obtain ⟨k, hk, rfl, hB⟩ := hrel
    by_cases hlt : k < L.length
    · obtain rfl := hao (by intro k; rw [k] at hlt; simp at hlt)
      have hx : L[k] < 18446744073709551616 := hL _ (List.getElem_mem hlt)
      have q2 : wr.cell? ⟨b, o + k, none⟩ = some (.int .u64 ((L[k] : Nat) : Int)) := (hR.below hB (fun h => hR.lt h)) k hlt
      have hlt' : (k : Int) < (L.length : Int) := by omega
      have HM : Hid _ := may_any L[k] hx
      generalize L[k] = x at *
      by_cases hmay : x % 9223372036854775808 ≤ 8930638061075693568
      · rw [decide_eq_true hmay] at HM
        have hfin : Soft.Fin x := ⟨hx, by omega⟩
        obtain ⟨_, v2, v3, v4⟩ := of_alone hfin
        have HO : Hid _ := ofx_any x hfin
        have HT : Hid _ := ptotal_at (fw (vw x)) 0 _ v3.1.1 (by decide) v2 (fin_not_nan v3.1)
        have HS : Hid _ := stays_any (fw (vw x)) 0 _ v3 ok_zero v2 v3
        have ho : (FloatKind.f64.format.order (fw (vw x)) x != some .eq) = false := by
          rw [show FloatKind.f64.format.order (fw (vw x)) x = some .eq from order_eq v3.1 hfin v4]; rfl
        clear v2 v3 v4 hfin hmay hx
        generalize fw (vw x) = y at *
        go_wp2_with (first
          | simp only [mf64from, Int.toNat_natCast]
          | (go_at_call 27; with_reducible refine (HM.out _).mono ?_; rintro e w' ⟨rfl, rfl⟩)
          | (go_at_call 16; with_reducible refine (HO.out _ _ ?_).mono ?_; (first | rfl | simp); rintro e w' ⟨rfl, n1, rfl⟩)
          | (go_at_call 13; with_reducible refine (HT.out _).mono ?_; rintro e w' ⟨rfl, n2, rfl⟩)
          | (go_at_call 25; with_reducible refine (HS.out _).mono ?_; rintro e w5 ⟨rfl, hb5⟩))
        have z1 := hB.alloc hB.size (.cells #[.float .f64 x] 33)
        have z2 := bdrew z1 (n1 + n2)
        exact ⟨⟨k + 1, by omega, by go_num, z2.trans (hb5.mono z2.size)⟩, by simp [intOf]; omega⟩
      · rw [decide_eq_false hmay] at HM
        go_wp2_with (go_at_call 27; with_reducible refine (HM.out _).mono ?_; rintro e w' ⟨rfl, rfl⟩)
        go_round
        case rel => exact ⟨k + 1, by omega, by go_num, hB⟩
        case measure => simp [intOf]; omega
    · obtain rfl : k = L.length := by omega
      have hlt' : ¬ (L.length : Int) < (L.length : Int) := by omega
      have hI1 := hI.below hB (fun h => hI.lt h)
      clear hao hL hR
      go_wp2_with fail
      go_loopw [10, 11] (fun s a W => ∃ (k : Nat) (S : Int), k ≤ M.length ∧ s = .int .i64 S ∧ a = .int .i64 (k : Int) ∧ 0 ≤ S ∧ S ≤ 2147483648 * (k : Int) ∧ ∃ n, W = wr.drewN n) (fun _ a _ => (M.length - (intOf a).toNat))
      case atStart => exact ⟨0, 0, by omega, rfl, rfl, by omega, by omega, 0, rfl⟩
      case round =>
        obtain ⟨k, S, hk, rfl, rfl, s0, s1, n, rfl⟩ := hrel
        by_cases hlt2 : k < M.length
        · obtain rfl := hao2 (by intro k; rw [k] at hlt2; simp at hlt2)
          obtain ⟨m0, m1⟩ := hM M[k] (List.getElem_mem hlt2)
          have q3 := hI1 k hlt2
          have hlt3 : (k : Int) < (M.length : Int) := by omega
          generalize M[k] = z at *
          go_wp2_with fail
          go_quiet (fail)
          go_wp2_with fail
          exact ⟨⟨k + 1, _, by omega, rfl, by go_num, by split <;> omega, by split <;> omega, _, rfl⟩, by simp [intOf]; omega⟩
        · obtain rfl : k = M.length := by omega
          have hlt3 : ¬ (M.length : Int) < (M.length : Int) := by omega
          have hsz : ¬ (9007199254740992 : Int) < S := by omega
          have hI2 := hI1.below (below_drew wr n) (fun h => hI1.lt h)
          have hB2 := bdrew hB n
          have hcut : cut < 0 ∨ (¬ cut < 0 ∧ (M.length : Int) < cut) ∨ (¬ cut < 0 ∧ ¬ (M.length : Int) < cut) := by omega
          rcases hcut with c1 | ⟨c1, c2⟩ | ⟨c1, c2⟩
          all_goals
            go_wp2_with fail
            go_loopw [12, 13, 14, 15] (fun s a b i W => ∃ (k : Nat) (SA SB : Int), k ≤ M.length ∧ s = .int .i64 (SA + SB) ∧ a = .complex .f64 (iw SA) 0 ∧ b = .complex .f64 (iw SB) 0 ∧ i = .int .i64 (k : Int) ∧ -2147483648 * (k : Int) ≤ SA ∧ SA ≤ 2147483648 * (k : Int) ∧ -2147483648 * (k : Int) ≤ SB ∧ SB ≤ 2147483648 * (k : Int) ∧ ∃ m, W = wr.drewN m) (fun _ _ _ i _ => (M.length - (intOf i).toNat))
            case atStart => exact ⟨0, 0, 0, by omega, rfl, by rw [iw_zero], by rw [iw_zero], rfl, by omega, by omega, by omega, by omega, n, rfl⟩
            case round =>
              obtain ⟨k, SA, SB, hk3, rfl, rfl, rfl, rfl, a0, a1, b0, b1, m, rfl⟩ := hrel
              by_cases hlt4 : k < M.length
              · obtain rfl := hao2 (by intro k; rw [k] at hlt4; simp at hlt4)
                obtain ⟨m0, m1⟩ := hM M[k] (List.getElem_mem hlt4)
                have q3 := hI1 k hlt4
                have hlt5 : (k : Int) < (M.length : Int) := by omega
                generalize M[k] = z at *
                have hcv := ofInt_iw (n := z) ⟨by omega, by omega⟩
                have HA : Hid _ := padd_iw (x := SA) (y := z) ⟨by omega, by omega⟩ ⟨by omega, by omega⟩ ⟨by omega, by omega⟩
                have HB : Hid _ := padd_iw (x := SB) (y := z) ⟨by omega, by omega⟩ ⟨by omega, by omega⟩ ⟨by omega, by omega⟩
                go_wp2_with (first | (go_at_call 19; (first | (with_reducible refine (HA.out _).mono ?_) | (with_reducible refine (HB.out _).mono ?_)); rintro e w' ⟨rfl, n5, rfl⟩))
                all_goals
                  first
                    | exact ⟨⟨k + 1, SA, SB + z, by omega, intV (by omega), rfl, rfl, by go_num, by omega, by omega, by omega, by omega, _, rfl⟩, by simp [intOf]; omega⟩
                    | exact ⟨⟨k + 1, SA + z, SB, by omega, intV (by omega), rfl, rfl, by go_num, by omega, by omega, by omega, by omega, _, rfl⟩, by simp [intOf]; omega⟩
              · obtain rfl : k = M.length := by omega
                have hlt5 : ¬ (M.length : Int) < (M.length : Int) := by omega
                have lA : Lim SA := ⟨by omega, by omega⟩
                have lB : Lim SB := ⟨by omega, by omega⟩
                have lS : Lim (SA + SB) := ⟨by omega, by omega⟩
                have l0 : Lim 0 := ⟨by decide, by decide⟩
                have HM1 : Hid _ := pmerge_iw lA lB lS
                have HM2 : Hid (∀ W, Calls Try.prog 9 #[.complex .f64 (iw SB) 0, .complex .f64 (iw SA) 0] W fun e w' => e = .returned (.complex .f64 (iw (SA + SB)) 0) ∧ ∃ n, w' = W.drewN n) := by
                  have := pmerge_iw lB lA (by rw [Int.add_comm]; exact lS)
                  rw [Int.add_comm] at this
                  exact this
                have HM3 : Hid (∀ W, Calls Try.prog 9 #[.complex .f64 (iw SA) 0, .complex .f64 0 0] W fun e w' => e = .returned (.complex .f64 (iw SA) 0) ∧ ∃ n, w' = W.drewN n) := by
                  have := pmerge_iw lA l0 (by rw [Int.add_zero]; exact lA)
                  rw [Int.add_zero, iw_zero] at this
                  exact this
                have HM4 : Hid (∀ W, Calls Try.prog 9 #[.complex .f64 0 0, .complex .f64 (iw SA) 0] W fun e w' => e = .returned (.complex .f64 (iw SA) 0) ∧ ∃ n, w' = W.drewN n) := by
                  have := pmerge_iw l0 lA (by rw [Int.zero_add]; exact lA)
                  rw [Int.zero_add, iw_zero] at this
                  exact this
                have HT : Hid _ := ptotal_iw lS
                have HS : Hid _ := stays_any (iw (SA + SB)) 0 _ (vw_iw lS).2 ok_zero (total_iw lS) (vw_iw lS).2
                have hcv := ofInt_iw lS
                have oS : (FloatKind.f64.format.order (iw (SA + SB)) (iw (SA + SB)) == some .eq) = true := by
                  rw [show FloatKind.f64.format.order (iw (SA + SB)) (iw (SA + SB)) = some .eq from order_eq (vw_iw lS).2.1 (vw_iw lS).2.1 rfl]; rfl
                have oA : (FloatKind.f64.format.order (iw SA) (iw SA) == some .eq) = true := by
                  rw [show FloatKind.f64.format.order (iw SA) (iw SA) = some .eq from order_eq (vw_iw lA).2.1 (vw_iw lA).2.1 rfl]; rfl
                have o0 : (FloatKind.f64.format.order 0 0 == some .eq) = true := by decide +kernel
                have hB3 := bdrew hB m
                clear hI hI1 hI2 hM lA lB lS l0
                go_wp2_with (first
                  | (go_at_call 9; (first | (with_reducible refine (HM1.out _).mono ?_) | (with_reducible refine (HM2.out _).mono ?_) | (with_reducible refine (HM3.out _).mono ?_) | (with_reducible refine (HM4.out _).mono ?_)); rintro e w' ⟨rfl, n5, rfl⟩)
                  | (go_at_call 13; with_reducible refine (HT.out _).mono ?_; rintro e w' ⟨rfl, n5, rfl⟩)
                  | (go_at_call 25; with_reducible refine (HS.out _).mono ?_; rintro e w5 ⟨rfl, hb5⟩; first | have hB4 := hB4.trans (hb5.mono hB4.size) | have hB4 := (bdrew hB _).trans (hb5.mono (bdrew hB _).size))
                  | (go_at_call 21; with_reducible refine (fixed_any _).mono ?_; rintro e w6 ⟨rfl, hb6⟩))
                go_ret
                exact ⟨rfl, hB4.trans (hb6.mono hB4.size)⟩
end Go.Proofs.Ytfilaeameofiaaa
