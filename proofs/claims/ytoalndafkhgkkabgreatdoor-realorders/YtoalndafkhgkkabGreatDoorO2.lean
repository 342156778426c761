/- RealOrders: the document's order, and the walk. Own work of the verifier. -/
import Derived.Test.YtoalndafkhgkkabGreatDoorD2
namespace Go.Proofs.YtoalndafkhgkkabGreatDoor
open Go.RowKit Go.Sort

theorem not_word (x : Nat) (h : x < 18446744073709551616) : bits .xor .u64 IntKind.u64.max (x : Int) = ((18446744073709551615 - x : Nat) : Int) := by
  have := u64_xor_nat 18446744073709551615 x (by decide) h
  rw [show (IntKind.u64.max : Int) = ((18446744073709551615 : Nat) : Int) from by decide, this]
  congr 1
  have k : (BitVec.allOnes 64 ^^^ BitVec.ofNat 64 x).toNat = 2 ^ 64 - 1 - (BitVec.ofNat 64 x).toNat := by rw [BitVec.allOnes_xor, BitVec.toNat_not]
  rw [BitVec.toNat_xor, BitVec.toNat_allOnes, BitVec.toNat_ofNat, Nat.mod_eq_of_lt (by rw [show (2 : Nat) ^ 64 = 18446744073709551616 from by decide]; exact h)] at k
  exact k
theorem or_sign (x : Nat) (h : x < 9223372036854775808) : bits .or .u64 (x : Int) 9223372036854775808 = ((x + 9223372036854775808 : Nat) : Int) := by
  have := u64_or_nat x 9223372036854775808 (by omega) (by decide)
  rw [show ((9223372036854775808 : Nat) : Int) = 9223372036854775808 from rfl] at this
  rw [this, Nat.or_comm, nat_join 63 _ _ (by decide) (by rw [show (2 : Nat) ^ 63 = 9223372036854775808 from by decide]; exact h), Nat.add_comm]
theorem retI' {A B : Int} (h : A = B) : Ending.returned (Value.int .u64 A) = .returned (.int .u64 B) := by rw [h]
set_option maxHeartbeats 400000 in
theorem rank_any (x : Nat) (hx : x < 18446744073709551616) (w : World) : Calls Tryz.prog 14 #[.float .f64 x] w fun e w' => e = .returned (.int .u64 (rk x : Int)) ∧ w' = w := by
  have h1 := clear_sign x hx
  have h2 := sign_bit x hx
  cases hn : isN x
  · have z := nan_size hn
    by_cases hs : 9223372036854775808 ≤ x
    · have hk : rk x = 18446744073709551615 - x := by unfold rk; rw [if_neg (by rw [hn]; decide), if_pos hs]
      have h3 := not_word x hx
      rw [hk, ← h3]
      clear h3 hk
      go_enter Tryz.func14, Tryz.ntmps14
      go_wp2_with (first | simp only [mf64bits] | fail)
      go_ret
      exact ⟨rfl, rfl⟩
    · have hk : rk x = x + 9223372036854775808 := by unfold rk; rw [if_neg (by rw [hn]; decide), if_neg hs]
      have h3 := or_sign x (by omega)
      rw [hk, ← h3]
      clear h3 hk
      go_enter Tryz.func14, Tryz.ntmps14
      go_wp2_with (first | simp only [mf64bits] | fail)
      go_ret
      exact ⟨rfl, rfl⟩
  · have z := of_decide_eq_true hn
    rw [rk_nan hn]
    go_enter Tryz.func14, Tryz.ntmps14
    go_wp2_with (first | simp only [mf64bits] | fail)
    go_ret
    exact ⟨rfl, rfl⟩
theorem rk_lt (x : Nat) (hx : x < 18446744073709551616) : rk x < 18446744073709551616 := by
  unfold rk; split
  · decide
  · split <;> omega
set_option maxHeartbeats 400000 in
theorem refcmp_any (x y : Nat) (hx : x < 18446744073709551616) (hy : y < 18446744073709551616) (w : World) : Calls Tryz.prog 7 #[.float .f64 x, .float .f64 y] w fun e w' => e = .returned (.int .i64 (sg (rk x) (rk y))) ∧ w' = w := by
  have HX : Hid _ := rank_any x hx
  have HY : Hid _ := rank_any y hy
  unfold sg
  generalize rk x = A at *
  generalize rk y = B at *
  rcases Nat.lt_trichotomy A B with k | k | k
  · rw [if_pos k]
    go_enter Tryz.func7, Tryz.ntmps7
    go_wp2_with (first
      | (go_at_call 14; (first | (with_reducible refine (HX.out _).mono ?_) | (with_reducible refine (HY.out _).mono ?_)); rintro e w ⟨rfl, rfl⟩)
      | fail)
    go_ret
    exact ⟨rfl, rfl⟩
  · rw [if_neg (by omega), if_neg (by omega)]
    go_enter Tryz.func7, Tryz.ntmps7
    go_wp2_with (first
      | (go_at_call 14; (first | (with_reducible refine (HX.out _).mono ?_) | (with_reducible refine (HY.out _).mono ?_)); rintro e w ⟨rfl, rfl⟩)
      | fail)
    go_ret
    exact ⟨rfl, rfl⟩
  · rw [if_neg (by omega), if_pos k]
    go_enter Tryz.func7, Tryz.ntmps7
    go_wp2_with (first
      | (go_at_call 14; (first | (with_reducible refine (HX.out _).mono ?_) | (with_reducible refine (HY.out _).mono ?_)); rintro e w ⟨rfl, rfl⟩)
      | fail)
    go_ret
    exact ⟨rfl, rfl⟩
theorem sg_neg (a b : Nat) : sg b a = -(sg a b) := by
  unfold sg
  rcases Nat.lt_trichotomy a b with k | k | k
  · rw [if_neg (by omega), if_pos k, if_pos k]; rfl
  · subst k; simp
  · rw [if_pos k, if_neg (by omega), if_pos k]
theorem sg_range (a b : Nat) : sg a b = -1 ∨ sg a b = 0 ∨ sg a b = 1 := by unfold sg; split <;> (try split) <;> simp
theorem sg_trans (a b c : Nat) (h1 : sg a b ≤ 0) (h2 : sg b c ≤ 0) : sg a c ≤ 0 := by
  unfold sg at *
  split at h1 <;> split at h2 <;> (try split at h1) <;> (try split at h2) <;> split <;> (try split) <;> omega
theorem ord_sg (x y : Nat) (hx : x < 18446744073709551616) (hy : y < 18446744073709551616) :
    (sg (rk x) (rk y) = -1 ∧ ((FloatKind.f64.format.order x y == some .lt) = true ∨ (FloatKind.f64.format.order x y == some .lt) = false) ∧ (FloatKind.f64.format.order x y == some .gt) = false) ∨
    (sg (rk x) (rk y) = 0 ∧ (FloatKind.f64.format.order x y == some .lt) = false ∧ (FloatKind.f64.format.order x y == some .gt) = false) ∨
    (sg (rk x) (rk y) = 1 ∧ (FloatKind.f64.format.order x y == some .lt) = false ∧ ((FloatKind.f64.format.order x y == some .gt) = true ∨ (FloatKind.f64.format.order x y == some .gt) = false)) := by
  have tf : ∀ b : Bool, b = true ∨ b = false := by decide
  cases hn : isN x <;> cases hm : isN y
  · rw [ord_num hx hy hn hm]
    have n1 := rk_num hx hn
    have n2 := rk_num hy hm
    have z1 := nan_size hn
    have z2 := nan_size hm
    have h : (ov x < ov y → sg (rk x) (rk y) = -1) ∧ (ov y < ov x → sg (rk x) (rk y) = 1) := by
      unfold ov sg
      generalize rk x = A at *
      generalize rk y = B at *
      constructor
      · intro h; split at n1 <;> split at n2 <;> split at h <;> split at h <;> (try omega) <;> rw [if_pos (by omega)]
      · intro h; split at n1 <;> split at n2 <;> split at h <;> split at h <;> (try omega) <;> rw [if_neg (by omega), if_pos (by omega)]
    rcases Int.lt_trichotomy (ov x) (ov y) with k | k | k
    · rw [Int.compare_eq_lt.2 k]; exact Or.inl ⟨h.1 k, tf _, by decide⟩
    · rw [k, show compare (ov y) (ov y) = .eq from by simp]
      rcases sg_range (rk x) (rk y) with r | r | r
      · exact Or.inl ⟨r, tf _, by decide⟩
      · exact Or.inr (Or.inl ⟨r, by decide, by decide⟩)
      · exact Or.inr (Or.inr ⟨r, by decide, tf _⟩)
    · rw [Int.compare_eq_gt.2 k]; exact Or.inr (Or.inr ⟨h.2 k, by decide, tf _⟩)
  all_goals
    have e : FloatKind.f64.format.order x y = none := by
      first
        | exact (ord_nan hx hn y).1
        | exact (ord_nan hy hm x).2
    rw [e]
    rcases sg_range (rk x) (rk y) with r | r | r
    · exact Or.inl ⟨r, tf _, by decide⟩
    · exact Or.inr (Or.inl ⟨r, by decide, by decide⟩)
    · exact Or.inr (Or.inr ⟨r, by decide, tf _⟩)
end Go.Proofs.YtoalndafkhgkkabGreatDoor
