/- Rank, AtMost, Quantile, the document's. Own work of the verifier. -/
import Derived.Test.YthhoklgfgandpaaC4
import Derived.Test.YthhoklgfgandpaaM1
namespace Go.Proofs.Ythhoklgfgandpaa
open Go.RowKit

theorem mayIs_ex (p : Int) (L : List Cn) : ∃ e, MayIs p L e := by
  by_cases hp : 1 ≤ p ∧ p ≤ 14
  · by_cases h : ∀ j, j < L.length → bad ((64 - p.toNat) * 2 ^ p.toNat) L j = 0
    · exact ⟨_, Or.inr ⟨hp, Or.inr ⟨h, rfl⟩⟩⟩
    · have : ∀ m, (∃ j, j < m ∧ j < L.length ∧ bad ((64 - p.toNat) * 2 ^ p.toNat) L j ≠ 0) → ∃ i, i < L.length ∧ (∀ j, j < i → bad ((64 - p.toNat) * 2 ^ p.toNat) L j = 0) ∧ bad ((64 - p.toNat) * 2 ^ p.toNat) L i ≠ 0 := by
        intro m
        induction m with
        | zero => rintro ⟨j, hj, _⟩; omega
        | succ m ih =>
          rintro ⟨j, hj, hl, hb⟩
          by_cases c : ∃ j, j < m ∧ j < L.length ∧ bad ((64 - p.toNat) * 2 ^ p.toNat) L j ≠ 0
          · exact ih c
          · have e : j = m := by
              by_cases h' : j < m
              · exact absurd ⟨j, h', hl, hb⟩ c
              · omega
            subst e
            refine ⟨j, hl, fun k hk => ?_, hb⟩
            by_cases h' : bad ((64 - p.toNat) * 2 ^ p.toNat) L k = 0
            · exact h'
            · exact absurd ⟨k, hk, by omega, h'⟩ c
      have hex : ∃ j, j < L.length ∧ j < L.length ∧ bad ((64 - p.toNat) * 2 ^ p.toNat) L j ≠ 0 := by
        apply Classical.byContradiction
        intro hn
        exact h fun j hj => Classical.byContradiction fun hb => hn ⟨j, hj, hj, hb⟩
      obtain ⟨i, h1, h2, h3⟩ := this _ hex
      exact ⟨_, Or.inr ⟨hp, Or.inl ⟨i, h1, h2, h3, rfl⟩⟩⟩
  · exact ⟨1, Or.inl ⟨hp, rfl⟩⟩
theorem rmay_is (ao : Option Addr) (b o cap : Nat) (p : Int) (L : List Cn) (hao : L ≠ [] → ao = some ⟨b, o, none⟩) (hW : Wc L) (hl : L.length ≤ 9223372036854775807) {x : Int} (hx : MayIs p L x) (w : World) (hR : RowC w b o L) :
    Calls Try.prog 12 #[.int .i64 p, .slice ao L.length cap] w fun e w' => e = .returned (.int .i64 x) ∧ ∃ n, w' = w.drewN n := by
  by_cases hp : 1 ≤ p ∧ p ≤ 14
  · obtain ⟨q, rfl⟩ := Int.eq_ofNat_of_zero_le (by omega : 0 ≤ p)
    refine (rmay_good ao b o cap q (by omega) (by omega) L hao hW hl w hR).mono ?_
    rintro e w' ⟨⟨y, rfl, hy⟩, hn⟩
    rw [hy.uniq hx]
    exact ⟨rfl, hn⟩
  · refine (rmay_bad (.slice ao L.length cap) p L hp w).mono ?_
    rintro e w' ⟨⟨y, rfl, hy⟩, hn⟩
    rw [hy.uniq hx]
    exact ⟨rfl, hn⟩
/-- The rank of a quantile. -/
def rkN (n num den : Nat) : Nat := max (if 0 < n * num % den then n * num / den + 1 else n * num / den) 1
abbrev twoU (a e : Int) : Ending := .returned (.tuple #[.int .u64 a, .int .i64 e])
theorem twoU_of {a b e : Int} (h : a = b) : twoU a e = twoU b e := by rw [h]
theorem rkN_le {n num den : Nat} (h1 : 1 ≤ n) (h2 : num ≤ den) (h3 : 1 ≤ den) : rkN n num den ≤ n ∧ n * num / den ≤ n ∧ (0 < n * num % den → n * num / den + 1 ≤ n) := by
  have hm : n * num ≤ n * den := Nat.mul_le_mul_left _ h2
  have hd := Nat.div_add_mod (n * num) den
  have hlt := Nat.mod_lt (n * num) (show den > 0 by omega)
  have a1 : n * num / den ≤ n := Nat.div_le_of_le_mul (by rw [Nat.mul_comm den]; exact hm)
  have a2 : 0 < n * num % den → n * num / den + 1 ≤ n := by
    intro h
    have : n * num / den < n := by
      rw [Nat.div_lt_iff_lt_mul (by omega)]
      rcases Nat.lt_or_ge (n * num) (n * den) with c | c
      · exact c
      · exfalso
        have e : n * num = n * den := by omega
        rw [e, Nat.mul_mod_left] at h
        omega
    omega
  refine ⟨?_, a1, a2⟩
  unfold rkN
  split
  · rename_i h; have := a2 h; omega
  · omega
set_option maxHeartbeats 1000000 in
theorem rrank_good (n num den : Nat) (h1 : 1 ≤ n) (hn : n < 18446744073709551616) (h2 : num ≤ den) (h3 : 1 ≤ den) (h4 : den < 9223372036854775808) (w : World) :
    Calls Try.prog 19 #[.int .u64 (n : Int), .int .i64 (num : Int), .int .i64 (den : Int)] w fun e w' => e = twoU (rkN n num den : Nat) 0 ∧ Below w.heap.size w w' := by
  have c1 : ¬ (den : Int) < 1 := by omega
  have c2 : ¬ (num : Int) < 0 := by omega
  have c3 : ¬ (den : Int) < (num : Int) := by omega
  have c4 : ((n : Int) == 0) = false := by rw [beq_eq_false_iff_ne]; omega
  obtain ⟨r1, r2, r3⟩ := rkN_le (n := n) h1 h2 h3
  have HM : Hid (∀ W, _) := refmul_any (n : Int) (num : Int) (by omega) (by omega) (by omega) (by omega)
  have hmul : (n : Int) * (num : Int) = ((n * num : Nat) : Int) := by rw [Int.natCast_mul]
  rw [hmul] at HM
  have hle : n * num < 18446744073709551616 * den := Nat.lt_of_le_of_lt (Nat.mul_le_mul_left _ h2) (Nat.mul_lt_mul_of_pos_right hn (by omega))
  have hhi : hiOf ((n * num : Nat) : Int) = ((n * num / 18446744073709551616 : Nat) : Int) := by unfold hiOf; omega
  have hlo : loOf ((n * num : Nat) : Int) = ((n * num % 18446744073709551616 : Nat) : Int) := by unfold loOf; omega
  have HD : Hid (∀ W, _) := refdiv_w (n * num / 18446744073709551616) (n * num % 18446744073709551616) den (by omega) (by rw [Nat.div_lt_iff_lt_mul (by decide)]; omega) (by omega)
  rw [show n * num / 18446744073709551616 * 18446744073709551616 + n * num % 18446744073709551616 = n * num by omega] at HD
  rw [hhi, hlo] at HM
  unfold rkN at *
  clear hmul hle hhi hlo
  generalize n * num / 18446744073709551616 = H at *
  generalize n * num % 18446744073709551616 = l at *
  generalize n * num / den = q at *
  generalize n * num % den = r at *
  by_cases hr : 0 < r
  · have c5 : (0 : Int) < (r : Int) := by omega
    have hw : IntKind.u64.wrap ((q : Int) + 1) = ((q + 1 : Nat) : Int) := by have := r3 hr; rw [IntKind.wrap_u64]; omega
    rw [if_pos hr]
    have hmax : max ((q + 1 : Nat) : Int) 1 = ((max (q + 1) 1 : Nat) : Int) := by omega
    go_enter Try.func19, Try.ntmps19
    go_wp2_with (first
      | (go_at_call 42; with_reducible refine (HM.out _).mono ?_; rintro e w1 ⟨rfl, rfl⟩)
      | (go_at_call 43; with_reducible refine (HD.out _).mono ?_; rintro e w2 ⟨rfl, rfl⟩))
    go_ret2
    exact ⟨twoU_of (by omega), Below.refl _ _⟩
  · have c5 : ¬ (0 : Int) < (r : Int) := by omega
    rw [if_neg hr]
    by_cases hq : q = 0
    · subst hq
      go_enter Try.func19, Try.ntmps19
      go_wp2_with (first
        | (go_at_call 42; with_reducible refine (HM.out _).mono ?_; rintro e w1 ⟨rfl, rfl⟩)
        | (go_at_call 43; with_reducible refine (HD.out _).mono ?_; rintro e w2 ⟨rfl, rfl⟩))
      go_ret2
      exact ⟨twoU_of (by omega), Below.refl _ _⟩
    · have c6 : (1 : Int) ≤ (q : Int) := by omega
      go_enter Try.func19, Try.ntmps19
      go_wp2_with (first
        | (go_at_call 42; with_reducible refine (HM.out _).mono ?_; rintro e w1 ⟨rfl, rfl⟩)
        | (go_at_call 43; with_reducible refine (HD.out _).mono ?_; rintro e w2 ⟨rfl, rfl⟩))
      go_ret2
      exact ⟨twoU_of (by omega), Below.refl _ _⟩
theorem rrank_arg (n : Nat) (num den : Int) (h : ¬ (1 ≤ den ∧ 0 ≤ num ∧ num ≤ den)) (w : World) :
    Calls Try.prog 19 #[.int .u64 (n : Int), .int .i64 num, .int .i64 den] w fun e w' => e = twoU 0 1 ∧ Below w.heap.size w w' := by
  by_cases c1 : den < 1
  · clear h
    go_enter Try.func19, Try.ntmps19
    go_wp2_with fail
    go_ret2
    exact ⟨rfl, Below.refl _ _⟩
  · by_cases c2 : num < 0
    · clear h
      go_enter Try.func19, Try.ntmps19
      go_wp2_with fail
      go_ret2
      exact ⟨rfl, Below.refl _ _⟩
    · have c3 : den < num := by omega
      clear h
      go_enter Try.func19, Try.ntmps19
      go_wp2_with fail
      go_ret2
      exact ⟨rfl, Below.refl _ _⟩
theorem rrank_none (num den : Nat) (h2 : num ≤ den) (h3 : 1 ≤ den) (w : World) :
    Calls Try.prog 19 #[.int .u64 0, .int .i64 (num : Int), .int .i64 (den : Int)] w fun e w' => e = twoU 0 16 ∧ Below w.heap.size w w' := by
  have c1 : ¬ (den : Int) < 1 := by omega
  have c2 : ¬ (num : Int) < 0 := by omega
  have c3 : ¬ (den : Int) < (num : Int) := by omega
  go_enter Try.func19, Try.ntmps19
  go_wp2_with fail
  go_ret2
  exact ⟨rfl, Below.refl _ _⟩
/-- What the document's Rank tells. -/
def rkF (n : Nat) (num den : Int) : Nat × Int := if 1 ≤ den ∧ 0 ≤ num ∧ num ≤ den then (if n = 0 then (0, 16) else (rkN n num.toNat den.toNat, 0)) else (0, 1)
theorem rrank_any (n : Nat) (num den : Int) (hn : n < 18446744073709551616) (hd : den < 9223372036854775808) (w : World) :
    Calls Try.prog 19 #[.int .u64 (n : Int), .int .i64 num, .int .i64 den] w fun e w' => e = twoU (rkF n num den).1 (rkF n num den).2 ∧ Below w.heap.size w w' := by
  unfold rkF
  by_cases h : 1 ≤ den ∧ 0 ≤ num ∧ num ≤ den
  · rw [if_pos h]
    obtain ⟨D, rfl⟩ := Int.eq_ofNat_of_zero_le (by omega : 0 ≤ den)
    obtain ⟨M, rfl⟩ := Int.eq_ofNat_of_zero_le h.2.1
    by_cases h0 : n = 0
    · rw [if_pos h0]
      subst h0
      exact rrank_none M D (by omega) (by omega) w
    · rw [if_neg h0]
      exact rrank_good n M D (by omega) hn (by omega) (by omega) (by omega) w
  · rw [if_neg h]
    exact rrank_arg n num den h w
end Go.Proofs.Ythhoklgfgandpaa
