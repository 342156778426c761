/- THE DOCUMENT's calls of bucket. Own work of the verifier. -/
import Derived.Test.YthhoklgfgandpaaL2
namespace Go.Proofs.Ythhoklgfgandpaa
open Go.RowKit

theorem sh_pos {v e : Nat} (hv : 1 ≤ v / 2 ^ e) (h : v < 9223372036854775808) : e ≤ 62 := by
  have b1 : 1 * 2 ^ e ≤ v := (Nat.le_div_iff_mul_le (Nat.two_pow_pos _)).1 hv
  have b2 : 2 ^ e < 2 ^ 63 := by have : (2 : Nat) ^ 63 = 9223372036854775808 := by decide
                                 rw [this]; omega
  have := (Nat.pow_lt_pow_iff_right (by decide)).1 b2
  omega
theorem rindex_yes (p v : Nat) (h1 : 1 ≤ p) (h2 : p ≤ 14) (hv : v < 9223372036854775808) (w : World) :
    Calls Try.prog 46 #[.int .i64 (p : Int), .int .i64 (v : Int)] w fun e w' => (∃ n, w' = w.drewN n) ∧ ∃ k : Nat, IsK (2 ^ p) v k ∧ e = two (idx (2 ^ p) v k : Nat) 0 := by
  have c1 : (0 : Int) ≤ (p : Int) := by omega
  have c2 : ¬ (v : Int) < 0 := by omega
  have HP : Hid (∀ W, _) := prr_yes p h1 h2
  have hw := wrap_pow p (by omega)
  by_cases hlt : v < 2 ^ p
  · have hl : (v : Int) < ((2 ^ p : Nat) : Int) := by exact_mod_cast hlt
    have hk : Hid (IsK (2 ^ p) v 0) := isK_zero hlt
    clear hlt
    generalize ha : 2 ^ p = P at *
    go_enter Try.func46, Try.ntmps46
    go_wp2_with (go_at_call 52; with_reducible refine (HP.out _).mono ?_; rintro e w1 ⟨rfl, rfl⟩)
    go_ret2
    refine ⟨⟨0, rfl⟩, 0, hk.out, two_of ?_⟩
    unfold idx
    simp
  · have hl : ¬ (v : Int) < ((2 ^ p : Nat) : Int) := by intro h; exact hlt (by exact_mod_cast h)
    have hge : Hid (2 ^ p ≤ v) := Nat.le_of_not_lt hlt
    have hv0 : 1 ≤ v / 2 ^ 0 := by have := hge.out; have := Nat.two_pow_pos p; rw [Nat.pow_zero, Nat.div_one]; omega
    clear hlt
    generalize ha : 2 ^ p = P at hl hw
    go_enter Try.func46, Try.ntmps46
    go_wp2_with (go_at_call 52; with_reducible refine (HP.out _).mono ?_; rintro e w1 ⟨rfl, rfl⟩)
    go_loopw [6] (fun a wr => ∃ n e : Nat, a = .int .i64 (e : Int) ∧ wr = w1.drewN n ∧ Hid (1 ≤ v / 2 ^ e)) (fun a _ => 64 - (intOf a).toNat)
    case atStart => exact ⟨0, 0, rfl, rfl, hv0⟩
    case round =>
      obtain ⟨n, e, rfl, rfl, he⟩ := hrel
      have hb : e ≤ 62 := sh_pos he.out hv
      have c5 : (0 : Int) ≤ (e : Int) := by omega
      by_cases ht : 1 < v / 2 ^ e
      · have hti : (1 : Int) < (v : Int) / 2 ^ e := by rw [div_pow]; omega
        have hn : Hid (1 ≤ v / 2 ^ (e + 1)) := by unfold Hid; rw [div_half]; omega
        clear ht
        go_wp2_with fail
        exact ⟨⟨n, e + 1, rfl, rfl, hn⟩, by simp [intOf]; omega⟩
      · have hti : ¬ (1 : Int) < (v : Int) / 2 ^ e := by rw [div_pow]; omega
        obtain ⟨hpe, hK⟩ := isK_exp (by omega : v / 2 ^ e ≤ 1) he.out hge.out
        obtain ⟨a1, a2, a3⟩ := idx_lt h2 hv hK
        have hK' : Hid (IsK (2 ^ p) v (e - p)) := hK
        have hA : Hid _ := And.intro a2 a3
        have hE : Hid ((e : Int) - (p : Int) = ((e - p : Nat) : Int)) := by unfold Hid; omega
        have c6 : (0 : Int) ≤ (e : Int) - (p : Int) := by omega
        clear hK a2 a3 ht
        go_wp2_with fail
        go_region
        go_wp2_with fail
        go_ret2
        subst ha
        refine ⟨⟨n + 1, rfl⟩, e - p, hK'.out, two_of ?_⟩
        obtain ⟨a2, a3⟩ := hA.out
        rw [hE.out, wrap_nat (Int.natCast_mul _ _).symm a2, div_pow]
        unfold idx
        exact add_nat (Nat.lt_of_lt_of_le a3 (by decide))
theorem rindex_neg (p : Nat) (v : Int) (h1 : 1 ≤ p) (h2 : p ≤ 14) (hv : v < 0) (w : World) :
    Calls Try.prog 46 #[.int .i64 (p : Int), .int .i64 v] w fun e w' => (∃ n, w' = w.drewN n) ∧ e = two 0 2 := by
  have HP : Hid (∀ W, _) := prr_yes p h1 h2
  go_enter Try.func46, Try.ntmps46
  go_wp2_with (go_at_call 52; with_reducible refine (HP.out _).mono ?_; rintro e w1 ⟨rfl, rfl⟩)
  go_ret2
  exact ⟨⟨0, rfl⟩, rfl⟩
theorem rindex_arg (p v : Int) (h : ¬ (1 ≤ p ∧ p ≤ 14)) (w : World) :
    Calls Try.prog 46 #[.int .i64 p, .int .i64 v] w fun e w' => (∃ n, w' = w.drewN n) ∧ e = two 0 1 := by
  have HP : Hid (∀ W, _) := prr_no p h
  clear h
  go_enter Try.func46, Try.ntmps46
  go_wp2_with (go_at_call 52; with_reducible refine (HP.out _).mono ?_; rintro e w1 ⟨rfl, rfl⟩)
  go_ret2
  exact ⟨⟨0, rfl⟩, rfl⟩
/-- What the document's lower end is reckoned of. -/
theorem rends (p i : Nat) (h2 : p ≤ 14) (hi : i < (64 - p) * 2 ^ p) : (i < 2 ^ p ∧ lo (2 ^ p) i = i) ∨ (2 ^ p ≤ i ∧ ∃ q k K r l : Nat, k ≤ 62 ∧ l = lo (2 ^ p) i ∧ (i : Int) / ((2 ^ p : Nat) : Int) = (q : Int) ∧ wrap64 (q : Int) = (q : Int) ∧ wrap64 ((q : Int) - 1) = (k : Int) ∧ wrap64 ((k : Int) * ((2 ^ p : Nat) : Int)) = (K : Int) ∧ wrap64 ((i : Int) - (K : Int)) = (r : Int) ∧ wrap64 ((r : Int) * 2 ^ k) = (l : Int)) := by
  rcases Nat.lt_or_ge i (2 ^ p) with c | c
  · refine Or.inl ⟨c, ?_⟩
    unfold lo rr kk
    rw [Nat.div_eq_of_lt c]
    simp
  · refine Or.inr ⟨c, ?_⟩
    have hkt := kk_top hi h2
    have hlo := hi_top hi h2
    obtain ⟨r1, r2, r3⟩ := rr_lt i (Nat.two_pow_pos p)
    have hile := len_le p h2
    have hp := Nat.two_pow_pos (kk (2 ^ p) i)
    have e63 : (2 : Nat) ^ 63 = 9223372036854775808 := by decide
    rw [e63] at hlo
    have hii : i < 9223372036854775808 := by
      generalize (64 - p) * 2 ^ p = z at *
      omega
    have hK : kk (2 ^ p) i * 2 ^ p ≤ i := by
      generalize kk (2 ^ p) i * 2 ^ p = z at *
      omega
    refine ⟨i / 2 ^ p, kk (2 ^ p) i, kk (2 ^ p) i * 2 ^ p, rr (2 ^ p) i, lo (2 ^ p) i, by omega, rfl, by rw [← Int.natCast_ediv], wrap_nat rfl (Nat.lt_of_le_of_lt (Nat.div_le_self _ _) hii), ?_, ?_, ?_, ?_⟩
    · exact sub_one (Nat.div_pos c (Nat.two_pow_pos p)) (Nat.lt_of_le_of_lt (Nat.div_le_self _ _) hii)
    · exact wrap_nat (Int.natCast_mul _ _).symm (Nat.lt_of_le_of_lt hK hii)
    · exact sub_nat hK hii
    · refine mul_pow ?_
      change lo (2 ^ p) i < _
      generalize lo (2 ^ p) i = z at *
      generalize 2 ^ kk (2 ^ p) i = y at *
      omega
theorem rlow_yes (p i : Nat) (h1 : 1 ≤ p) (h2 : p ≤ 14) (hi : i < (64 - p) * 2 ^ p) (w : World) :
    Calls Try.prog 60 #[.int .i64 (p : Int), .int .i64 (i : Int)] w fun e w' => (∃ n, w' = w.drewN n) ∧ e = two (lo (2 ^ p) i : Nat) 0 := by
  have c1 : (0 : Int) ≤ (p : Int) := by omega
  have c2 : ¬ (i : Int) < 0 := by omega
  have c3 : ¬ (((64 - p) * 2 ^ p : Nat) : Int) ≤ (i : Int) := by omega
  have HP : Hid (∀ W, _) := prr_yes p h1 h2
  have HL : Hid (∀ W, _) := rlen_yes p h1 h2
  have hw := wrap_pow p (by omega)
  have hP := Nat.two_pow_pos p
  rcases rends p i h2 hi with ⟨hlt, hl⟩ | ⟨hge, q, k, K, r, l, hk, hl, e0, e00, e1, e2, e3, e4⟩
  · rw [hl]
    have hlt' : (i : Int) < ((2 ^ p : Nat) : Int) := by exact_mod_cast hlt
    clear hi hl hlt
    generalize (64 - p) * 2 ^ p = n at *
    generalize ha : 2 ^ p = P at *
    go_enter Try.func60, Try.ntmps60
    go_wp2_with (first
      | (go_at_call 52; with_reducible refine (HP.out _).mono ?_; rintro e w1 ⟨rfl, rfl⟩)
      | (go_at_call 33; with_reducible refine (HL.out _).mono ?_; rintro e w1 ⟨rfl, rfl⟩))
    go_ret2
    exact ⟨⟨0, rfl⟩, rfl⟩
  · rw [← hl]
    have hge' : ¬ (i : Int) < ((2 ^ p : Nat) : Int) := by intro h; exact absurd (show i < 2 ^ p by exact_mod_cast h) (by omega)
    have hk0 : (0 : Int) ≤ (k : Int) := by omega
    have hP' : ¬ ((2 ^ p : Nat) : Int) = 0 := by omega
    have hP0 : (0 : Int) ≤ ((2 ^ p : Nat) : Int) := by omega
    have e1' : wrap64 (wrap64 (q : Int) - 1) = (k : Int) := by rw [e00, e1]
    have E2 : Hid _ := e2
    have E3 : Hid _ := e3
    have E4 : Hid _ := e4
    clear hi hl hge hP e00 e1 e2 e3 e4
    generalize (64 - p) * 2 ^ p = n at *
    generalize 2 ^ p = P at hge' hP' hP0 e0 E2 hw
    go_enter Try.func60, Try.ntmps60
    go_wp2_with (first
      | (go_at_call 52; with_reducible refine (HP.out _).mono ?_; rintro e w1 ⟨rfl, rfl⟩)
      | (go_at_call 33; with_reducible refine (HL.out _).mono ?_; rintro e w1 ⟨rfl, rfl⟩))
    go_ret2
    exact ⟨⟨0, rfl⟩, two_of (by rw [E2.out, E3.out, E4.out])⟩
theorem rlow_range (p : Nat) (i : Int) (h1 : 1 ≤ p) (h2 : p ≤ 14) (hi : ¬ (0 ≤ i ∧ i < (((64 - p) * 2 ^ p : Nat) : Int))) (w : World) :
    Calls Try.prog 60 #[.int .i64 (p : Int), .int .i64 i] w fun e w' => (∃ n, w' = w.drewN n) ∧ e = two 0 2 := by
  have HP : Hid (∀ W, _) := prr_yes p h1 h2
  have HL : Hid (∀ W, _) := rlen_yes p h1 h2
  generalize (64 - p) * 2 ^ p = n at *
  by_cases c : i < 0
  · clear hi
    go_enter Try.func60, Try.ntmps60
    go_wp2_with (first
      | (go_at_call 52; with_reducible refine (HP.out _).mono ?_; rintro e w1 ⟨rfl, rfl⟩)
      | (go_at_call 33; with_reducible refine (HL.out _).mono ?_; rintro e w1 ⟨rfl, rfl⟩))
    go_ret2
    exact ⟨⟨0, rfl⟩, rfl⟩
  · have d : (n : Int) ≤ i := by omega
    clear hi
    go_enter Try.func60, Try.ntmps60
    go_wp2_with (first
      | (go_at_call 52; with_reducible refine (HP.out _).mono ?_; rintro e w1 ⟨rfl, rfl⟩)
      | (go_at_call 33; with_reducible refine (HL.out _).mono ?_; rintro e w1 ⟨rfl, rfl⟩))
    go_ret2
    exact ⟨⟨0, rfl⟩, rfl⟩
theorem rlow_arg (p i : Int) (h : ¬ (1 ≤ p ∧ p ≤ 14)) (w : World) :
    Calls Try.prog 60 #[.int .i64 p, .int .i64 i] w fun e w' => (∃ n, w' = w.drewN n) ∧ e = two 0 1 := by
  have HP : Hid (∀ W, _) := prr_no p h
  clear h
  go_enter Try.func60, Try.ntmps60
  go_wp2_with (go_at_call 52; with_reducible refine (HP.out _).mono ?_; rintro e w1 ⟨rfl, rfl⟩)
  go_ret2
  exact ⟨⟨0, rfl⟩, rfl⟩
theorem rhigh_not {p i a : Int} (ha : (a != 0) = true) (H : ∀ W, Calls Try.prog 60 #[.int .i64 p, .int .i64 i] W fun e w' => (∃ n, w' = W.drewN n) ∧ e = two 0 a) (w : World) :
    Calls Try.prog 45 #[.int .i64 p, .int .i64 i] w fun e w' => (∃ n, w' = w.drewN n) ∧ e = two 0 a := by
  have HP : Hid _ := H
  clear H
  go_enter Try.func45, Try.ntmps45
  go_wp2_with (go_at_call 60; with_reducible refine (HP.out _).mono ?_; rintro e w1 ⟨⟨n1, rfl⟩, rfl⟩)
  go_ret2
  exact ⟨⟨n1, rfl⟩, rfl⟩
theorem rhigh_yes (p i : Nat) (h1 : 1 ≤ p) (h2 : p ≤ 14) (hi : i < (64 - p) * 2 ^ p) (w : World) :
    Calls Try.prog 45 #[.int .i64 (p : Int), .int .i64 (i : Int)] w fun e w' => (∃ n, w' = w.drewN n) ∧ e = two ((lo (2 ^ p) i + 2 ^ kk (2 ^ p) i - 1 : Nat) : Int) 0 := by
  have HP : Hid (∀ W, _) := rlow_yes p i h1 h2 hi
  have HL : Hid (∀ W, _) := rlen_yes p h1 h2
  have hll := len_le p h2
  have e63 : (2 : Nat) ^ 63 = 9223372036854775808 := by decide
  by_cases hlast : i + 1 = (64 - p) * 2 ^ p
  · have hv : lo (2 ^ p) i + 2 ^ kk (2 ^ p) i - 1 = 9223372036854775807 := by
      have := hi_last h2
      rw [← hlast, Nat.add_sub_cancel, e63] at this
      generalize lo (2 ^ p) i + 2 ^ kk (2 ^ p) i = z at *
      omega
    rw [hv]
    have hw1 : wrap64 ((i : Int) + 1) = ((i + 1 : Nat) : Int) := by unfold wrap64; generalize (64 - p) * 2 ^ p = n at *; omega
    have ht : (((i + 1 : Nat) : Int) == (((64 - p) * 2 ^ p : Nat) : Int)) = true := by rw [beq_iff_eq]; omega
    generalize hj : i + 1 = j at *
    clear hi hlast hv e63 hj
    generalize (64 - p) * 2 ^ p = n at *
    generalize lo (2 ^ p) i = l at *
    go_enter Try.func45, Try.ntmps45
    go_wp2_with (first
      | (go_at_call 60; with_reducible refine (HP.out _).mono ?_; rintro e w1 ⟨⟨n1, rfl⟩, rfl⟩)
      | (go_at_call 33; with_reducible refine (HL.out _).mono ?_; rintro e w1 ⟨rfl, rfl⟩))
    go_ret2
    exact ⟨⟨n1, rfl⟩, rfl⟩
  · have hi' : i + 1 < (64 - p) * 2 ^ p := by omega
    have HN : Hid (∀ W, _) := rlow_yes p (i + 1) h1 h2 hi'
    have hb := hi_top hi h2
    rw [lo_next i (Nat.two_pow_pos p)] at HN
    have hp := Nat.two_pow_pos (kk (2 ^ p) i)
    rw [e63] at hb
    have hw1 : wrap64 ((i : Int) + 1) = ((i + 1 : Nat) : Int) := by unfold wrap64; generalize (64 - p) * 2 ^ p = n at *; omega
    have ht : (((i + 1 : Nat) : Int) == (((64 - p) * 2 ^ p : Nat) : Int)) = false := by rw [beq_eq_false_iff_ne]; omega
    generalize hj : i + 1 = j at *
    clear hi hlast hi' e63 hj
    generalize (64 - p) * 2 ^ p = n at *
    generalize 2 ^ kk (2 ^ p) i = t at *
    generalize lo (2 ^ p) i = l at *
    have hc : ¬ ((l + t : Nat) : Int) ≤ (l : Int) := by omega
    have hs : wrap64 (((l + t : Nat) : Int) - 1) = ((l + t - 1 : Nat) : Int) := by
      unfold wrap64; omega
    generalize l + t = s at *
    generalize s - 1 = s1 at *
    go_enter Try.func45, Try.ntmps45
    go_wp2_with (first
      | (go_at_call 60; (first | (with_reducible refine (HP.out _).mono ?_) | (with_reducible refine (HN.out _).mono ?_)); rintro e w1 ⟨⟨n1, rfl⟩, rfl⟩)
      | (go_at_call 33; with_reducible refine (HL.out _).mono ?_; rintro e w2 ⟨rfl, rfl⟩))
    go_ret2
    exact ⟨⟨_, rfl⟩, two_of (by unfold wrap64 at hs; omega)⟩
end Go.Proofs.Ythhoklgfgandpaa
