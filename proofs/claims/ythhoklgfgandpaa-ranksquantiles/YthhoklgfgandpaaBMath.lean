/- Buckets, in whole numbers. Own work of the verifier. -/
import Derived.Handy
namespace Go.Proofs.Ythhoklgfgandpaa

/-- How many low bits the bucket of v does not look at, P being the least value beyond the first group. -/
def IsK (P v k : Nat) : Prop := v / 2 ^ (k + 1) < P ∧ (k = 0 ∨ P ≤ v / 2 ^ k)
def idx (P v k : Nat) : Nat := k * P + v / 2 ^ k
def kk (P i : Nat) : Nat := i / P - 1
def rr (P i : Nat) : Nat := i - kk P i * P
def lo (P i : Nat) : Nat := rr P i * 2 ^ kk P i

theorem div_half (v k : Nat) : v / 2 ^ (k + 1) = v / 2 ^ k / 2 := by rw [Nat.pow_succ, Nat.div_div_eq_div_mul]
theorem IsK.two {P v k : Nat} (h : IsK P v k) : v / 2 ^ k < 2 * P := by
  have := h.1
  rw [div_half] at this
  omega
theorem isK_mono {P v w k k' : Nat} (h : IsK P v k) (h' : IsK P w k') (hl : v ≤ w) : k ≤ k' := by
  rcases Nat.lt_or_ge k' k with c | c
  · rcases h.2 with e | e
    · omega
    · have a1 : v / 2 ^ k ≤ w / 2 ^ k := Nat.div_le_div_right hl
      have a2 : w / 2 ^ k ≤ w / 2 ^ (k' + 1) := Nat.div_le_div_left (Nat.pow_le_pow_right (by decide) c) (Nat.two_pow_pos _)
      have := h'.1
      omega
  · exact c
theorem isK_uniq {P v k k' : Nat} (h : IsK P v k) (h' : IsK P v k') : k = k' := Nat.le_antisymm (isK_mono h h' (Nat.le_refl _)) (isK_mono h' h (Nat.le_refl _))
theorem idx_mono {P v w k k' : Nat} (h : IsK P v k) (h' : IsK P w k') (hl : v ≤ w) : idx P v k ≤ idx P w k' := by
  unfold idx
  rcases Nat.lt_or_ge k k' with c | c
  · have h2 := h.two
    have h3 : P ≤ w / 2 ^ k' := by rcases h'.2 with e | e; omega; exact e
    have h4 : (k + 1) * P ≤ k' * P := Nat.mul_le_mul_right _ c
    rw [Nat.add_mul] at h4
    omega
  · have := isK_mono h h' hl
    have e : k = k' := by omega
    subst e
    exact Nat.add_le_add_left (Nat.div_le_div_right hl) _
theorem kk_idx {P v k : Nat} (h : IsK P v k) : kk P (idx P v k) = k := by
  have hP : 0 < P := Nat.lt_of_le_of_lt (Nat.zero_le _) h.1
  have h2 := h.two
  unfold kk idx
  rcases Nat.eq_zero_or_pos k with e | e
  · subst e
    rw [Nat.zero_mul, Nat.zero_add]
    have : v / 2 ^ 0 / P < 2 := Nat.div_lt_of_lt_mul (by omega)
    omega
  · have h3 : P ≤ v / 2 ^ k := by rcases h.2 with e | e; omega; exact e
    rw [Nat.mul_comm, Nat.mul_add_div hP]
    have : v / 2 ^ k / P = 1 := by
      apply Nat.div_eq_of_lt_le <;> omega
    omega
theorem rr_idx {P v k : Nat} (h : IsK P v k) : rr P (idx P v k) = v / 2 ^ k := by
  unfold rr
  rw [kk_idx h]
  unfold idx
  exact Nat.add_sub_cancel_left _ _
theorem lo_idx {P v k : Nat} (h : IsK P v k) : lo P (idx P v k) = v / 2 ^ k * 2 ^ k := by unfold lo; rw [rr_idx h, kk_idx h]
theorem rr_lt {P : Nat} (i : Nat) (hP : 0 < P) : rr P i < 2 * P ∧ (kk P i = 0 ∨ P ≤ rr P i) ∧ kk P i * P + rr P i = i := by
  unfold rr kk
  have hm := Nat.div_add_mod i P
  have hl := Nat.mod_lt i hP
  rw [Nat.mul_comm] at hm
  generalize hq : i / P = q at *
  rcases Nat.eq_zero_or_pos q with e | e
  · subst e
    simp at hm ⊢
    omega
  · obtain ⟨q', rfl⟩ : ∃ q', q = q' + 1 := ⟨q - 1, by omega⟩
    rw [Nat.add_mul] at hm
    simp only [Nat.add_sub_cancel]
    omega
/-- Whatever lies between the ends. -/
theorem between {P i x : Nat} (hP : 0 < P) (h1 : lo P i ≤ x) (h2 : x < lo P i + 2 ^ kk P i) : IsK P x (kk P i) ∧ idx P x (kk P i) = i := by
  obtain ⟨a1, a2, a3⟩ := rr_lt i hP
  have e : x / 2 ^ kk P i = rr P i := by
    unfold lo at h1 h2
    apply Nat.div_eq_of_lt_le h1
    rw [Nat.add_mul, Nat.one_mul]
    exact h2
  refine ⟨⟨?_, ?_⟩, ?_⟩
  · rw [div_half, e]; omega
  · rw [e]; exact a2
  · unfold idx; rw [e, a3]
theorem lo_le {P v k : Nat} (h : IsK P v k) : lo P (idx P v k) ≤ v ∧ v < lo P (idx P v k) + 2 ^ k := by
  rw [lo_idx h]
  have hm := Nat.div_add_mod v (2 ^ k)
  have hl := Nat.mod_lt v (Nat.two_pow_pos k)
  rw [Nat.mul_comm] at hm
  omega
theorem lo_next {P : Nat} (i : Nat) (hP : 0 < P) : lo P (i + 1) = lo P i + 2 ^ kk P i := by
  unfold lo rr kk
  have hm := Nat.div_add_mod i P
  have hl := Nat.mod_lt i hP
  rw [Nat.mul_comm] at hm
  rcases Nat.lt_or_ge (i % P + 1) P with c | c
  · have e : (i + 1) / P = i / P := by
      apply Nat.div_eq_of_lt_le
      · omega
      · rw [Nat.add_mul]; omega
    rw [e]
    generalize hq : i / P = q at *
    have hle : (q - 1) * P ≤ i := by
      have : (q - 1) * P ≤ q * P := Nat.mul_le_mul_right _ (by omega)
      omega
    have : i + 1 - (q - 1) * P = i - (q - 1) * P + 1 := by omega
    rw [this, Nat.add_mul, Nat.one_mul]
  · have e : (i + 1) / P = i / P + 1 := by
      apply Nat.div_eq_of_lt_le
      · rw [Nat.add_mul]; omega
      · rw [Nat.add_mul, Nat.add_mul]; omega
    rw [e]
    generalize hq : i / P = q at *
    rcases Nat.eq_zero_or_pos q with z | z
    · subst z; simp at *
    · obtain ⟨q', rfl⟩ : ∃ q', q = q' + 1 := ⟨q - 1, by omega⟩
      simp only [Nat.add_sub_cancel]
      rw [Nat.add_mul] at hm
      have e1 : i + 1 - (q' + 1) * P = P := by rw [Nat.add_mul]; omega
      have e2 : i - q' * P = 2 * P - 1 := by omega
      rw [e1, e2, Nat.pow_succ, ← Nat.mul_assoc, Nat.mul_comm, ← Nat.mul_assoc]
      have : 2 * P * 2 ^ q' = (2 * P - 1 + 1) * 2 ^ q' := by rw [Nat.sub_add_cancel (by omega)]
      rw [this, Nat.add_mul, Nat.one_mul]
theorem kk_top {p i : Nat} (h : i < (64 - p) * 2 ^ p) (hp : p ≤ 14) : kk (2 ^ p) i + p ≤ 62 := by
  have : i / 2 ^ p < 64 - p := Nat.div_lt_of_lt_mul (by rw [Nat.mul_comm]; exact h)
  unfold kk
  omega
theorem hi_top {p i : Nat} (h : i < (64 - p) * 2 ^ p) (hp : p ≤ 14) : lo (2 ^ p) i + 2 ^ kk (2 ^ p) i ≤ 2 ^ 63 := by
  obtain ⟨a1, _, _⟩ := rr_lt i (Nat.two_pow_pos p)
  have hk := kk_top h hp
  unfold lo
  generalize kk (2 ^ p) i = k at *
  have e : (rr (2 ^ p) i + 1) * 2 ^ k ≤ (2 * 2 ^ p) * 2 ^ k := Nat.mul_le_mul_right _ a1
  have e2 : 2 * 2 ^ p * 2 ^ k = 2 ^ (1 + p + k) := by rw [Nat.pow_add, Nat.pow_add]
  have e3 : 2 ^ (1 + p + k) ≤ 2 ^ 63 := Nat.pow_le_pow_right (by decide) (by omega)
  rw [Nat.add_mul, Nat.one_mul] at e
  omega
theorem hi_last {p : Nat} (hp : p ≤ 14) : lo (2 ^ p) ((64 - p) * 2 ^ p - 1) + 2 ^ kk (2 ^ p) ((64 - p) * 2 ^ p - 1) = 2 ^ 63 := by
  have hP := Nat.two_pow_pos p
  have h0 : 0 < (64 - p) * 2 ^ p := Nat.mul_pos (by omega) hP
  rw [← lo_next _ hP, Nat.sub_add_cancel h0]
  unfold lo rr kk
  rw [Nat.mul_div_cancel _ hP, ← Nat.sub_mul, show 64 - p - (64 - p - 1) = 1 by omega, Nat.one_mul, ← Nat.pow_add]
  congr 1
  omega
theorem lo_first (P : Nat) : lo P 0 = 0 := by unfold lo rr kk; simp
theorem idx_top {p v k : Nat} (hp : p ≤ 14) (hv : v < 2 ^ 63) (h : IsK (2 ^ p) v k) : idx (2 ^ p) v k < (64 - p) * 2 ^ p ∧ k ≤ 62 := by
  have h2 := h.two
  unfold idx
  have hP := Nat.two_pow_pos p
  have hk : k + p ≤ 62 := by
    rcases h.2 with e | e
    · omega
    · have a1 : 2 ^ p * 2 ^ k ≤ v := (Nat.le_div_iff_mul_le (Nat.two_pow_pos _)).1 e
      rw [← Nat.pow_add] at a1
      have a2 : 2 ^ (p + k) < 2 ^ 63 := by omega
      have := (Nat.pow_lt_pow_iff_right (by decide)).1 a2
      omega
  have a3 : (k + 2) * 2 ^ p ≤ (64 - p) * 2 ^ p := Nat.mul_le_mul_right _ (by omega)
  rw [Nat.add_mul] at a3
  omega
theorem wide_ok {P v k : Nat} (h : IsK P v k) : lo P (idx P v k) + 2 ^ k - 1 - v ≤ v / P := by
  have hP : 0 < P := Nat.lt_of_le_of_lt (Nat.zero_le _) h.1
  obtain ⟨a1, a2⟩ := lo_le h
  rcases h.2 with e | e
  · subst e
    simp at a1 a2
    have : lo P (idx P v 0) + 2 ^ 0 - 1 - v = 0 := by simp; omega
    rw [this]
    exact Nat.zero_le _
  · have b1 : P * 2 ^ k ≤ v := (Nat.le_div_iff_mul_le (Nat.two_pow_pos _)).1 e
    have b2 : 2 ^ k ≤ v / P := by rw [Nat.le_div_iff_mul_le hP, Nat.mul_comm]; exact b1
    omega
/-- The document's way: the exponent. -/
theorem isK_exp {p v e : Nat} (h1 : v / 2 ^ e ≤ 1) (h2 : 1 ≤ v / 2 ^ e) (h : 2 ^ p ≤ v) : p ≤ e ∧ IsK (2 ^ p) v (e - p) := by
  have b1 : 1 * 2 ^ e ≤ v := (Nat.le_div_iff_mul_le (Nat.two_pow_pos _)).1 h2
  have b2 : v < 2 * 2 ^ e := (Nat.div_lt_iff_lt_mul (Nat.two_pow_pos _)).1 (by omega)
  rw [Nat.mul_comm, ← Nat.pow_succ] at b2
  have b3 : 2 ^ p < 2 ^ (e + 1) := by omega
  have b4 := (Nat.pow_lt_pow_iff_right (by decide)).1 b3
  have hpe : p ≤ e := by omega
  refine ⟨hpe, ?_, Or.inr ?_⟩
  · rw [Nat.div_lt_iff_lt_mul (Nat.two_pow_pos _), ← Nat.pow_add, show p + (e - p + 1) = e + 1 by omega]
    exact b2
  · rw [Nat.le_div_iff_mul_le (Nat.two_pow_pos _), ← Nat.pow_add, show p + (e - p) = e by omega]
    omega
theorem isK_ex (P v : Nat) (hP : 0 < P) : ∃ k, IsK P v k := by
  rcases Nat.lt_or_ge v P with c | c
  · exact ⟨0, by rw [div_half]; simp; omega, Or.inl rfl⟩
  · have hex : ∃ k, v / 2 ^ (k + 1) < P := ⟨v, by
      have : v < 2 ^ (v + 1) := Nat.lt_of_lt_of_le Nat.lt_two_pow_self (Nat.pow_le_pow_right (by decide) (by omega))
      rw [Nat.div_eq_of_lt this]
      exact hP⟩
    clear c
    obtain ⟨n, hn⟩ := hex
    induction n with
    | zero => exact ⟨0, hn, Or.inl rfl⟩
    | succ n ih =>
      rcases Nat.lt_or_ge (v / 2 ^ (n + 1)) P with d | d
      · exact ih d
      · exact ⟨n + 1, hn, Or.inr d⟩
theorem isK_zero {P v : Nat} (h : v < P) : IsK P v 0 := ⟨by rw [div_half]; simp; omega, Or.inl rfl⟩
/-- In just one bucket. -/
theorem idx_same {P v w k k' : Nat} (h : IsK P v k) (h' : IsK P w k') : idx P v k = idx P w k' ↔ (lo P (idx P v k) ≤ w ∧ w < lo P (idx P v k) + 2 ^ k) := by
  have hP : 0 < P := Nat.lt_of_le_of_lt (Nat.zero_le _) h.1
  constructor
  · intro e
    have hk : k = k' := by rw [← kk_idx h, ← kk_idx h', e]
    rw [e]
    subst hk
    exact lo_le h'
  · rintro ⟨a, b⟩
    have := between (P := P) (i := idx P v k) (x := w) hP a (by rw [kk_idx h]; exact b)
    rw [kk_idx h] at this
    rw [← this.2, isK_uniq this.1 h']
end Go.Proofs.Ythhoklgfgandpaa
