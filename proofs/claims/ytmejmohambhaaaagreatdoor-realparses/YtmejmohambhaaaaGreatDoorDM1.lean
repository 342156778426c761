/- THE ARITHMETIC OF DECIMALS: prefixes of digits, and what a shift to the left carries. Own work of the verifier. -/
import Derived.Test.YtmejmohambhaaaaGreatDoorRows
import Derived.RowKit3
import GoSem.PinnedTables
namespace Go.Proofs.YtmejmohambhaaaaGreatDoor

/-- 1 or 0. -/
def b2nn (b : Bool) : Nat := if b then 1 else 0
/-- The number of the first i digits. -/
def pv (D : Nat → Nat) : Nat → Nat
  | 0 => 0
  | i + 1 => pv D i * 10 + (D i - 48)
theorem pv_lt (D : Nat → Nat) : ∀ n, (∀ i, i < n → D i ≤ 57) → pv D n < 10 ^ n
  | 0, _ => Nat.zero_lt_one
  | n + 1, h => by
    have := pv_lt D n (fun i hi => h i (by omega))
    have h' := h n (by omega)
    rw [Nat.pow_succ]
    show pv D n * 10 + (D n - 48) < _
    omega
theorem pv_ge (D : Nat → Nat) (h0 : 49 ≤ D 0) : ∀ n, 10 ^ n ≤ pv D (n + 1)
  | 0 => by show 1 ≤ 0 * 10 + (D 0 - 48); omega
  | n + 1 => by
    have := pv_ge D h0 n
    rw [Nat.pow_succ]
    show _ ≤ pv D (n + 1) * 10 + (D (n + 1) - 48)
    omega
theorem pv_low (D : Nat → Nat) (i : Nat) : ∀ j, pv D i * 10 ^ j ≤ pv D (i + j)
  | 0 => by simp
  | j + 1 => by
    have := pv_low D i j
    rw [Nat.pow_succ, ← Nat.mul_assoc]
    show _ ≤ pv D (i + j) * 10 + (D (i + j) - 48)
    omega
theorem pv_high (D : Nat → Nat) (i : Nat) : ∀ j, (∀ m, m < i + j → D m ≤ 57) → pv D (i + j) < (pv D i + 1) * 10 ^ j
  | 0, _ => by simp
  | j + 1, h => by
    have := pv_high D i j (fun m hm => h m (by omega))
    have h' := h (i + j) (by omega)
    rw [Nat.pow_succ, ← Nat.mul_assoc]
    show pv D (i + j) * 10 + (D (i + j) - 48) < _
    omega
/-- Unlike at one place: the lesser is the lesser, whatever stands behind. -/
theorem pv_less (D S : Nat → Nat) (n L i : Nat) (hi : i < n) (hL : i < L) (hd : ∀ m, m < n → D m ≤ 57) (e : pv D i = pv S i) (hs : 48 ≤ D i) (h : D i < S i) :
    pv D n * 10 ^ L < pv S L * 10 ^ n := by
  obtain ⟨a, rfl⟩ : ∃ a, n = i + 1 + a := ⟨n - i - 1, by omega⟩
  obtain ⟨b, rfl⟩ : ∃ b, L = i + 1 + b := ⟨L - i - 1, by omega⟩
  have h1 := pv_high D (i + 1) a hd
  have h2 := pv_low S (i + 1) b
  have h3 : pv D (i + 1) + 1 ≤ pv S (i + 1) := by
    show pv D i * 10 + (D i - 48) + 1 ≤ pv S i * 10 + (S i - 48)
    rw [e]; omega
  calc pv D (i + 1 + a) * 10 ^ (i + 1 + b) < (pv D (i + 1) + 1) * 10 ^ a * 10 ^ (i + 1 + b) := Nat.mul_lt_mul_of_pos_right h1 (Nat.pow_pos (by decide))
    _ ≤ pv S (i + 1) * 10 ^ a * 10 ^ (i + 1 + b) := Nat.mul_le_mul_right _ (Nat.mul_le_mul_right _ h3)
    _ = pv S (i + 1) * 10 ^ b * 10 ^ (i + 1 + a) := by rw [Nat.mul_assoc, Nat.mul_assoc, ← Nat.pow_add, ← Nat.pow_add]; congr 2; omega
    _ ≤ pv S (i + 1 + b) * 10 ^ (i + 1 + a) := Nat.mul_le_mul_right _ h2
theorem pv_short (D S : Nat → Nat) (n L : Nat) (h : n < L) (e : pv D n = pv S n) (hl : 49 ≤ S (L - 1)) : pv D n * 10 ^ L < pv S L * 10 ^ n := by
  obtain ⟨b, rfl⟩ : ∃ b, L = n + b + 1 := ⟨L - n - 1, by omega⟩
  have h2 := pv_low S n b
  have h3 : pv S (n + b + 1) = pv S (n + b) * 10 + (S (n + b) - 48) := rfl
  rw [show n + b + 1 - 1 = n + b from rfl] at hl
  have h4 : pv S n * 10 ^ b * 10 < pv S (n + b + 1) := by omega
  calc pv D n * 10 ^ (n + b + 1) = pv S n * 10 ^ b * 10 * 10 ^ n := by rw [e, Nat.pow_succ, Nat.pow_add, Nat.mul_comm (10 ^ n), Nat.mul_assoc, Nat.mul_assoc, Nat.mul_assoc, Nat.mul_comm (10 ^ n) 10]
    _ < _ := Nat.mul_lt_mul_of_pos_right h4 (Nat.pow_pos (by decide))
theorem pv_long (D S : Nat → Nat) (n L : Nat) (h : L ≤ n) (e : pv D L = pv S L) : pv S L * 10 ^ n ≤ pv D n * 10 ^ L := by
  obtain ⟨a, rfl⟩ : ∃ a, n = L + a := ⟨n - L, by omega⟩
  have h1 := pv_low D L a
  rw [← e]
  calc pv D L * 10 ^ (L + a) = pv D L * 10 ^ a * 10 ^ L := by rw [Nat.pow_add, Nat.mul_assoc, Nat.mul_comm (10 ^ L)]
    _ ≤ _ := Nat.mul_le_mul_right _ h1

/-- The carry behind j digits, from the right. -/
def cr (D : Nat → Nat) (n k : Nat) : Nat → Nat
  | 0 => 0
  | j + 1 => ((D (n - 1 - j) - 48) * 2 ^ k + cr D n k j) / 10
theorem cr_lt (D : Nat → Nat) (n k : Nat) (h : ∀ i, i < n → D i ≤ 57) : ∀ j, j ≤ n → cr D n k j < 2 ^ k
  | 0, _ => Nat.pow_pos (by decide)
  | j + 1, hj => by
    have := cr_lt D n k h j (by omega)
    have h' := h (n - 1 - j) (by omega)
    have h2 : (D (n - 1 - j) - 48) * 2 ^ k ≤ 9 * 2 ^ k := Nat.mul_le_mul_right _ (by omega)
    show (_ + _) / 10 < _
    omega
/-- What all digits but the last j come to, with the last j's carry. -/
theorem cr_val (D : Nat → Nat) (n k : Nat) : ∀ j, j ≤ n → pv D n * 2 ^ k / 10 ^ j = pv D (n - j) * 2 ^ k + cr D n k j
  | 0, _ => by simp [cr]
  | j + 1, hj => by
    have ih := cr_val D n k j (by omega)
    rw [Nat.pow_succ, ← Nat.div_div_eq_div_mul, ih]
    have e : n - j = n - 1 - j + 1 := by omega
    have e2 : n - (j + 1) = n - 1 - j := by omega
    rw [e, e2]
    show ((pv D (n - 1 - j) * 10 + (D (n - 1 - j) - 48)) * 2 ^ k + cr D n k j) / 10 = pv D (n - 1 - j) * 2 ^ k + ((D (n - 1 - j) - 48) * 2 ^ k + cr D n k j) / 10
    rw [Nat.add_mul, show pv D (n - 1 - j) * 10 * 2 ^ k = pv D (n - 1 - j) * 2 ^ k * 10 from by rw [Nat.mul_assoc, Nat.mul_comm 10, ← Nat.mul_assoc]]
    omega
theorem cr_all (D : Nat → Nat) (n k : Nat) : cr D n k n = pv D n * 2 ^ k / 10 ^ n := by
  rw [cr_val D n k n (Nat.le_refl _), Nat.sub_self]; simp [pv]

/-- A row of the table: how many digits, and the digits of 5^k. -/
def chD (k : Nat) : Nat := (Go.Pinned.cheatRows.getD k (0, [])).1
def chS (k : Nat) : List UInt8 := (Go.Pinned.cheatRows.getD k (0, [])).2
def chF (k i : Nat) : Nat := ((chS k).getD i 0).toNat
def chOk (k : Nat) : Bool := (chS k).length + chD k == k + 1 && (pv (chF k) (chS k).length == 5 ^ k) && decide (10 ^ (chD k - 1) ≤ 2 ^ k) && decide (2 ^ k ≤ 10 ^ chD k) && (chS k).all (fun c => decide (48 ≤ c.toNat) && decide (c.toNat ≤ 57)) && decide (49 ≤ chF k ((chS k).length - 1)) && decide (1 ≤ chD k) && decide (chD k ≤ 19) && decide (1 ≤ (chS k).length) && decide ((chS k).length ≤ 60)
theorem ch_all : ∀ k, k < 61 → 1 ≤ k → chOk k = true := by decide +kernel
structure Cheats (k : Nat) : Prop where
  len : (chS k).length + chD k = k + 1
  val : pv (chF k) (chS k).length = 5 ^ k
  low : 10 ^ (chD k - 1) ≤ 2 ^ k
  high : 2 ^ k ≤ 10 ^ chD k
  dig : ∀ i, i < (chS k).length → 48 ≤ chF k i ∧ chF k i ≤ 57
  last : 49 ≤ chF k ((chS k).length - 1)
  one : 1 ≤ chD k
  few : chD k ≤ 19
  some : 1 ≤ (chS k).length
  most : (chS k).length ≤ 60
theorem cheats (k : Nat) (h0 : 1 ≤ k) (h1 : k ≤ 60) : Cheats k := by
  have h := ch_all k (by omega) h0
  unfold chOk at h
  simp only [Bool.and_eq_true, beq_iff_eq, decide_eq_true_eq, List.all_eq_true] at h
  obtain ⟨⟨⟨⟨⟨⟨⟨⟨⟨a1, a2⟩, a3⟩, a4⟩, a5⟩, a6⟩, a7⟩, a8⟩, a9⟩, a10⟩ := h
  refine ⟨a1, a2, a3, a4, fun i hi => ?_, a6, a7, a8, a9, a10⟩
  have := a5 ((chS k)[i]) (List.getElem_mem hi)
  unfold chF
  rw [List.getD, List.getElem?_eq_getElem hi]
  exact this
/-- How many digits come ahead: never more, never fewer. -/
theorem delta_ok (D : Nat → Nat) (n k : Nat) (less : Bool) (hn : 1 ≤ n) (hd : ∀ i, i < n → D i ≤ 57) (h0 : 49 ≤ D 0) (k0 : 1 ≤ k) (k1 : k ≤ 60)
    (hl : less = true → pv D n * 10 ^ (chS k).length < 5 ^ k * 10 ^ n) (hg : less = false → 5 ^ k * 10 ^ n ≤ pv D n * 10 ^ (chS k).length) :
    pv D n * 2 ^ k < 10 ^ (n + (chD k - b2nn less)) ∧ (1 ≤ chD k - b2nn less → 10 ^ (n + (chD k - b2nn less) - 1) ≤ pv D n * 2 ^ k) := by
  obtain ⟨len, val, low, high, dig, last, one, few, _, _⟩ := cheats k k0 k1
  have h10 : 5 ^ k * 2 ^ k = 10 ^ k := by rw [← Nat.mul_pow]
  have hp := pv_lt D n hd
  have hq := pv_ge D h0 (n - 1)
  rw [show n - 1 + 1 = n from by omega] at hq
  generalize (chS k).length = L at *
  generalize chD k = d at *
  generalize pv D n = P at *
  have h2 : 0 < 2 ^ k := Nat.pow_pos (by decide)
  have h3 : 0 < 10 ^ L := Nat.pow_pos (by decide)
  cases less
  · have hg := hg rfl
    rw [show b2nn false = 0 from rfl, Nat.sub_zero]
    refine ⟨?_, fun _ => ?_⟩
    · rw [Nat.pow_add]
      calc P * 2 ^ k < 10 ^ n * 2 ^ k := Nat.mul_lt_mul_of_pos_right hp h2
        _ ≤ 10 ^ n * 10 ^ d := Nat.mul_le_mul_left _ high
    · refine Nat.le_of_mul_le_mul_right ?_ h3
      calc 10 ^ (n + d - 1) * 10 ^ L = 5 ^ k * 10 ^ n * 2 ^ k := by rw [Nat.mul_right_comm, h10, ← Nat.pow_add, ← Nat.pow_add]; congr 1; omega
        _ ≤ P * 10 ^ L * 2 ^ k := Nat.mul_le_mul_right _ hg
        _ = P * 2 ^ k * 10 ^ L := Nat.mul_right_comm _ _ _
  · have hl := hl rfl
    rw [show b2nn true = 1 from rfl]
    refine ⟨?_, fun _ => ?_⟩
    · refine Nat.lt_of_mul_lt_mul_right (a := 10 ^ L) ?_
      calc P * 2 ^ k * 10 ^ L = P * 10 ^ L * 2 ^ k := Nat.mul_right_comm _ _ _
        _ < 5 ^ k * 10 ^ n * 2 ^ k := Nat.mul_lt_mul_of_pos_right hl h2
        _ = 10 ^ (n + (d - 1)) * 10 ^ L := by rw [Nat.mul_right_comm, h10, ← Nat.pow_add, ← Nat.pow_add]; congr 1; omega
    · calc 10 ^ (n + (d - 1) - 1) = 10 ^ (n - 1) * 10 ^ (d - 1) := by rw [← Nat.pow_add]; congr 1; omega
        _ ≤ P * 2 ^ k := Nat.mul_le_mul hq low
/-- So the last carry has just as many digits. -/
theorem carry_ok (D : Nat → Nat) (n k e : Nat) (h1 : pv D n * 2 ^ k < 10 ^ (n + e)) (h2 : 1 ≤ e → 10 ^ (n + e - 1) ≤ pv D n * 2 ^ k) : cr D n k n < 10 ^ e ∧ (1 ≤ e → 10 ^ (e - 1) ≤ cr D n k n) := by
  rw [cr_all]
  refine ⟨?_, fun he => ?_⟩
  · rw [Nat.div_lt_iff_lt_mul (Nat.pow_pos (by decide)), ← Nat.pow_add, Nat.add_comm e n]; exact h1
  · rw [Nat.le_div_iff_mul_le (Nat.pow_pos (by decide)), ← Nat.pow_add, show e - 1 + n = n + e - 1 from by omega]; exact h2 he
end Go.Proofs.YtmejmohambhaaaaGreatDoor
