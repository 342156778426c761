/- WHICH NUMBERS ARE FREE, as bits. Own work of the verifier. -/
import Derived.Laws.BitsAllLaws
namespace Go.Proofs.Ythghillefmppjaa

/-- Of each number whether it is taken: the bits of those that are not. -/
def mask : List Bool → Nat
  | [] => 0
  | t :: r => (if t then 0 else 1) + 2 * mask r
theorem mask_lt : ∀ T : List Bool, mask T < 2 ^ T.length
  | [] => by simp [mask]
  | t :: r => by
    have := mask_lt r
    rw [mask, List.length_cons, Nat.pow_succ]
    split <;> omega
theorem mask_small {T : List Bool} (h : T.length ≤ 16) : mask T < 65536 := by
  have h1 := mask_lt T
  have h2 : 2 ^ T.length ≤ 2 ^ 16 := Nat.pow_le_pow_right (by decide) h
  omega
theorem mask_bit : ∀ (T : List Bool) (i : Nat), (mask T).testBit i = decide (T[i]? = some false)
  | [], i => by simp [mask]
  | t :: r, 0 => by
    rw [mask, Nat.testBit_zero]
    cases t <;> simp [Nat.add_mod]
  | t :: r, i + 1 => by
    rw [mask, Nat.testBit_succ, List.getElem?_cons_succ, ← mask_bit r i]
    congr 1
    split <;> omega
theorem two_lt {i : Nat} (h : i ≤ 16) : 2 ^ i ≤ 65536 := by
  have : 2 ^ i ≤ 2 ^ 16 := Nat.pow_le_pow_right (by decide) h
  omega
theorem mask_and (T : List Bool) (i : Nat) : mask T &&& 2 ^ i = if T[i]? = some false then 2 ^ i else 0 := by
  apply Nat.eq_of_testBit_eq
  intro j
  rw [Nat.testBit_and, mask_bit, Nat.testBit_two_pow]
  by_cases e : i = j
  · subst e
    split <;> rename_i h <;> simp [h]
  · split <;> simp [e]
theorem mask_take (T : List Bool) (i : Nat) (hi : i < T.length) (h : T.length ≤ 16) : mask T &&& (18446744073709551615 - 2 ^ i) = mask (T.set i true) := by
  apply Nat.eq_of_testBit_eq
  intro j
  rw [Nat.testBit_and, mask_bit, mask_bit]
  have h1 : 2 ^ i < 2 ^ 64 := Nat.pow_lt_pow_right (by decide) (by omega)
  have e : 18446744073709551615 - 2 ^ i = 2 ^ 64 - (2 ^ i + 1) := by omega
  rw [e, Nat.testBit_two_pow_sub_succ h1, Nat.testBit_two_pow]
  by_cases hj : j < T.length
  · by_cases e : i = j
    · subst e
      simp [hj]
    · rw [List.getElem?_set_ne e]
      have : j < 64 := by omega
      simp [e, this]
  · rw [List.getElem?_eq_none (by omega), List.getElem?_eq_none (by simp; omega)]
    simp
theorem mask_give (T : List Bool) (i : Nat) (h : i < T.length) : mask T ||| 2 ^ i = mask (T.set i false) := by
  apply Nat.eq_of_testBit_eq
  intro j
  rw [Nat.testBit_or, mask_bit, mask_bit, Nat.testBit_two_pow]
  by_cases e : i = j
  · subst e
    simp [h]
  · rw [List.getElem?_set_ne e]
    simp [e]
theorem mask_new (n : Nat) : mask (List.replicate n false) = 2 ^ n - 1 := by
  induction n with
  | zero => rfl
  | succ n ih =>
    rw [List.replicate_succ, mask, ih, Nat.pow_succ]
    have : 0 < 2 ^ n := Nat.two_pow_pos _
    simp
    omega
/-- The least that is free. -/
def fst (T : List Bool) : Nat := T.findIdx (fun t => !t)
theorem fst_eq {T : List Bool} {i : Nat} (h : i < T.length) (hi : T[i] = false) (hb : ∀ j, j < i → T[j]? = some true) : fst T = i := by
  unfold fst
  rw [List.findIdx_eq h]
  refine ⟨by simp [hi], fun j hj => ?_⟩
  have := hb j hj
  rw [List.getElem?_eq_getElem (by omega)] at this
  simp at this
  simp [this]
theorem fst_none {T : List Bool} (hb : ∀ j, j < T.length → T[j]? = some true) : fst T = T.length := by
  unfold fst
  rw [List.findIdx_eq_length]
  intro x hx
  obtain ⟨j, hj, rfl⟩ := List.getElem_of_mem hx
  have := hb j hj
  rw [List.getElem?_eq_getElem hj] at this
  simp at this
  simp [this]
/-- Those that are free, rising, from a number on. -/
def fr : Nat → List Bool → List Int
  | _, [] => []
  | k, t :: r => if t then fr (k + 1) r else (k : Int) :: fr (k + 1) r
theorem fr_snoc : ∀ (T : List Bool) (k : Nat) (t : Bool), fr k (T ++ [t]) = fr k T ++ (if t then [] else [((k + T.length : Nat) : Int)])
  | [], k, t => by cases t <;> simp [fr]
  | u :: r, k, t => by
    rw [List.cons_append, fr, fr_snoc r (k + 1) t, fr, List.length_cons, show k + 1 + r.length = k + (r.length + 1) by omega]
    split <;> simp
theorem fr_take {T : List Bool} {i : Nat} (h : i < T.length) : fr 0 (T.take (i + 1)) = fr 0 (T.take i) ++ (if T[i] then [] else [(i : Int)]) := by
  rw [List.take_succ_eq_append_getElem h, fr_snoc, List.length_take, Nat.min_eq_left (by omega), Nat.zero_add]
theorem fr_len : ∀ (T : List Bool) (k : Nat), (fr k T).length ≤ T.length
  | [], _ => by simp [fr]
  | t :: r, k => by
    have := fr_len r (k + 1)
    rw [fr]
    split <;> simp <;> omega
end Go.Proofs.Ythghillefmppjaa
