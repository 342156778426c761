/- COUNTS, merged: what merged counts come to. Own work of the verifier. -/
import Derived.Test.YthhoklgfgandpaaE5
import Derived.Test.YthhoklgfgandpaaY6
namespace Go.Proofs.Ythhoklgfgandpaa

theorem key_mem {L : List Cn} {k : Int} (h : key L k ≠ 0) : ∃ d ∈ L, d.1 = k := by
  induction L with
  | nil => exact absurd rfl h
  | cons c L ih =>
    by_cases e : c.1 = k
    · exact ⟨c, by simp, e⟩
    · simp only [key] at h
      rw [if_neg e, Nat.zero_add] at h
      obtain ⟨d, h1, h2⟩ := ih h
      exact ⟨d, by simp [h1], h2⟩
theorem key_filter (L : List Cn) (q : Int → Bool) (k : Int) : key (L.filter fun c => q c.1) k = if q k = true then key L k else 0 := by
  induction L with
  | nil => simp [key]
  | cons c L ih =>
    rw [List.filter_cons]
    by_cases h : q c.1 = true
    · rw [if_pos h]
      simp only [key]
      rw [ih]
      by_cases e : c.1 = k
      · subst e; rw [if_pos rfl, if_pos h, if_pos h]
      · rw [if_neg e]
        split <;> simp
    · rw [if_neg h, ih]
      simp only [key]
      by_cases e : c.1 = k
      · subst e; rw [if_neg h, if_neg h]
      · rw [if_neg e]
        split <;> simp
theorem sum_split (L : List Cn) (x : Int) : sumN L = key L x + sumN (L.filter fun c => decide (c.1 ≠ x)) := by
  induction L with
  | nil => rfl
  | cons c L ih =>
    have e1 : sumN (c :: L) = c.2 + sumN L := by simp [sumN]
    rw [e1, ih, List.filter_cons]
    simp only [key]
    by_cases h : c.1 = x
    · rw [if_pos h, if_neg (by simp [h])]; omega
    · rw [if_neg h, if_pos (by simp [h])]
      have e2 : ∀ T : List Cn, sumN (c :: T) = c.2 + sumN T := fun T => by simp [sumN]
      rw [e2]; omega
theorem key_rest (L : List Cn) (x k : Int) : key (L.filter fun c => decide (c.1 ≠ x)) k = if k ≠ x then key L k else 0 := by
  have := key_filter L (fun i => decide (i ≠ x)) k
  rw [this]
  by_cases e : k = x
  · rw [if_neg (by simp [e]), if_neg (by simp [e])]
  · rw [if_pos (by simp [e]), if_pos e]
theorem sum_none (m : Nat) : ∀ (n : Nat) (L : List Cn), L.length ≤ n → (∀ k, key L k % m = 0) → sumN L % m = 0
  | 0, L, hl, _ => by
    have : L = [] := List.length_eq_zero_iff.1 (by omega)
    subst this; simp [sumN]
  | n + 1, [], _, _ => by simp [sumN]
  | n + 1, c :: L, hl, h => by
    rw [sum_split (c :: L) c.1, List.filter_cons, if_neg (by simp)]
    have h1 := h c.1
    have h2 : sumN (L.filter fun d => decide (d.1 ≠ c.1)) % m = 0 := by
      refine sum_none m n _ (Nat.le_trans (List.length_filter_le _ _) (by simp at hl; omega)) fun k => ?_
      rw [key_rest]
      split
      · rename_i e
        have := h k
        simp only [key] at this
        rw [if_neg (fun x => e x.symm), Nat.zero_add] at this
        exact this
      · exact Nat.zero_mod _
    rw [Nat.add_mod, h1, h2]
    simp
/-- Rising counts whose keys are another list's, brought round, have its sum, brought round. -/
theorem sum_mod (m : Nat) : ∀ (O L : List Cn), Rise O → (∀ k, key O k = key L k % m) → sumN O % m = sumN L % m
  | [], L, _, h => by
    rw [sum_none m L.length L (Nat.le_refl _) (fun k => (h k).symm)]
    simp [sumN]
  | c :: O, L, hr, h => by
    have h0 := key_head hr
    have hr' : Rise O := (List.pairwise_cons.1 hr).2
    have hc := (List.pairwise_cons.1 hr).1
    have ih := sum_mod m O (L.filter fun d => decide (d.1 ≠ c.1)) hr' (fun k => by
      rw [key_rest]
      split
      · rename_i e
        have := h k
        simp only [key] at this
        rw [if_neg (fun x => e x.symm), Nat.zero_add] at this
        exact this
      · rename_i e
        have e' : k = c.1 := by simpa using e
        rw [e', key_none (fun d hd => by have := hc d hd; omega), Nat.zero_mod])
    have e1 : sumN (c :: O) = c.2 + sumN O := by simp [sumN]
    have e2 := h c.1
    rw [h0] at e2
    rw [e1, sum_split L c.1, e2, Nat.add_mod, Nat.mod_mod, ih, ← Nat.add_mod]
theorem sum_keys {O L : List Cn} (hr : Rise O) (h : ∀ k, key O k = key L k) : sumN O = sumN L := by
  have b : ∀ k, key L k ≤ sumN L := fun k => by rw [sum_split L k]; omega
  have := sum_mod (sumN L + sumN O + 1) O L hr (fun k => by rw [h k, Nat.mod_eq_of_lt (by have := b k; omega)])
  rw [Nat.mod_eq_of_lt (by omega), Nat.mod_eq_of_lt (by omega)] at this
  exact this
theorem len_keys : ∀ (O L : List Cn), Rise O → (∀ c ∈ O, key L c.1 ≠ 0) → O.length ≤ L.length
  | [], _, _, _ => Nat.zero_le _
  | c :: O, L, hr, h => by
    have hr' : Rise O := (List.pairwise_cons.1 hr).2
    have hc := (List.pairwise_cons.1 hr).1
    obtain ⟨d, hd, he⟩ := key_mem (h c (by simp))
    have ih := len_keys O (L.filter fun x => decide (x.1 ≠ c.1)) hr' (fun x hx => by
      rw [key_rest, if_pos (by have := hc x hx; omega)]
      exact h x (by simp [hx]))
    have hlt : (L.filter fun x => decide (x.1 ≠ c.1)).length < L.length := by
      refine List.length_filter_lt_length_iff_exists.2 ⟨d, hd, by simp [he]⟩
    simp only [List.length_cons]
    omega
theorem amN_filter (p : Nat) (L : List Cn) (v : Int) : amN p L v = sumN (L.filter fun c => decide ((hiV p c.1.toNat : Int) ≤ v)) := by
  unfold amN sumN
  induction L with
  | nil => rfl
  | cons c L ih =>
    rw [List.filter_cons]
    simp only [List.map_cons, List.sum_cons]
    by_cases h : (hiV p c.1.toNat : Int) ≤ v
    · rw [if_pos h, if_pos (by simpa using h), ih]; simp
    · rw [if_neg h, if_neg (by simpa using h), ih]; simp
theorem amN_append (p : Nat) (A B : List Cn) (v : Int) : amN p (A ++ B) v = amN p A v + amN p B v := by unfold amN; rw [List.map_append, List.sum_append]
theorem sumN_append (A B : List Cn) : sumN (A ++ B) = sumN A + sumN B := by unfold sumN; rw [List.map_append, List.sum_append]
/-- Rising counts with the same keys are told alike. -/
theorem amN_keys {O L : List Cn} (hr : Rise O) (h : ∀ k, key O k = key L k) (p : Nat) (v : Int) : amN p O v = amN p L v := by
  rw [amN_filter, amN_filter]
  refine sum_keys (List.Pairwise.filter _ hr) fun k => ?_
  rw [key_filter O (fun i => decide ((hiV p i.toNat : Int) ≤ v)), key_filter L (fun i => decide ((hiV p i.toNat : Int) ≤ v)), h k]
theorem isMerge_len {O L : List Cn} (h : IsMerge O L) : O.length ≤ L.length := len_keys O L h.rise (fun c hc => by
  have h1 := h.keys c.1
  have h2 := (h.nz c hc).1
  obtain ⟨A, B, rfl⟩ := List.append_of_mem hc
  intro h0
  rw [h0] at h1
  have h3 : key (A ++ c :: B) c.1 = key A c.1 + (c.2 + key B c.1) := by rw [key_append]; simp [key]
  rw [h3] at h1
  simp at h1
  exact h2 h1.2.1)
theorem isMerge_from {O L : List Cn} (h : IsMerge O L) {c : Cn} (hc : c ∈ O) : ∃ d ∈ L, d.1 = c.1 := by
  refine key_mem (fun h0 => ?_)
  have h1 := h.keys c.1
  have h2 := (h.nz c hc).1
  obtain ⟨A, B, rfl⟩ := List.append_of_mem hc
  rw [h0] at h1
  have h3 : key (A ++ c :: B) c.1 = key A c.1 + (c.2 + key B c.1) := by rw [key_append]; simp [key]
  rw [h3] at h1
  simp at h1
  exact h2 h1.2.1
theorem isMerge_wc {O L : List Cn} (h : IsMerge O L) (hW : Wc L) : Wc O := fun c hc => by
  obtain ⟨d, hd, he⟩ := isMerge_from h hc
  have := hW d hd
  exact ⟨by omega, by omega, (h.nz c hc).2⟩
theorem isMerge_tot {O L : List Cn} (h : IsMerge O L) : tot O = tot L := sum_mod _ O L h.rise h.keys
theorem key_sum (L : List Cn) (k : Int) : key L k ≤ sumN L := by rw [sum_split L k]; omega
/-- Counts that may be are their own merge. -/
theorem may_merge {p : Int} {L : List Cn} (h : MayIs p L 0) (hW : Wc L) : IsMerge L L := by
  have hok := may_ok h
  have hs := hok.2.1
  refine ⟨List.pairwise_iff_getElem.2 fun i j hi hj hij => ?_, fun c hc => ?_, fun k => ?_⟩
  · exact may_rise h j i hj hi hij
  · obtain ⟨i, hi, rfl⟩ := List.getElem_of_mem hc
    exact ⟨(hok.2.2 i hi).2.2, (hW _ hc).2.2⟩
  · rw [Nat.mod_eq_of_lt (by have := key_sum L k; omega)]
/-- Two lists that may be, merged: nothing is brought round. -/
theorem merged_keys {p : Int} {A B O : List Cn} (hA : MayIs p A 0) (hB : MayIs p B 0) (hO : IsMerge O (A ++ B)) : ∀ k, key O k = key (A ++ B) k := fun k => by
  have a := (may_ok hA).2.1
  have b := (may_ok hB).2.1
  rw [hO.keys, Nat.mod_eq_of_lt]
  have := key_sum (A ++ B) k
  rw [sumN_append] at this
  omega
theorem merged_may {p : Int} {A B O : List Cn} (hA : MayIs p A 0) (hB : MayIs p B 0) (hO : IsMerge O (A ++ B)) : MayIs p O (if 9223372036854775807 < sumN A + sumN B then 3 else 0) := by
  have a := may_ok hA
  have b := may_ok hB
  refine Or.inr ⟨a.1, Or.inr ⟨fun j hj => ?_, by rw [sum_keys hO.rise (merged_keys hA hB hO), sumN_append]⟩⟩
  have hin : ∀ c ∈ O, 0 ≤ c.1 ∧ c.1 < (((64 - p.toNat) * 2 ^ p.toNat : Nat) : Int) := fun c hc => by
    obtain ⟨d, hd, he⟩ := isMerge_from hO hc
    rw [← he]
    rcases List.mem_append.1 hd with k | k
    · obtain ⟨i, hi, rfl⟩ := List.getElem_of_mem k; exact ⟨(a.2.2 i hi).1, (a.2.2 i hi).2.1⟩
    · obtain ⟨i, hi, rfl⟩ := List.getElem_of_mem k; exact ⟨(b.2.2 i hi).1, (b.2.2 i hi).2.1⟩
  have hm := List.getElem_mem hj
  unfold bad
  rw [show O.getD j (0, 1) = O[j] from by simp [List.getD, hj], if_neg (by have := hin _ hm; omega)]
  by_cases h0 : 0 < j
  · rw [show O.getD (j - 1) (0, 1) = O[j - 1] from by simp [List.getD, show j - 1 < O.length by omega]]
    have := (List.pairwise_iff_getElem.1 hO.rise) (j - 1) j (by omega) hj (by omega)
    rw [if_neg (by omega), if_neg (hO.nz _ hm).1]
  · rw [if_neg (by omega), if_neg (hO.nz _ hm).1]
end Go.Proofs.Ythhoklgfgandpaa
