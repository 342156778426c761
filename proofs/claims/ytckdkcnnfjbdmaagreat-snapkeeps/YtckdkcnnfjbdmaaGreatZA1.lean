/- COUNTS, merged: the plain mathematics. Own work of the verifier. -/
import Derived.Handy
import Derived.Test.YtckdkcnnfjbdmaaGreatRows
import Derived.WalkKit
import Derived.WalkSpells
import Derived.RowKit3
import Derived.Below
import Derived.Outline
import Derived.Deep.QuietTactic
import Derived.Deep.Draws
import Derived.BigQuiet
import Derived.Laws.Bits64
import Derived.Laws.BitsAllLaws
import Derived.Laws.ShiftsVarLaws
import Derived.Deep.RegionHeld3
import Derived.Deep.DeepCutAuto
namespace Go.Proofs.YtckdkcnnfjbdmaaGreat

/-- A count: an index and a number. -/
abbrev Cn := Int × Nat
/-- What all counts of an index come to. -/
def key : List Cn → Int → Nat
  | [], _ => 0
  | c :: L, k => (if c.1 = k then c.2 else 0) + key L k
theorem key_append (A B : List Cn) (k : Int) : key (A ++ B) k = key A k + key B k := by
  induction A with
  | nil => rw [List.nil_append]; simp [key]
  | cons c A ih => rw [List.cons_append]; simp only [key]; rw [ih]; omega
theorem key_perm {A B : List Cn} (h : A.Perm B) (k : Int) : key A k = key B k := by
  induction h with
  | nil => rfl
  | cons c _ ih => simp only [key]; rw [ih]
  | swap c d l => simp only [key]; omega
  | trans _ _ h1 h2 => rw [h1, h2]
def Rise (L : List Cn) : Prop := L.Pairwise (fun a b => a.1 < b.1)
def Srt (L : List Cn) : Prop := L.Pairwise (fun a b => a.1 ≤ b.1)
theorem key_none {L : List Cn} {k : Int} (h : ∀ c ∈ L, c.1 ≠ k) : key L k = 0 := by
  induction L with
  | nil => rfl
  | cons c L ih =>
    simp only [key]
    rw [if_neg (h c (by simp)), ih (fun d hd => h d (by simp [hd]))]
theorem key_head {c : Cn} {L : List Cn} (h : Rise (c :: L)) : key (c :: L) c.1 = c.2 := by
  have hc := (List.pairwise_cons.1 h).1
  simp only [key, if_true]
  rw [key_none (fun d hd => by have := hc d hd; omega)]
  rfl
theorem key_less {L : List Cn} {c : Cn} (h : Rise (c :: L)) {k : Int} (hk : k < c.1) : key (c :: L) k = 0 := by
  have hc := (List.pairwise_cons.1 h).1
  refine key_none fun d hd => ?_
  rcases List.mem_cons.1 hd with rfl | hd
  · omega
  · have := hc d hd; omega
/-- Rising lists with the same sums are the same. -/
theorem rise_eq : ∀ (A B : List Cn), Rise A → Rise B → (∀ c ∈ A, c.2 ≠ 0) → (∀ c ∈ B, c.2 ≠ 0) → (∀ k, key A k = key B k) → A = B
  | [], [], _, _, _, _, _ => rfl
  | [], b :: B, _, hB, _, nB, h => by
    have := h b.1
    rw [key_head hB] at this
    exact absurd this.symm (nB b (by simp))
  | a :: A, [], hA, _, nA, _, h => by
    have := h a.1
    rw [key_head hA] at this
    exact absurd this (nA a (by simp))
  | a :: A, b :: B, hA, hB, nA, nB, h => by
    have e1 : a.1 = b.1 := by
      rcases Int.lt_trichotomy a.1 b.1 with c | c | c
      · have := h a.1
        rw [key_head hA, key_less hB c] at this
        exact absurd this (nA a (by simp))
      · exact c
      · have := h b.1
        rw [key_head hB, key_less hA c] at this
        exact absurd this.symm (nB b (by simp))
    have e2 : a.2 = b.2 := by
      have := h a.1
      rw [key_head hA, e1, key_head hB] at this
      exact this
    have e3 : A = B := rise_eq A B (List.pairwise_cons.1 hA).2 (List.pairwise_cons.1 hB).2 (fun c hc => nA c (by simp [hc])) (fun c hc => nB c (by simp [hc])) (fun k => by
      have := h k
      simp only [key] at this
      rw [e1, e2] at this
      omega)
    rw [e3, Prod.ext e1 e2]
/-- The document's merge of counts. -/
structure IsMerge (O L : List Cn) : Prop where
  rise : Rise O
  nz : ∀ c ∈ O, c.2 ≠ 0 ∧ c.2 < 18446744073709551616
  keys : ∀ k, key O k = key L k % 18446744073709551616
theorem IsMerge.uniq {A B L : List Cn} (h : IsMerge A L) (k : IsMerge B L) : A = B :=
  rise_eq A B h.rise k.rise (fun c hc => (h.nz c hc).1) (fun c hc => (k.nz c hc).1) (fun x => by rw [h.keys, k.keys])
theorem IsMerge.perm {A L M : List Cn} (h : IsMerge A L) (p : L.Perm M) : IsMerge A M := ⟨h.rise, h.nz, fun k => by rw [h.keys, key_perm p]⟩
theorem isMerge_nil : IsMerge [] [] := ⟨List.Pairwise.nil, (fun c hc => by cases hc), fun k => rfl⟩
/-- Whatever stands ahead of a place is less than what stands behind. -/
def Cut (S : List Cn) (i : Nat) : Prop := ∀ c ∈ S.take i, ∀ d ∈ S.drop i, c.1 < d.1
theorem cut_zero (S : List Cn) : Cut S 0 := fun c hc => by simp at hc
/-- Places i to j have one index. -/
def Run (S : List Cn) (i j : Nat) (x : Int) : Prop := ∀ t (h : t < S.length), i ≤ t → t < j → S[t].1 = x
theorem sort_get {S : List Cn} (h : Srt S) {s t : Nat} (hs : s < S.length) (ht : t < S.length) (hst : s < t) : S[s].1 ≤ S[t].1 := (List.pairwise_iff_getElem.1 h) s t hs ht hst
theorem cut_next {S : List Cn} (hS : Srt S) {i j : Nat} {x : Int} (hij : i < j) (hj : j ≤ S.length) (hc : Cut S i) (hr : Run S i j x) (he : ∀ h : j < S.length, S[j].1 ≠ x) : Cut S j := by
  intro c hcm d hdm
  obtain ⟨s, hs, rfl⟩ := List.getElem_of_mem hcm
  obtain ⟨t, ht, rfl⟩ := List.getElem_of_mem hdm
  rw [List.length_take] at hs
  rw [List.length_drop] at ht
  rw [List.getElem_take, List.getElem_drop]
  have hjl : j < S.length := by omega
  have a1 : S[j].1 ≤ S[j + t].1 := by
    rcases Nat.eq_zero_or_pos t with e | e
    · subst e; exact Int.le_refl _
    · exact sort_get hS hjl (by omega) (by omega)
  have hi : S[i].1 = x := hr i (by omega) (Nat.le_refl _) hij
  have a2 : x < S[j].1 := by
    have := sort_get hS (s := i) (t := j) (by omega) hjl hij
    have := he hjl
    omega
  by_cases k : s < i
  · have : S[s].1 < S[i].1 := hc _ (List.mem_iff_getElem.2 ⟨s, by rw [List.length_take]; omega, by rw [List.getElem_take]⟩) _ (List.mem_iff_getElem.2 ⟨0, by rw [List.length_drop]; omega, by rw [List.getElem_drop]; simp⟩)
    omega
  · have : S[s].1 = x := hr s (by omega) (by omega) (by omega)
    omega
theorem key_take (S : List Cn) {j : Nat} (h : j < S.length) (k : Int) : key (S.take (j + 1)) k = key (S.take j) k + (if S[j].1 = k then S[j].2 else 0) := by
  rw [List.take_succ_eq_append_getElem h, key_append]
  simp [key]
/-- One group more. -/
theorem group_merge {S O : List Cn} {i j : Nat} {x : Int} {N : Nat} (hij : i < j) (hj : j ≤ S.length) (hO : IsMerge O (S.take i)) (hOm : ∀ c ∈ O, ∀ d ∈ S.drop i, c.1 < d.1) (hr : Run S i j x) (hN : N = key (S.take j) x % 18446744073709551616) :
    IsMerge (if N ≠ 0 then O ++ [(x, N)] else O) (S.take j) := by
  have hx : S[i].1 = x := hr i (by omega) (Nat.le_refl _) hij
  have hmem : (S[i]'(by omega)) ∈ S.drop i := List.mem_iff_getElem.2 ⟨0, by rw [List.length_drop]; omega, by rw [List.getElem_drop]; simp⟩
  have hlt : ∀ c ∈ O, c.1 < x := fun c hc' => by rw [← hx]; exact hOm c hc' _ hmem
  have hOx : key O x = 0 := key_none fun c hc' => by have := hlt c hc'; omega
  have hkeys : ∀ k, k ≠ x → key (S.take j) k = key (S.take i) k := fun k hk => by
    have : ∀ m, i + m ≤ j → key (S.take (i + m)) k = key (S.take i) k := fun m => by
      induction m with
      | zero => intro _; rfl
      | succ m ih =>
        intro hm
        rw [show i + (m + 1) = i + m + 1 from rfl, key_take S (by omega), ih (by omega), if_neg (by rw [hr (i + m) (by omega) (by omega) (by omega)]; exact fun e => hk e.symm)]
        rfl
    have h := this (j - i) (by omega)
    rw [show i + (j - i) = j by omega] at h
    exact h
  have hkx : ∀ k, key (if N ≠ 0 then O ++ [(x, N)] else O) k = if k = x then N else key O k := fun k => by
    by_cases hz : N ≠ 0
    · rw [if_pos hz, key_append]
      simp only [key]
      by_cases e : k = x
      · subst e; simp only [if_true]; rw [hOx]; omega
      · rw [if_neg (fun h => e h.symm), if_neg e]; omega
    · rw [if_neg hz]
      by_cases e : k = x
      · subst e; rw [if_pos rfl, hOx]; omega
      · rw [if_neg e]
  refine ⟨?_, ?_, fun k => ?_⟩
  · split
    · refine List.pairwise_append.2 ⟨hO.rise, List.pairwise_singleton _ _, fun a ha b hb => ?_⟩
      rw [List.mem_singleton.1 hb]
      exact hlt a ha
    · exact hO.rise
  · intro c hc'
    split at hc'
    · rcases List.mem_append.1 hc' with h | h
      · exact hO.nz c h
      · rw [List.mem_singleton.1 h]
        exact ⟨by assumption, by show N < _; omega⟩
    · exact hO.nz c hc'
  · rw [hkx]
    by_cases e : k = x
    · subst e; rw [if_pos rfl]; exact hN
    · rw [if_neg e, hO.keys, hkeys k e]
theorem group_less {S O : List Cn} {i j : Nat} {x : Int} {N : Nat} (hij : i < j) (hj : j ≤ S.length) (hOm : ∀ c ∈ O, ∀ d ∈ S.drop i, c.1 < d.1) (hr : Run S i j x) (hcj : Cut S j) : ∀ c ∈ (if N ≠ 0 then O ++ [(x, N)] else O), ∀ d ∈ S.drop j, c.1 < d.1 := by
  intro c hc d hd
  have hdi : d ∈ S.drop i := by
    have e : S.drop j = (S.drop i).drop (j - i) := by rw [List.drop_drop]; congr 1; omega
    rw [e] at hd
    exact List.mem_of_mem_drop hd
  split at hc
  · rcases List.mem_append.1 hc with h | h
    · exact hOm c h d hdi
    · rw [List.mem_singleton.1 h]
      have hx : S[i].1 = x := hr i (by omega) (Nat.le_refl _) hij
      rw [← hx]
      exact hcj (S[i]'(by omega)) (List.mem_iff_getElem.2 ⟨i, by rw [List.length_take]; omega, by rw [List.getElem_take]⟩) d hd
  · exact hOm c hc d hdi
end Go.Proofs.YtckdkcnnfjbdmaaGreat
/- Buckets, in whole numbers. Own work of the verifier. -/
namespace Go.Proofs.YtckdkcnnfjbdmaaGreat

/-- How many low bits the bucket of v does not look at, P being the least value beyond the first group. -/
def IsK (P v k : Nat) : Prop := v / 2 ^ (k + 1) < P ∧ (k = 0 ∨ P ≤ v / 2 ^ k)
def idx (P v k : Nat) : Nat := k * P + v / 2 ^ k
def kk (P i : Nat) : Nat := i / P - 1
def rr (P i : Nat) : Nat := i - kk P i * P
def lo (P i : Nat) : Nat := rr P i * 2 ^ kk P i

theorem div_half (v k : Nat) : v / 2 ^ (k + 1) = v / 2 ^ k / 2 := by rw [Nat.pow_succ, Nat.div_div_eq_div_mul]
theorem IsK.two {P v k : Nat} (h : IsK P v k) : v / 2 ^ k < 2 * P := by
  have := h.1
  rw [div_half] at this
  omega
theorem isK_mono {P v w k k' : Nat} (h : IsK P v k) (h' : IsK P w k') (hl : v ≤ w) : k ≤ k' := by
  rcases Nat.lt_or_ge k' k with c | c
  · rcases h.2 with e | e
    · omega
    · have a1 : v / 2 ^ k ≤ w / 2 ^ k := Nat.div_le_div_right hl
      have a2 : w / 2 ^ k ≤ w / 2 ^ (k' + 1) := Nat.div_le_div_left (Nat.pow_le_pow_right (by decide) c) (Nat.two_pow_pos _)
      have := h'.1
      omega
  · exact c
theorem isK_uniq {P v k k' : Nat} (h : IsK P v k) (h' : IsK P v k') : k = k' := Nat.le_antisymm (isK_mono h h' (Nat.le_refl _)) (isK_mono h' h (Nat.le_refl _))
theorem idx_mono {P v w k k' : Nat} (h : IsK P v k) (h' : IsK P w k') (hl : v ≤ w) : idx P v k ≤ idx P w k' := by
  unfold idx
  rcases Nat.lt_or_ge k k' with c | c
  · have h2 := h.two
    have h3 : P ≤ w / 2 ^ k' := by rcases h'.2 with e | e; omega; exact e
    have h4 : (k + 1) * P ≤ k' * P := Nat.mul_le_mul_right _ c
    rw [Nat.add_mul] at h4
    omega
  · have := isK_mono h h' hl
    have e : k = k' := by omega
    subst e
    exact Nat.add_le_add_left (Nat.div_le_div_right hl) _
theorem kk_idx {P v k : Nat} (h : IsK P v k) : kk P (idx P v k) = k := by
  have hP : 0 < P := Nat.lt_of_le_of_lt (Nat.zero_le _) h.1
  have h2 := h.two
  unfold kk idx
  rcases Nat.eq_zero_or_pos k with e | e
  · subst e
    rw [Nat.zero_mul, Nat.zero_add]
    have : v / 2 ^ 0 / P < 2 := Nat.div_lt_of_lt_mul (by omega)
    omega
  · have h3 : P ≤ v / 2 ^ k := by rcases h.2 with e | e; omega; exact e
    rw [Nat.mul_comm, Nat.mul_add_div hP]
    have : v / 2 ^ k / P = 1 := by
      apply Nat.div_eq_of_lt_le <;> omega
    omega
theorem rr_idx {P v k : Nat} (h : IsK P v k) : rr P (idx P v k) = v / 2 ^ k := by
  unfold rr
  rw [kk_idx h]
  unfold idx
  exact Nat.add_sub_cancel_left _ _
theorem lo_idx {P v k : Nat} (h : IsK P v k) : lo P (idx P v k) = v / 2 ^ k * 2 ^ k := by unfold lo; rw [rr_idx h, kk_idx h]
theorem rr_lt {P : Nat} (i : Nat) (hP : 0 < P) : rr P i < 2 * P ∧ (kk P i = 0 ∨ P ≤ rr P i) ∧ kk P i * P + rr P i = i := by
  unfold rr kk
  have hm := Nat.div_add_mod i P
  have hl := Nat.mod_lt i hP
  rw [Nat.mul_comm] at hm
  generalize hq : i / P = q at *
  rcases Nat.eq_zero_or_pos q with e | e
  · subst e
    simp at hm ⊢
    omega
  · obtain ⟨q', rfl⟩ : ∃ q', q = q' + 1 := ⟨q - 1, by omega⟩
    rw [Nat.add_mul] at hm
    simp only [Nat.add_sub_cancel]
    omega
/-- Whatever lies between the ends. -/
theorem between {P i x : Nat} (hP : 0 < P) (h1 : lo P i ≤ x) (h2 : x < lo P i + 2 ^ kk P i) : IsK P x (kk P i) ∧ idx P x (kk P i) = i := by
  obtain ⟨a1, a2, a3⟩ := rr_lt i hP
  have e : x / 2 ^ kk P i = rr P i := by
    unfold lo at h1 h2
    apply Nat.div_eq_of_lt_le h1
    rw [Nat.add_mul, Nat.one_mul]
    exact h2
  refine ⟨⟨?_, ?_⟩, ?_⟩
  · rw [div_half, e]; omega
  · rw [e]; exact a2
  · unfold idx; rw [e, a3]
theorem lo_le {P v k : Nat} (h : IsK P v k) : lo P (idx P v k) ≤ v ∧ v < lo P (idx P v k) + 2 ^ k := by
  rw [lo_idx h]
  have hm := Nat.div_add_mod v (2 ^ k)
  have hl := Nat.mod_lt v (Nat.two_pow_pos k)
  rw [Nat.mul_comm] at hm
  omega
theorem lo_next {P : Nat} (i : Nat) (hP : 0 < P) : lo P (i + 1) = lo P i + 2 ^ kk P i := by
  unfold lo rr kk
  have hm := Nat.div_add_mod i P
  have hl := Nat.mod_lt i hP
  rw [Nat.mul_comm] at hm
  rcases Nat.lt_or_ge (i % P + 1) P with c | c
  · have e : (i + 1) / P = i / P := by
      apply Nat.div_eq_of_lt_le
      · omega
      · rw [Nat.add_mul]; omega
    rw [e]
    generalize hq : i / P = q at *
    have hle : (q - 1) * P ≤ i := by
      have : (q - 1) * P ≤ q * P := Nat.mul_le_mul_right _ (by omega)
      omega
    have : i + 1 - (q - 1) * P = i - (q - 1) * P + 1 := by omega
    rw [this, Nat.add_mul, Nat.one_mul]
  · have e : (i + 1) / P = i / P + 1 := by
      apply Nat.div_eq_of_lt_le
      · rw [Nat.add_mul]; omega
      · rw [Nat.add_mul, Nat.add_mul]; omega
    rw [e]
    generalize hq : i / P = q at *
    rcases Nat.eq_zero_or_pos q with z | z
    · subst z; simp at *
    · obtain ⟨q', rfl⟩ : ∃ q', q = q' + 1 := ⟨q - 1, by omega⟩
      simp only [Nat.add_sub_cancel]
      rw [Nat.add_mul] at hm
      have e1 : i + 1 - (q' + 1) * P = P := by rw [Nat.add_mul]; omega
      have e2 : i - q' * P = 2 * P - 1 := by omega
      rw [e1, e2, Nat.pow_succ, ← Nat.mul_assoc, Nat.mul_comm, ← Nat.mul_assoc]
      have : 2 * P * 2 ^ q' = (2 * P - 1 + 1) * 2 ^ q' := by rw [Nat.sub_add_cancel (by omega)]
      rw [this, Nat.add_mul, Nat.one_mul]
theorem kk_top {p i : Nat} (h : i < (64 - p) * 2 ^ p) (hp : p ≤ 14) : kk (2 ^ p) i + p ≤ 62 := by
  have : i / 2 ^ p < 64 - p := Nat.div_lt_of_lt_mul (by rw [Nat.mul_comm]; exact h)
  unfold kk
  omega
theorem hi_top {p i : Nat} (h : i < (64 - p) * 2 ^ p) (hp : p ≤ 14) : lo (2 ^ p) i + 2 ^ kk (2 ^ p) i ≤ 2 ^ 63 := by
  obtain ⟨a1, _, _⟩ := rr_lt i (Nat.two_pow_pos p)
  have hk := kk_top h hp
  unfold lo
  generalize kk (2 ^ p) i = k at *
  have e : (rr (2 ^ p) i + 1) * 2 ^ k ≤ (2 * 2 ^ p) * 2 ^ k := Nat.mul_le_mul_right _ a1
  have e2 : 2 * 2 ^ p * 2 ^ k = 2 ^ (1 + p + k) := by rw [Nat.pow_add, Nat.pow_add]
  have e3 : 2 ^ (1 + p + k) ≤ 2 ^ 63 := Nat.pow_le_pow_right (by decide) (by omega)
  rw [Nat.add_mul, Nat.one_mul] at e
  omega
theorem hi_last {p : Nat} (hp : p ≤ 14) : lo (2 ^ p) ((64 - p) * 2 ^ p - 1) + 2 ^ kk (2 ^ p) ((64 - p) * 2 ^ p - 1) = 2 ^ 63 := by
  have hP := Nat.two_pow_pos p
  have h0 : 0 < (64 - p) * 2 ^ p := Nat.mul_pos (by omega) hP
  rw [← lo_next _ hP, Nat.sub_add_cancel h0]
  unfold lo rr kk
  rw [Nat.mul_div_cancel _ hP, ← Nat.sub_mul, show 64 - p - (64 - p - 1) = 1 by omega, Nat.one_mul, ← Nat.pow_add]
  congr 1
  omega
theorem lo_first (P : Nat) : lo P 0 = 0 := by unfold lo rr kk; simp
theorem idx_top {p v k : Nat} (hp : p ≤ 14) (hv : v < 2 ^ 63) (h : IsK (2 ^ p) v k) : idx (2 ^ p) v k < (64 - p) * 2 ^ p ∧ k ≤ 62 := by
  have h2 := h.two
  unfold idx
  have hP := Nat.two_pow_pos p
  have hk : k + p ≤ 62 := by
    rcases h.2 with e | e
    · omega
    · have a1 : 2 ^ p * 2 ^ k ≤ v := (Nat.le_div_iff_mul_le (Nat.two_pow_pos _)).1 e
      rw [← Nat.pow_add] at a1
      have a2 : 2 ^ (p + k) < 2 ^ 63 := by omega
      have := (Nat.pow_lt_pow_iff_right (by decide)).1 a2
      omega
  have a3 : (k + 2) * 2 ^ p ≤ (64 - p) * 2 ^ p := Nat.mul_le_mul_right _ (by omega)
  rw [Nat.add_mul] at a3
  omega
theorem wide_ok {P v k : Nat} (h : IsK P v k) : lo P (idx P v k) + 2 ^ k - 1 - v ≤ v / P := by
  have hP : 0 < P := Nat.lt_of_le_of_lt (Nat.zero_le _) h.1
  obtain ⟨a1, a2⟩ := lo_le h
  rcases h.2 with e | e
  · subst e
    simp at a1 a2
    have : lo P (idx P v 0) + 2 ^ 0 - 1 - v = 0 := by simp; omega
    rw [this]
    exact Nat.zero_le _
  · have b1 : P * 2 ^ k ≤ v := (Nat.le_div_iff_mul_le (Nat.two_pow_pos _)).1 e
    have b2 : 2 ^ k ≤ v / P := by rw [Nat.le_div_iff_mul_le hP, Nat.mul_comm]; exact b1
    omega
/-- The document's way: the exponent. -/
theorem isK_exp {p v e : Nat} (h1 : v / 2 ^ e ≤ 1) (h2 : 1 ≤ v / 2 ^ e) (h : 2 ^ p ≤ v) : p ≤ e ∧ IsK (2 ^ p) v (e - p) := by
  have b1 : 1 * 2 ^ e ≤ v := (Nat.le_div_iff_mul_le (Nat.two_pow_pos _)).1 h2
  have b2 : v < 2 * 2 ^ e := (Nat.div_lt_iff_lt_mul (Nat.two_pow_pos _)).1 (by omega)
  rw [Nat.mul_comm, ← Nat.pow_succ] at b2
  have b3 : 2 ^ p < 2 ^ (e + 1) := by omega
  have b4 := (Nat.pow_lt_pow_iff_right (by decide)).1 b3
  have hpe : p ≤ e := by omega
  refine ⟨hpe, ?_, Or.inr ?_⟩
  · rw [Nat.div_lt_iff_lt_mul (Nat.two_pow_pos _), ← Nat.pow_add, show p + (e - p + 1) = e + 1 by omega]
    exact b2
  · rw [Nat.le_div_iff_mul_le (Nat.two_pow_pos _), ← Nat.pow_add, show p + (e - p) = e by omega]
    omega
theorem isK_ex (P v : Nat) (hP : 0 < P) : ∃ k, IsK P v k := by
  rcases Nat.lt_or_ge v P with c | c
  · exact ⟨0, by rw [div_half]; simp; omega, Or.inl rfl⟩
  · have hex : ∃ k, v / 2 ^ (k + 1) < P := ⟨v, by
      have : v < 2 ^ (v + 1) := Nat.lt_of_lt_of_le Nat.lt_two_pow_self (Nat.pow_le_pow_right (by decide) (by omega))
      rw [Nat.div_eq_of_lt this]
      exact hP⟩
    clear c
    obtain ⟨n, hn⟩ := hex
    induction n with
    | zero => exact ⟨0, hn, Or.inl rfl⟩
    | succ n ih =>
      rcases Nat.lt_or_ge (v / 2 ^ (n + 1)) P with d | d
      · exact ih d
      · exact ⟨n + 1, hn, Or.inr d⟩
theorem isK_zero {P v : Nat} (h : v < P) : IsK P v 0 := ⟨by rw [div_half]; simp; omega, Or.inl rfl⟩
/-- In just one bucket. -/
theorem idx_same {P v w k k' : Nat} (h : IsK P v k) (h' : IsK P w k') : idx P v k = idx P w k' ↔ (lo P (idx P v k) ≤ w ∧ w < lo P (idx P v k) + 2 ^ k) := by
  have hP : 0 < P := Nat.lt_of_le_of_lt (Nat.zero_le _) h.1
  constructor
  · intro e
    have hk : k = k' := by rw [← kk_idx h, ← kk_idx h', e]
    rw [e]
    subst hk
    exact lo_le h'
  · rintro ⟨a, b⟩
    have := between (P := P) (i := idx P v k) (x := w) hP a (by rw [kk_idx h]; exact b)
    rw [kk_idx h] at this
    rw [← this.2, isK_uniq this.1 h']
end Go.Proofs.YtckdkcnnfjbdmaaGreat
/- THE LEAVES of bucket. Own work of the verifier. -/
namespace Go.Proofs.YtckdkcnnfjbdmaaGreat
open Go.RowKit

theorem retI {k : IntKind} {A B : Int} (h : A = B) : Ending.returned (Value.int k A) = .returned (.int k B) := by rw [h]
theorem retB {A B : Bool} (h : A = B) : Ending.returned (Value.bool A) = .returned (.bool B) := by rw [h]
theorem pow_lt (p : Nat) (h : p ≤ 14) : 2 ^ p ≤ 16384 := by
  have : 2 ^ p ≤ 2 ^ 14 := Nat.pow_le_pow_right (by decide) h
  omega
theorem pow_lt' (p : Nat) (h : p ≤ 62) : 2 ^ p ≤ 4611686018427387904 := by
  have : 2 ^ p ≤ 2 ^ 62 := Nat.pow_le_pow_right (by decide) h
  omega
theorem cast_pow (p : Nat) : (2 : Int) ^ p = ((2 ^ p : Nat) : Int) := by simp
theorem wrap_small {x : Int} (h1 : 0 ≤ x) (h2 : x < 9223372036854775808) : wrap64 x = x := by unfold wrap64; omega
theorem wrap_nat {x : Int} {n : Nat} (h1 : x = (n : Int)) (h2 : n < 9223372036854775808) : wrap64 x = (n : Int) := by rw [h1]; exact wrap_small (by omega) (by omega)
theorem wrap_pow (p : Nat) (h : p ≤ 62) : wrap64 ((2 : Int) ^ p) = ((2 ^ p : Nat) : Int) := wrap_nat (cast_pow p) (by have := pow_lt' p h; omega)
theorem len_le (p : Nat) (h : p ≤ 14) : (64 - p) * 2 ^ p ≤ 1048576 := Nat.mul_le_mul (by omega : 64 - p ≤ 64) (pow_lt p h)
theorem len_int (p : Nat) (h : p ≤ 14) : ((64 : Int) - (p : Int)) * 2 ^ p = (((64 - p) * 2 ^ p : Nat) : Int) := by
  rw [cast_pow, show (64 : Int) - (p : Int) = ((64 - p : Nat) : Int) by omega, Int.natCast_mul]

theorem pr_yes (p : Nat) (h1 : 1 ≤ p) (h2 : p ≤ 14) (w : World) : Calls Tryz.prog 134 #[.int .i64 (p : Int)] w fun e w' => e = .returned (.bool true) ∧ w' = w := by
  have c1 : (1 : Int) ≤ (p : Int) := by omega
  have c2 : (p : Int) ≤ 14 := by omega
  go_enter Tryz.func134, Tryz.ntmps134
  go_wp2
  go_ret
  exact ⟨rfl, rfl⟩
theorem pr_no (p : Int) (h : ¬ (1 ≤ p ∧ p ≤ 14)) (w : World) : Calls Tryz.prog 134 #[.int .i64 p] w fun e w' => e = .returned (.bool false) ∧ w' = w := by
  by_cases c : 1 ≤ p
  · have d : ¬ p ≤ 14 := fun k => h ⟨c, k⟩
    clear h
    go_enter Tryz.func134, Tryz.ntmps134
    go_wp2
    go_ret
    exact ⟨rfl, rfl⟩
  · clear h
    go_enter Tryz.func134, Tryz.ntmps134
    go_wp2
    go_ret
    exact ⟨rfl, rfl⟩
theorem prr_yes (p : Nat) (h1 : 1 ≤ p) (h2 : p ≤ 14) (w : World) : Calls Tryz.prog 128 #[.int .i64 (p : Int)] w fun e w' => e = .returned (.bool true) ∧ w' = w := by
  have c1 : (1 : Int) ≤ (p : Int) := by omega
  have c2 : (p : Int) ≤ 14 := by omega
  go_enter Tryz.func128, Tryz.ntmps128
  go_wp2
  go_ret
  exact ⟨rfl, rfl⟩
theorem prr_no (p : Int) (h : ¬ (1 ≤ p ∧ p ≤ 14)) (w : World) : Calls Tryz.prog 128 #[.int .i64 p] w fun e w' => e = .returned (.bool false) ∧ w' = w := by
  by_cases c : 1 ≤ p
  · have d : ¬ p ≤ 14 := fun k => h ⟨c, k⟩
    clear h
    go_enter Tryz.func128, Tryz.ntmps128
    go_wp2
    go_ret
    exact ⟨rfl, rfl⟩
  · clear h
    go_enter Tryz.func128, Tryz.ntmps128
    go_wp2
    go_ret
    exact ⟨rfl, rfl⟩
theorem len_yes (p : Nat) (h1 : 1 ≤ p) (h2 : p ≤ 14) (w : World) : Calls Tryz.prog 103 #[.int .i64 (p : Int)] w fun e w' => e = .returned (.int .i64 (((64 - p) * 2 ^ p : Nat) : Int)) ∧ w' = w := by
  have c1 : (1 : Int) ≤ (p : Int) := by omega
  have c2 : (p : Int) ≤ 14 := by omega
  go_enter Tryz.func103, Tryz.ntmps103
  go_wp2_with (go_at_call 134; with_reducible refine (pr_yes p h1 h2 _).mono ?_; rintro e w1 ⟨rfl, rfl⟩)
  go_ret
  exact ⟨retI (wrap_nat (len_int p h2) (by have := len_le p h2; omega)), rfl⟩
theorem len_no (p : Int) (h : ¬ (1 ≤ p ∧ p ≤ 14)) (w : World) : Calls Tryz.prog 103 #[.int .i64 p] w fun e w' => e = .returned (.int .i64 0) ∧ w' = w := by
  have H : Hid (∀ W, _) := pr_no p h
  clear h
  go_enter Tryz.func103, Tryz.ntmps103
  go_wp2_with (go_at_call 134; with_reducible refine (H.out _).mono ?_; rintro e w1 ⟨rfl, rfl⟩)
  go_ret
  exact ⟨rfl, rfl⟩
theorem rlen_yes (p : Nat) (h1 : 1 ≤ p) (h2 : p ≤ 14) (w : World) : Calls Tryz.prog 93 #[.int .i64 (p : Int)] w fun e w' => e = .returned (.int .i64 (((64 - p) * 2 ^ p : Nat) : Int)) ∧ w' = w := by
  have c1 : (1 : Int) ≤ (p : Int) := by omega
  have c2 : (p : Int) ≤ 14 := by omega
  have hw := wrap_pow p (by omega)
  go_enter Tryz.func93, Tryz.ntmps93
  go_wp2_with (go_at_call 128; with_reducible refine (prr_yes p h1 h2 _).mono ?_; rintro e w1 ⟨rfl, rfl⟩)
  go_ret
  refine ⟨retI (wrap_nat ?_ (by have := len_le p h2; omega)), rfl⟩
  rw [← len_int p h2, Int.mul_comm]
  first | rw [hw, cast_pow] | rw [cast_pow] | skip
theorem rlen_no (p : Int) (h : ¬ (1 ≤ p ∧ p ≤ 14)) (w : World) : Calls Tryz.prog 93 #[.int .i64 p] w fun e w' => e = .returned (.int .i64 0) ∧ w' = w := by
  have H : Hid (∀ W, _) := prr_no p h
  clear h
  go_enter Tryz.func93, Tryz.ntmps93
  go_wp2_with (go_at_call 128; with_reducible refine (H.out _).mono ?_; rintro e w1 ⟨rfl, rfl⟩)
  go_ret
  exact ⟨rfl, rfl⟩
theorem window {p v k s : Nat} (h : k + max (2 * s) 1 ≤ 64 ∧ v / 2 ^ (k + max (2 * s) 1) < 2 ^ p ∧ (k = 0 ∨ 2 ^ p ≤ v / 2 ^ k)) (hs : s = 1 ∨ s = 2 ∨ s = 4 ∨ s = 8 ∨ s = 16 ∨ s = 32) :
    (2 ^ p ≤ v / 2 ^ (k + s) → (k + s) + max (2 * (s / 2)) 1 ≤ 64 ∧ v / 2 ^ ((k + s) + max (2 * (s / 2)) 1) < 2 ^ p ∧ ((k + s) = 0 ∨ 2 ^ p ≤ v / 2 ^ (k + s))) ∧
    (¬ 2 ^ p ≤ v / 2 ^ (k + s) → k + max (2 * (s / 2)) 1 ≤ 64 ∧ v / 2 ^ (k + max (2 * (s / 2)) 1) < 2 ^ p ∧ (k = 0 ∨ 2 ^ p ≤ v / 2 ^ k)) := by
  have e1 : max (2 * s) 1 = 2 * s := by omega
  have e2 : max (2 * (s / 2)) 1 = s := by omega
  rw [e1] at h
  rw [e2]
  obtain ⟨a, b, c⟩ := h
  exact ⟨fun d => ⟨by omega, by rw [show k + s + s = k + 2 * s by omega]; exact b, Or.inr d⟩, fun d => ⟨by omega, by omega, c⟩⟩
end Go.Proofs.YtckdkcnnfjbdmaaGreat
/- THE CALLS of bucket. Own work of the verifier. -/
namespace Go.Proofs.YtckdkcnnfjbdmaaGreat
open Go.RowKit

abbrev two (a e : Int) : Ending := .returned (.tuple #[.int .i64 a, .int .i64 e])
abbrev three (a b e : Int) : Ending := .returned (.tuple #[.int .i64 a, .int .i64 b, .int .i64 e])
theorem two_of {a b e : Int} (h : a = b) : two a e = two b e := by rw [h]
theorem three_of {a b c d e : Int} (h : a = b) (h' : c = d) : three a c e = three b d e := by rw [h, h']

theorem sub_nat {x y : Nat} (h : y ≤ x) (hx : x < 9223372036854775808) : wrap64 ((x : Int) - (y : Int)) = ((x - y : Nat) : Int) := by unfold wrap64; omega
theorem sub_one {x : Nat} (h : 0 < x) (hx : x < 9223372036854775808) : wrap64 ((x : Int) - 1) = ((x - 1 : Nat) : Int) := by unfold wrap64; omega
theorem add_nat {x y : Nat} (h : x + y < 9223372036854775808) : wrap64 ((x : Int) + (y : Int)) = ((x + y : Nat) : Int) := by unfold wrap64; omega
theorem mul_pow {x k : Nat} (h : x * 2 ^ k < 9223372036854775808) : wrap64 ((x : Int) * 2 ^ k) = ((x * 2 ^ k : Nat) : Int) := wrap_nat (by rw [cast_pow, Int.natCast_mul]) h
theorem div_pow (i p : Nat) : (i : Int) / 2 ^ p = ((i / 2 ^ p : Nat) : Int) := by rw [cast_pow, ← Int.natCast_ediv]
theorem idx_lt {p v k : Nat} (h2 : p ≤ 14) (hv : v < 9223372036854775808) (h : IsK (2 ^ p) v k) : k ≤ 62 ∧ k * 2 ^ p < 9223372036854775808 ∧ k * 2 ^ p + v / 2 ^ k < 1048576 := by
  have a := idx_top h2 (by have : (2 : Nat) ^ 63 = 9223372036854775808 := by decide
                           rw [this]; exact hv) h
  have b := len_le p h2
  obtain ⟨a1, a2⟩ := a
  unfold idx at a1
  generalize v / 2 ^ k = y at *
  generalize k * 2 ^ p = x at *
  generalize (64 - p) * 2 ^ p = z at *
  omega
/-- What a bucket's ends are reckoned of. -/
theorem ends (p i : Nat) (h2 : p ≤ 14) (hi : i < (64 - p) * 2 ^ p) : ∃ k K r l t t1 h : Nat, k ≤ 62 ∧ l = lo (2 ^ p) i ∧ h = lo (2 ^ p) i + 2 ^ kk (2 ^ p) i - 1 ∧
    ((k = 0 ∧ (i : Int) / 2 ^ p = 0) ∨ wrap64 ((i : Int) / 2 ^ p - 1) = (k : Int)) ∧ wrap64 ((k : Int) * 2 ^ p) = (K : Int) ∧ wrap64 ((i : Int) - (K : Int)) = (r : Int) ∧ wrap64 ((r : Int) * 2 ^ k) = (l : Int) ∧ wrap64 ((2 : Int) ^ k) = (t : Int) ∧
      wrap64 ((t : Int) - 1) = (t1 : Int) ∧ wrap64 ((l : Int) + (t1 : Int)) = (h : Int) := by
  have hkt := kk_top hi h2
  have hlo := hi_top hi h2
  obtain ⟨r1, r2, r3⟩ := rr_lt i (Nat.two_pow_pos p)
  have hile := len_le p h2
  have hkl := pow_lt' (kk (2 ^ p) i) (by omega)
  have hp := Nat.two_pow_pos (kk (2 ^ p) i)
  have e63 : (2 : Nat) ^ 63 = 9223372036854775808 := by decide
  rw [e63] at hlo
  have hii : i < 9223372036854775808 := by
    generalize (64 - p) * 2 ^ p = z at *
    omega
  have hK : kk (2 ^ p) i * 2 ^ p ≤ i := by
    generalize kk (2 ^ p) i * 2 ^ p = z at *
    omega
  refine ⟨kk (2 ^ p) i, kk (2 ^ p) i * 2 ^ p, rr (2 ^ p) i, lo (2 ^ p) i, 2 ^ kk (2 ^ p) i, 2 ^ kk (2 ^ p) i - 1, lo (2 ^ p) i + 2 ^ kk (2 ^ p) i - 1, by omega, rfl, rfl, ?_, ?_, ?_, ?_, ?_, ?_, ?_⟩
  · rw [div_pow]
    rcases Nat.eq_zero_or_pos (i / 2 ^ p) with z | z
    · exact Or.inl ⟨by unfold kk; omega, by rw [z]; rfl⟩
    · exact Or.inr (sub_one z (Nat.lt_of_le_of_lt (Nat.div_le_self _ _) hii))
  · exact mul_pow (Nat.lt_of_le_of_lt hK hii)
  · exact sub_nat hK hii
  · refine mul_pow ?_
    change lo (2 ^ p) i < _
    generalize lo (2 ^ p) i = z at *
    generalize 2 ^ kk (2 ^ p) i = y at *
    omega
  · exact wrap_pow _ (by omega)
  · refine sub_one hp ?_
    generalize 2 ^ kk (2 ^ p) i = y at *
    omega
  · rw [add_nat]
    · congr 1
      generalize lo (2 ^ p) i = z at *
      generalize 2 ^ kk (2 ^ p) i = y at *
      omega
    · generalize lo (2 ^ p) i = z at *
      generalize 2 ^ kk (2 ^ p) i = y at *
      omega
theorem zero_case {i K r l t t1 h : Nat} {x : Int} (hi : i < 9223372036854775808) (e1 : wrap64 (((0 : Nat) : Int) * x) = (K : Int)) (e2 : wrap64 ((i : Int) - (K : Int)) = (r : Int)) (e3 : wrap64 ((r : Int) * 2 ^ 0) = (l : Int)) (e4 : wrap64 ((2 : Int) ^ 0) = (t : Int))
    (e5 : wrap64 ((t : Int) - 1) = (t1 : Int)) (e6 : wrap64 ((l : Int) + (t1 : Int)) = (h : Int)) : l = i ∧ h = i := by
  rw [Int.natCast_zero, Int.zero_mul] at e1
  rw [Int.pow_zero, Int.mul_one] at e3
  rw [Int.pow_zero] at e4
  unfold wrap64 at *
  omega
theorem bounds_yes (p i : Nat) (h1 : 1 ≤ p) (h2 : p ≤ 14) (hi : i < (64 - p) * 2 ^ p) (w : World) :
    Calls Tryz.prog 110 #[.int .i64 (p : Int), .int .i64 (i : Int)] w fun e w' => (∃ n, w' = w.drewN n) ∧ e = three (lo (2 ^ p) i : Nat) ((lo (2 ^ p) i + 2 ^ kk (2 ^ p) i - 1 : Nat) : Int) 0 := by
  have c1 : (0 : Int) ≤ (p : Int) := by omega
  have c2 : ¬ (i : Int) < 0 := by omega
  have c3 : ¬ (((64 - p) * 2 ^ p : Nat) : Int) ≤ (i : Int) := by omega
  have HP : Hid (∀ W, _) := pr_yes p h1 h2
  have HL : Hid (∀ W, _) := len_yes p h1 h2
  obtain ⟨k, K, r, l, t, t1, h, hk, hl, hh, e7, e1, e2, e3, e4, e5, e6⟩ := ends p i h2 hi
  rw [← hh, ← hl]
  have hi63 : i < 9223372036854775808 := Nat.lt_of_lt_of_le hi (Nat.le_trans (len_le p h2) (by decide))
  clear hi hl hh
  have hk0 : (0 : Int) ≤ (k : Int) := by omega
  generalize (64 - p) * 2 ^ p = n at *
  rcases e7 with ⟨rfl, z0⟩ | e7
  · obtain ⟨rfl, rfl⟩ := zero_case hi63 e1 e2 e3 e4 e5 e6
    clear e1 e2 e3 e4 e5 e6 hk hk0
    have hw : wrap64 (h : Int) = (h : Int) := wrap_small (by omega) (by omega)
    go_enter Tryz.func110, Tryz.ntmps110
    go_wp2_with (first
      | (go_at_call 134; with_reducible refine (HP.out _).mono ?_; rintro e w1 ⟨rfl, rfl⟩)
      | (go_at_call 103; with_reducible refine (HL.out _).mono ?_; rintro e w1 ⟨rfl, rfl⟩))
    go_region
    go_wp2_with fail
    go_ret3
    exact ⟨⟨1, rfl⟩, three_of (by first | rfl | exact hw | simp [hw]) (by first | rfl | exact hw | simp [hw])⟩
  · go_enter Tryz.func110, Tryz.ntmps110
    go_wp2_with (first
      | (go_at_call 134; with_reducible refine (HP.out _).mono ?_; rintro e w1 ⟨rfl, rfl⟩)
      | (go_at_call 103; with_reducible refine (HL.out _).mono ?_; rintro e w1 ⟨rfl, rfl⟩))
    go_region
    go_wp2_with fail
    go_ret3
    exact ⟨⟨1, rfl⟩, three_of e3 e6⟩
/-- No bucket. -/
theorem bounds_range (p : Nat) (i : Int) (h1 : 1 ≤ p) (h2 : p ≤ 14) (hi : ¬ (0 ≤ i ∧ i < (((64 - p) * 2 ^ p : Nat) : Int))) (w : World) :
    Calls Tryz.prog 110 #[.int .i64 (p : Int), .int .i64 i] w fun e w' => (∃ n, w' = w.drewN n) ∧ e = three 0 0 2 := by
  have HP : Hid (∀ W, _) := pr_yes p h1 h2
  have HL : Hid (∀ W, _) := len_yes p h1 h2
  generalize (64 - p) * 2 ^ p = n at *
  by_cases c : i < 0
  · clear hi
    go_enter Tryz.func110, Tryz.ntmps110
    go_wp2_with (first
      | (go_at_call 134; with_reducible refine (HP.out _).mono ?_; rintro e w1 ⟨rfl, rfl⟩)
      | (go_at_call 103; with_reducible refine (HL.out _).mono ?_; rintro e w1 ⟨rfl, rfl⟩))
    go_ret3
    exact ⟨⟨0, rfl⟩, rfl⟩
  · have d : (n : Int) ≤ i := by omega
    clear hi
    go_enter Tryz.func110, Tryz.ntmps110
    go_wp2_with (first
      | (go_at_call 134; with_reducible refine (HP.out _).mono ?_; rintro e w1 ⟨rfl, rfl⟩)
      | (go_at_call 103; with_reducible refine (HL.out _).mono ?_; rintro e w1 ⟨rfl, rfl⟩))
    go_ret3
    exact ⟨⟨0, rfl⟩, rfl⟩
theorem bounds_arg (p i : Int) (h : ¬ (1 ≤ p ∧ p ≤ 14)) (w : World) :
    Calls Tryz.prog 110 #[.int .i64 p, .int .i64 i] w fun e w' => (∃ n, w' = w.drewN n) ∧ e = three 0 0 1 := by
  have HP : Hid (∀ W, _) := pr_no p h
  clear h
  go_enter Tryz.func110, Tryz.ntmps110
  go_wp2_with (go_at_call 134; with_reducible refine (HP.out _).mono ?_; rintro e w1 ⟨rfl, rfl⟩)
  go_ret3
  exact ⟨⟨0, rfl⟩, rfl⟩
/-- Low and High by bounds. -/
theorem low_of {p i l h e : Int} (H : ∀ W, Calls Tryz.prog 110 #[.int .i64 p, .int .i64 i] W fun x w' => (∃ n, w' = W.drewN n) ∧ x = three l h e) (w : World) :
    Calls Tryz.prog 121 #[.int .i64 p, .int .i64 i] w fun x w' => (∃ n, w' = w.drewN n) ∧ x = two l e := by
  have HP : Hid _ := H
  go_enter Tryz.func121, Tryz.ntmps121
  go_wp2_with (go_at_call 110; with_reducible refine (HP.out _).mono ?_; rintro e w1 ⟨⟨n, rfl⟩, rfl⟩)
  go_ret2
  exact ⟨⟨n, rfl⟩, rfl⟩
theorem high_of {p i l h e : Int} (H : ∀ W, Calls Tryz.prog 110 #[.int .i64 p, .int .i64 i] W fun x w' => (∃ n, w' = W.drewN n) ∧ x = three l h e) (w : World) :
    Calls Tryz.prog 74 #[.int .i64 p, .int .i64 i] w fun x w' => (∃ n, w' = w.drewN n) ∧ x = two h e := by
  have HP : Hid _ := H
  go_enter Tryz.func74, Tryz.ntmps74
  go_wp2_with (go_at_call 110; with_reducible refine (HP.out _).mono ?_; rintro e w1 ⟨⟨n, rfl⟩, rfl⟩)
  go_ret2
  exact ⟨⟨n, rfl⟩, rfl⟩
end Go.Proofs.YtckdkcnnfjbdmaaGreat
/- THE DOCUMENT's calls of bucket. Own work of the verifier. -/
namespace Go.Proofs.YtckdkcnnfjbdmaaGreat
open Go.RowKit

theorem sh_pos {v e : Nat} (hv : 1 ≤ v / 2 ^ e) (h : v < 9223372036854775808) : e ≤ 62 := by
  have b1 : 1 * 2 ^ e ≤ v := (Nat.le_div_iff_mul_le (Nat.two_pow_pos _)).1 hv
  have b2 : 2 ^ e < 2 ^ 63 := by have : (2 : Nat) ^ 63 = 9223372036854775808 := by decide
                                 rw [this]; omega
  have := (Nat.pow_lt_pow_iff_right (by decide)).1 b2
  omega
/-- What the document's lower end is reckoned of. -/
theorem rends (p i : Nat) (h2 : p ≤ 14) (hi : i < (64 - p) * 2 ^ p) : (i < 2 ^ p ∧ lo (2 ^ p) i = i) ∨ (2 ^ p ≤ i ∧ ∃ q k K r l : Nat, k ≤ 62 ∧ l = lo (2 ^ p) i ∧ (i : Int) / ((2 ^ p : Nat) : Int) = (q : Int) ∧ wrap64 (q : Int) = (q : Int) ∧ wrap64 ((q : Int) - 1) = (k : Int) ∧ wrap64 ((k : Int) * ((2 ^ p : Nat) : Int)) = (K : Int) ∧ wrap64 ((i : Int) - (K : Int)) = (r : Int) ∧ wrap64 ((r : Int) * 2 ^ k) = (l : Int)) := by
  rcases Nat.lt_or_ge i (2 ^ p) with c | c
  · refine Or.inl ⟨c, ?_⟩
    unfold lo rr kk
    rw [Nat.div_eq_of_lt c]
    simp
  · refine Or.inr ⟨c, ?_⟩
    have hkt := kk_top hi h2
    have hlo := hi_top hi h2
    obtain ⟨r1, r2, r3⟩ := rr_lt i (Nat.two_pow_pos p)
    have hile := len_le p h2
    have hp := Nat.two_pow_pos (kk (2 ^ p) i)
    have e63 : (2 : Nat) ^ 63 = 9223372036854775808 := by decide
    rw [e63] at hlo
    have hii : i < 9223372036854775808 := by
      generalize (64 - p) * 2 ^ p = z at *
      omega
    have hK : kk (2 ^ p) i * 2 ^ p ≤ i := by
      generalize kk (2 ^ p) i * 2 ^ p = z at *
      omega
    refine ⟨i / 2 ^ p, kk (2 ^ p) i, kk (2 ^ p) i * 2 ^ p, rr (2 ^ p) i, lo (2 ^ p) i, by omega, rfl, by rw [← Int.natCast_ediv], wrap_nat rfl (Nat.lt_of_le_of_lt (Nat.div_le_self _ _) hii), ?_, ?_, ?_, ?_⟩
    · exact sub_one (Nat.div_pos c (Nat.two_pow_pos p)) (Nat.lt_of_le_of_lt (Nat.div_le_self _ _) hii)
    · exact wrap_nat (Int.natCast_mul _ _).symm (Nat.lt_of_le_of_lt hK hii)
    · exact sub_nat hK hii
    · refine mul_pow ?_
      change lo (2 ^ p) i < _
      generalize lo (2 ^ p) i = z at *
      generalize 2 ^ kk (2 ^ p) i = y at *
      omega
theorem rlow_yes (p i : Nat) (h1 : 1 ≤ p) (h2 : p ≤ 14) (hi : i < (64 - p) * 2 ^ p) (w : World) :
    Calls Tryz.prog 94 #[.int .i64 (p : Int), .int .i64 (i : Int)] w fun e w' => (∃ n, w' = w.drewN n) ∧ e = two (lo (2 ^ p) i : Nat) 0 := by
  have c1 : (0 : Int) ≤ (p : Int) := by omega
  have c2 : ¬ (i : Int) < 0 := by omega
  have c3 : ¬ (((64 - p) * 2 ^ p : Nat) : Int) ≤ (i : Int) := by omega
  have HP : Hid (∀ W, _) := prr_yes p h1 h2
  have HL : Hid (∀ W, _) := rlen_yes p h1 h2
  have hw := wrap_pow p (by omega)
  have hP := Nat.two_pow_pos p
  rcases rends p i h2 hi with ⟨hlt, hl⟩ | ⟨hge, q, k, K, r, l, hk, hl, e0, e00, e1, e2, e3, e4⟩
  · rw [hl]
    have hlt' : (i : Int) < ((2 ^ p : Nat) : Int) := by exact_mod_cast hlt
    clear hi hl hlt
    generalize (64 - p) * 2 ^ p = n at *
    generalize ha : 2 ^ p = P at *
    go_enter Tryz.func94, Tryz.ntmps94
    go_wp2_with (first
      | (go_at_call 128; with_reducible refine (HP.out _).mono ?_; rintro e w1 ⟨rfl, rfl⟩)
      | (go_at_call 93; with_reducible refine (HL.out _).mono ?_; rintro e w1 ⟨rfl, rfl⟩))
    go_ret2
    exact ⟨⟨0, rfl⟩, rfl⟩
  · rw [← hl]
    have hge' : ¬ (i : Int) < ((2 ^ p : Nat) : Int) := by intro h; exact absurd (show i < 2 ^ p by exact_mod_cast h) (by omega)
    have hk0 : (0 : Int) ≤ (k : Int) := by omega
    have hP' : ¬ ((2 ^ p : Nat) : Int) = 0 := by omega
    have hP0 : (0 : Int) ≤ ((2 ^ p : Nat) : Int) := by omega
    have e1' : wrap64 (wrap64 (q : Int) - 1) = (k : Int) := by rw [e00, e1]
    have E2 : Hid _ := e2
    have E3 : Hid _ := e3
    have E4 : Hid _ := e4
    clear hi hl hge hP e00 e1 e2 e3 e4
    generalize (64 - p) * 2 ^ p = n at *
    generalize 2 ^ p = P at hge' hP' hP0 e0 E2 hw
    go_enter Tryz.func94, Tryz.ntmps94
    go_wp2_with (first
      | (go_at_call 128; with_reducible refine (HP.out _).mono ?_; rintro e w1 ⟨rfl, rfl⟩)
      | (go_at_call 93; with_reducible refine (HL.out _).mono ?_; rintro e w1 ⟨rfl, rfl⟩))
    go_ret2
    exact ⟨⟨0, rfl⟩, two_of (by rw [E2.out, E3.out, E4.out])⟩
theorem rlow_range (p : Nat) (i : Int) (h1 : 1 ≤ p) (h2 : p ≤ 14) (hi : ¬ (0 ≤ i ∧ i < (((64 - p) * 2 ^ p : Nat) : Int))) (w : World) :
    Calls Tryz.prog 94 #[.int .i64 (p : Int), .int .i64 i] w fun e w' => (∃ n, w' = w.drewN n) ∧ e = two 0 2 := by
  have HP : Hid (∀ W, _) := prr_yes p h1 h2
  have HL : Hid (∀ W, _) := rlen_yes p h1 h2
  generalize (64 - p) * 2 ^ p = n at *
  by_cases c : i < 0
  · clear hi
    go_enter Tryz.func94, Tryz.ntmps94
    go_wp2_with (first
      | (go_at_call 128; with_reducible refine (HP.out _).mono ?_; rintro e w1 ⟨rfl, rfl⟩)
      | (go_at_call 93; with_reducible refine (HL.out _).mono ?_; rintro e w1 ⟨rfl, rfl⟩))
    go_ret2
    exact ⟨⟨0, rfl⟩, rfl⟩
  · have d : (n : Int) ≤ i := by omega
    clear hi
    go_enter Tryz.func94, Tryz.ntmps94
    go_wp2_with (first
      | (go_at_call 128; with_reducible refine (HP.out _).mono ?_; rintro e w1 ⟨rfl, rfl⟩)
      | (go_at_call 93; with_reducible refine (HL.out _).mono ?_; rintro e w1 ⟨rfl, rfl⟩))
    go_ret2
    exact ⟨⟨0, rfl⟩, rfl⟩
theorem rlow_arg (p i : Int) (h : ¬ (1 ≤ p ∧ p ≤ 14)) (w : World) :
    Calls Tryz.prog 94 #[.int .i64 p, .int .i64 i] w fun e w' => (∃ n, w' = w.drewN n) ∧ e = two 0 1 := by
  have HP : Hid (∀ W, _) := prr_no p h
  clear h
  go_enter Tryz.func94, Tryz.ntmps94
  go_wp2_with (go_at_call 128; with_reducible refine (HP.out _).mono ?_; rintro e w1 ⟨rfl, rfl⟩)
  go_ret2
  exact ⟨⟨0, rfl⟩, rfl⟩
theorem rhigh_not {p i a : Int} (ha : (a != 0) = true) (H : ∀ W, Calls Tryz.prog 94 #[.int .i64 p, .int .i64 i] W fun e w' => (∃ n, w' = W.drewN n) ∧ e = two 0 a) (w : World) :
    Calls Tryz.prog 77 #[.int .i64 p, .int .i64 i] w fun e w' => (∃ n, w' = w.drewN n) ∧ e = two 0 a := by
  have HP : Hid _ := H
  clear H
  go_enter Tryz.func77, Tryz.ntmps77
  go_wp2_with (go_at_call 94; with_reducible refine (HP.out _).mono ?_; rintro e w1 ⟨⟨n1, rfl⟩, rfl⟩)
  go_ret2
  exact ⟨⟨n1, rfl⟩, rfl⟩
theorem rhigh_yes (p i : Nat) (h1 : 1 ≤ p) (h2 : p ≤ 14) (hi : i < (64 - p) * 2 ^ p) (w : World) :
    Calls Tryz.prog 77 #[.int .i64 (p : Int), .int .i64 (i : Int)] w fun e w' => (∃ n, w' = w.drewN n) ∧ e = two ((lo (2 ^ p) i + 2 ^ kk (2 ^ p) i - 1 : Nat) : Int) 0 := by
  have HP : Hid (∀ W, _) := rlow_yes p i h1 h2 hi
  have HL : Hid (∀ W, _) := rlen_yes p h1 h2
  have hll := len_le p h2
  have e63 : (2 : Nat) ^ 63 = 9223372036854775808 := by decide
  by_cases hlast : i + 1 = (64 - p) * 2 ^ p
  · have hv : lo (2 ^ p) i + 2 ^ kk (2 ^ p) i - 1 = 9223372036854775807 := by
      have := hi_last h2
      rw [← hlast, Nat.add_sub_cancel, e63] at this
      generalize lo (2 ^ p) i + 2 ^ kk (2 ^ p) i = z at *
      omega
    rw [hv]
    have hw1 : wrap64 ((i : Int) + 1) = ((i + 1 : Nat) : Int) := by unfold wrap64; generalize (64 - p) * 2 ^ p = n at *; omega
    have ht : (((i + 1 : Nat) : Int) == (((64 - p) * 2 ^ p : Nat) : Int)) = true := by rw [beq_iff_eq]; omega
    generalize hj : i + 1 = j at *
    clear hi hlast hv e63 hj
    generalize (64 - p) * 2 ^ p = n at *
    generalize lo (2 ^ p) i = l at *
    go_enter Tryz.func77, Tryz.ntmps77
    go_wp2_with (first
      | (go_at_call 94; with_reducible refine (HP.out _).mono ?_; rintro e w1 ⟨⟨n1, rfl⟩, rfl⟩)
      | (go_at_call 93; with_reducible refine (HL.out _).mono ?_; rintro e w1 ⟨rfl, rfl⟩))
    go_ret2
    exact ⟨⟨n1, rfl⟩, rfl⟩
  · have hi' : i + 1 < (64 - p) * 2 ^ p := by omega
    have HN : Hid (∀ W, _) := rlow_yes p (i + 1) h1 h2 hi'
    have hb := hi_top hi h2
    rw [lo_next i (Nat.two_pow_pos p)] at HN
    have hp := Nat.two_pow_pos (kk (2 ^ p) i)
    rw [e63] at hb
    have hw1 : wrap64 ((i : Int) + 1) = ((i + 1 : Nat) : Int) := by unfold wrap64; generalize (64 - p) * 2 ^ p = n at *; omega
    have ht : (((i + 1 : Nat) : Int) == (((64 - p) * 2 ^ p : Nat) : Int)) = false := by rw [beq_eq_false_iff_ne]; omega
    generalize hj : i + 1 = j at *
    clear hi hlast hi' e63 hj
    generalize (64 - p) * 2 ^ p = n at *
    generalize 2 ^ kk (2 ^ p) i = t at *
    generalize lo (2 ^ p) i = l at *
    have hc : ¬ ((l + t : Nat) : Int) ≤ (l : Int) := by omega
    have hs : wrap64 (((l + t : Nat) : Int) - 1) = ((l + t - 1 : Nat) : Int) := by
      unfold wrap64; omega
    generalize l + t = s at *
    generalize s - 1 = s1 at *
    go_enter Tryz.func77, Tryz.ntmps77
    go_wp2_with (first
      | (go_at_call 94; (first | (with_reducible refine (HP.out _).mono ?_) | (with_reducible refine (HN.out _).mono ?_)); rintro e w1 ⟨⟨n1, rfl⟩, rfl⟩)
      | (go_at_call 93; with_reducible refine (HL.out _).mono ?_; rintro e w2 ⟨rfl, rfl⟩))
    go_ret2
    exact ⟨⟨_, rfl⟩, two_of (by unfold wrap64 at hs; omega)⟩
end Go.Proofs.YtckdkcnnfjbdmaaGreat
/- LISTS OF COUNTS in memory; Total. Own work of the verifier. -/
namespace Go.Proofs.YtckdkcnnfjbdmaaGreat
open Go.RowKit

def Wc (L : List Cn) : Prop := ∀ c ∈ L, -9223372036854775808 ≤ c.1 ∧ c.1 < 9223372036854775808 ∧ c.2 < 18446744073709551616
def RowC (W : World) (b o : Nat) (L : List Cn) : Prop := ∀ i (h : i < L.length), W.cell? ⟨b, o + i * 2, none⟩ = some (.int .i64 L[i].1) ∧ W.cell? ⟨b, o + i * 2 + 1, none⟩ = some (.int .u64 (L[i].2 : Int))
theorem lt_of_cell {w : World} {a : Addr} {v : Value} (h : w.cell? a = some v) : a.block < w.heap.size := by
  unfold World.cell? at h
  split at h
  · rename_i h1
    rcases Nat.lt_or_ge a.block w.heap.size with k | k
    · exact k
    · rw [Array.getElem?_eq_none k] at h1; cases h1
  · cases h
theorem RowC.lt {W : World} {b o : Nat} {L : List Cn} (h : RowC W b o L) (hL : L ≠ []) : b < W.heap.size := by
  have h0 : 0 < L.length := List.length_pos_iff.2 hL
  exact lt_of_cell (h 0 h0).1
theorem RowC.below {W W1 : World} {b o : Nat} {L : List Cn} {B : Nat} (h : RowC W b o L) (hb : Below B W W1) (hB : L ≠ [] → b < B) : RowC W1 b o L := fun i hi => by
  have hL : L ≠ [] := fun e => by rw [e] at hi; simp at hi
  rw [hb.cell (p := ⟨b, o + i * 2, none⟩) (hB hL), hb.cell (p := ⟨b, o + i * 2 + 1, none⟩) (hB hL)]
  exact h i hi
/-- The sum of all, brought round. -/
def tot (L : List Cn) : Nat := (L.map (·.2)).sum % 18446744073709551616
theorem tot_take (L : List Cn) (i : Nat) (h : i < L.length) : tot (L.take (i + 1)) = (tot (L.take i) + L[i].2) % 18446744073709551616 := by
  unfold tot
  rw [List.take_succ_eq_append_getElem h, List.map_append, List.sum_append]
  simp
theorem rtotal_any (ao : Option Addr) (b o cap : Nat) (L : List Cn) (hao : L ≠ [] → ao = some ⟨b, o, none⟩) (_hW : Wc L) (hl : L.length ≤ 9223372036854775807) (w : World) (hR : RowC w b o L) :
    Calls Tryz.prog 56 #[.slice ao L.length cap] w fun e w' => e = .returned (.int .u64 (tot L : Nat)) ∧ w' = w := by
  go_enter Tryz.func56, Tryz.ntmps56
  go_wp2_with fail
  go_loopw [3, 4] (fun a c wr => ∃ i : Nat, i ≤ L.length ∧ a = .int .u64 (tot (L.take i) : Nat) ∧ c = .int .i64 (i : Int) ∧ wr = w) (fun _ c _ => L.length - (intOf c).toNat)
  case atStart => exact ⟨0, by omega, rfl, rfl, rfl⟩
  case round =>
    obtain ⟨i, hi, rfl, rfl, rfl⟩ := hrel
    by_cases hlt : i < L.length
    · obtain rfl := hao (by intro e; rw [e] at hlt; simp at hlt)
      have hlt' : (i : Int) < (L.length : Int) := by omega
      have q1 := (hR i hlt).2
      have HS : Hid _ := tot_take L i hlt
      generalize L[i].2 = n at *
      generalize tot (L.take i) = t at *
      go_wp2_with fail
      exact ⟨⟨i + 1, by omega, by rw [HS.out, IntKind.wrap_u64]; congr 1, by go_num, True.intro⟩, by simp [intOf]; omega⟩
    · obtain rfl : i = L.length := by omega
      have hlt' : ¬ (L.length : Int) < (L.length : Int) := by omega
      go_wp2_with fail
      go_ret
      exact ⟨rfl, rfl⟩
end Go.Proofs.YtckdkcnnfjbdmaaGreat
/- Same and At, the document's. Own work of the verifier. -/
namespace Go.Proofs.YtckdkcnnfjbdmaaGreat
open Go.RowKit

set_option maxHeartbeats 1000000 in
theorem same_any (ao : Option Addr) (b o cap : Nat) (A : List Cn) (hao : A ≠ [] → ao = some ⟨b, o, none⟩) (ao' : Option Addr) (b' o' cap' : Nat) (C : List Cn) (hao' : C ≠ [] → ao' = some ⟨b', o', none⟩) (hl : A.length ≤ 9223372036854775807) (hl' : C.length ≤ 9223372036854775807) (w : World) (hA : RowC w b o A) (hC : RowC w b' o' C) :
    Calls Tryz.prog 41 #[.slice ao A.length cap, .slice ao' C.length cap'] w fun e w' => e = .returned (.bool (decide (A = C))) ∧ ∃ n, w' = w.drewN n := by
  by_cases hlen : A.length = C.length
  · have ht : ((A.length : Int) != (C.length : Int)) = false := by rw [bne_eq_false_iff_eq]; omega
    have HL : Hid _ := hlen
    clear hlen
    go_enter Tryz.func41, Tryz.ntmps41
    go_wp2_with fail
    go_loopw [5] (fun c wr => ∃ i n : Nat, i ≤ A.length ∧ c = .int .i64 (i : Int) ∧ wr = w.drewN n ∧ Hid (A.take i = C.take i)) (fun c _ => A.length - (intOf c).toNat)
    case atStart => exact ⟨0, 0, by omega, rfl, rfl, by simp [Hid]⟩
    case round =>
      obtain ⟨i, n, hi, rfl, rfl, hE⟩ := hrel
      by_cases hlt : i < A.length
      · have hlt2 : i < C.length := by have := HL.out; omega
        obtain rfl := hao (by intro e; rw [e] at hlt; simp at hlt)
        obtain rfl := hao' (by intro e; rw [e] at hlt2; simp at hlt2)
        have hlt' : (i : Int) < (A.length : Int) := by omega
        have hlt2' : (i : Int) < (C.length : Int) := by omega
        obtain ⟨q1, q2⟩ := hA i hlt
        obtain ⟨q3, q4⟩ := hC i hlt2
        have HT1 : Hid (A.take (i + 1) = A.take i ++ [A[i]]) := List.take_succ_eq_append_getElem hlt
        have HT2 : Hid (C.take (i + 1) = C.take i ++ [C[i]]) := List.take_succ_eq_append_getElem hlt2
        have HN : Hid (A[i] ≠ C[i] → A ≠ C) := fun h e => h (by subst e; rfl)
        obtain ⟨x, y, hxy⟩ : ∃ x y, A[i] = (x, y) := ⟨_, _, rfl⟩
        obtain ⟨u, v, huv⟩ : ∃ u v, C[i] = (u, v) := ⟨_, _, rfl⟩
        rw [hxy] at q1 q2 HT1 HN
        rw [huv] at q3 q4 HT2 HN
        clear hxy huv
        by_cases he : x = u ∧ y = v
        · obtain ⟨rfl, rfl⟩ := he
          go_wp2_with fail
          go_region
          go_wp2_with fail
          exact ⟨⟨i + 1, n + 1, by omega, by go_num, rfl, by unfold Hid; rw [HT1.out, HT2.out, hE.out]⟩, by simp [intOf]; omega⟩
        · have hne : decide (A = C) = false := decide_eq_false (HN.out (fun e => he ⟨(Prod.mk.inj e).1, (Prod.mk.inj e).2⟩))
          have HNE : Hid _ := hne
          have hor : (x == u) = false ∨ (x = u ∧ ((y : Int) == (v : Int)) = false) := by
            by_cases h1 : x = u
            · right
              exact ⟨h1, by rw [beq_eq_false_iff_ne]; intro h2; exact he ⟨h1, by omega⟩⟩
            · left
              rw [beq_eq_false_iff_ne]
              exact h1
          clear he hne HN
          rcases hor with h1 | ⟨rfl, h1⟩
          · go_wp2_with fail
            go_region
            go_wp2_with fail
            go_ret
            exact ⟨retB HNE.out.symm, n + 1, rfl⟩
          · go_wp2_with fail
            go_region
            go_wp2_with fail
            go_ret
            exact ⟨retB HNE.out.symm, n + 1, rfl⟩
      · obtain rfl : i = A.length := by omega
        have hlt' : ¬ (A.length : Int) < (A.length : Int) := by omega
        have he : decide (A = C) = true := by
          have := hE.out
          rw [List.take_length, HL.out, List.take_length] at this
          exact decide_eq_true this
        have HE : Hid _ := he
        clear he
        go_wp2_with fail
        go_ret
        exact ⟨retB HE.out.symm, n, rfl⟩
  · have ht : ((A.length : Int) != (C.length : Int)) = true := by rw [bne_iff_ne]; omega
    have hne : decide (A = C) = false := decide_eq_false (fun e => hlen (by rw [e]))
    rw [hne]
    clear hlen hne
    go_enter Tryz.func41, Tryz.ntmps41
    go_wp2_with fail
    go_ret
    exact ⟨rfl, 0, rfl⟩
end Go.Proofs.YtckdkcnnfjbdmaaGreat
/- At, the document's. Own work of the verifier. -/
namespace Go.Proofs.YtckdkcnnfjbdmaaGreat
open Go.RowKit

def atF : List Cn → Nat → Int × Int
  | [], _ => (0, 2)
  | c :: L, r => if r = 0 then (0, 2) else if r ≤ c.2 then (c.1, 0) else atF L (r - c.2)
theorem atF_zero (L : List Cn) : atF L 0 = (0, 2) := by cases L <;> simp [atF]
theorem atF_drop {L : List Cn} {i r : Nat} (h : i < L.length) (hr : r ≠ 0) : atF (L.drop i) r = if r ≤ L[i].2 then (L[i].1, 0) else atF (L.drop (i + 1)) (r - L[i].2) := by
  rw [List.drop_eq_getElem_cons h]
  simp only [atF]
  rw [if_neg hr]
theorem two_eq {x y : Int} {p : Int × Int} (h : p = (x, y)) : two x y = two p.1 p.2 := by rw [h]
set_option maxHeartbeats 1000000 in
theorem rat_any (ao : Option Addr) (b o cap : Nat) (L : List Cn) (hao : L ≠ [] → ao = some ⟨b, o, none⟩) (hl : L.length ≤ 9223372036854775807) (r : Nat) (hr : r < 18446744073709551616) (w : World) (hR : RowC w b o L) :
    Calls Tryz.prog 76 #[.slice ao L.length cap, .int .u64 (r : Int)] w fun e w' => e = two (atF L r).1 (atF L r).2 ∧ ∃ n, w' = w.drewN n := by
  go_enter Tryz.func76, Tryz.ntmps76
  go_wp2_with fail
  go_loopw [1, 6] (fun a c wr => ∃ i s n : Nat, i ≤ L.length ∧ s < 18446744073709551616 ∧ a = .int .u64 (s : Int) ∧ c = .int .i64 (i : Int) ∧ wr = w.drewN n ∧ Hid (atF L r = atF (L.drop i) s)) (fun _ c _ => L.length - (intOf c).toNat)
  case atStart => exact ⟨0, r, 0, by omega, hr, rfl, rfl, rfl, rfl⟩
  case round =>
    obtain ⟨i, s, n, hi, hs, rfl, rfl, rfl, hE⟩ := hrel
    by_cases hlt : i < L.length
    · have hlt' : (i : Int) < (L.length : Int) := by omega
      by_cases hs0 : s = 0
      · subst hs0
        have hz : ¬ (0 : Int) < ((0 : Nat) : Int) := by omega
        have HE : Hid (atF L r = (0, 2)) := by unfold Hid; rw [hE.out, atF_zero]
        go_wp2_with fail
        go_ret2
        exact ⟨two_eq HE.out, n, rfl⟩
      · have hz : (0 : Int) < (s : Int) := by omega
        obtain rfl := hao (by intro e; rw [e] at hlt; simp at hlt)
        obtain ⟨q1, q2⟩ := hR i hlt
        have HD : Hid _ := atF_drop hlt hs0
        obtain ⟨x, y, hxy⟩ : ∃ x y, L[i] = (x, y) := ⟨_, _, rfl⟩
        rw [hxy] at q1 q2 HD
        clear hxy
        by_cases hle : s ≤ y
        · have hle' : (s : Int) ≤ (y : Int) := by omega
          have HE : Hid (atF L r = (x, 0)) := by unfold Hid; rw [hE.out, HD.out, if_pos hle]
          clear HD hle hs0
          go_wp2_with fail
          go_ret2
          exact ⟨two_eq HE.out, n, rfl⟩
        · have hle' : ¬ (s : Int) ≤ (y : Int) := by omega
          have HE : Hid (atF L r = atF (L.drop (i + 1)) (s - y)) := by unfold Hid; rw [hE.out, HD.out, if_neg hle]
          have hw : IntKind.u64.wrap ((s : Int) - (y : Int)) = ((s - y : Nat) : Int) := by rw [IntKind.wrap_u64]; omega
          clear HD hs0
          go_wp2_with fail
          exact ⟨⟨i + 1, s - y, n, by omega, by omega, rfl, by go_num, rfl, HE⟩, by simp [intOf]; omega⟩
    · obtain rfl : i = L.length := by omega
      have hlt' : ¬ (L.length : Int) < (L.length : Int) := by omega
      have HE : Hid (atF L r = (0, 2)) := by unfold Hid; rw [hE.out, List.drop_length]; rfl
      go_wp2_with fail
      go_ret2
      exact ⟨two_eq HE.out, n, rfl⟩
end Go.Proofs.YtckdkcnnfjbdmaaGreat
/- May, the document's. Own work of the verifier. -/
namespace Go.Proofs.YtckdkcnnfjbdmaaGreat
open Go.RowKit

/-- What is wrong with a count at its place; 0: nothing. -/
def bad (N : Nat) (L : List Cn) (i : Nat) : Int :=
  if (L.getD i (0, 1)).1 < 0 ∨ (N : Int) ≤ (L.getD i (0, 1)).1 then 2
  else if 0 < i ∧ (L.getD i (0, 1)).1 ≤ (L.getD (i - 1) (0, 1)).1 then 15
  else if (L.getD i (0, 1)).2 = 0 then 16 else 0
def sumN (L : List Cn) : Nat := (L.map (·.2)).sum
theorem sumN_take (L : List Cn) (i : Nat) (h : i < L.length) : sumN (L.take (i + 1)) = sumN (L.take i) + L[i].2 := by
  unfold sumN
  rw [List.take_succ_eq_append_getElem h, List.map_append, List.sum_append]
  simp
/-- The error of counts. -/
def MayIs (p : Int) (L : List Cn) (e : Int) : Prop :=
  (¬ (1 ≤ p ∧ p ≤ 14) ∧ e = 1) ∨ ((1 ≤ p ∧ p ≤ 14) ∧ ((∃ i, i < L.length ∧ (∀ j, j < i → bad ((64 - p.toNat) * 2 ^ p.toNat) L j = 0) ∧ bad ((64 - p.toNat) * 2 ^ p.toNat) L i ≠ 0 ∧ e = bad ((64 - p.toNat) * 2 ^ p.toNat) L i) ∨
    ((∀ j, j < L.length → bad ((64 - p.toNat) * 2 ^ p.toNat) L j = 0) ∧ e = if 9223372036854775807 < sumN L then 3 else 0)))
theorem MayIs.uniq {p : Int} {L : List Cn} {e f : Int} (h : MayIs p L e) (k : MayIs p L f) : e = f := by
  rcases h with ⟨h1, rfl⟩ | ⟨h1, h2⟩
  · rcases k with ⟨_, rfl⟩ | ⟨k1, _⟩
    · rfl
    · exact absurd k1 h1
  · rcases k with ⟨k1, _⟩ | ⟨_, k2⟩
    · exact absurd h1 k1
    · rcases h2 with ⟨i, a1, a2, a3, rfl⟩ | ⟨a1, rfl⟩ <;> rcases k2 with ⟨j, b1, b2, b3, rfl⟩ | ⟨b1, rfl⟩
      · rcases Nat.lt_trichotomy i j with c | c | c
        · exact absurd (b2 i c) a3
        · rw [c]
        · exact absurd (a2 j c) b3
      · exact absurd (b1 i a1) a3
      · exact absurd (a1 j b1) b3
      · rfl
theorem rmay_bad (v : Value) (p : Int) (L : List Cn) (hp : ¬ (1 ≤ p ∧ p ≤ 14)) (w : World) :
    Calls Tryz.prog 55 #[.int .i64 p, v] w fun e w' => (∃ x, e = .returned (.int .i64 x) ∧ MayIs p L x) ∧ ∃ n, w' = w.drewN n := by
  have HM : Hid (MayIs p L 1) := Or.inl ⟨hp, rfl⟩
  by_cases c : p < 1
  · clear hp
    go_enter Tryz.func55, Tryz.ntmps55
    go_wp2_with fail
    go_ret
    exact ⟨⟨1, rfl, HM.out⟩, 0, rfl⟩
  · have d : 14 < p := by omega
    clear hp
    go_enter Tryz.func55, Tryz.ntmps55
    go_wp2_with fail
    go_ret
    exact ⟨⟨1, rfl, HM.out⟩, 0, rfl⟩
set_option maxRecDepth 10000 in
set_option maxHeartbeats 2000000 in
theorem rmay_good (ao : Option Addr) (b o cap : Nat) (p : Nat) (h1 : 1 ≤ p) (h2 : p ≤ 14) (L : List Cn) (hao : L ≠ [] → ao = some ⟨b, o, none⟩) (hW : Wc L) (hl : L.length ≤ 9223372036854775807) (w : World) (hR : RowC w b o L) :
    Calls Tryz.prog 55 #[.int .i64 (p : Int), .slice ao L.length cap] w fun e w' => (∃ x, e = .returned (.int .i64 x) ∧ MayIs (p : Int) L x) ∧ ∃ n, w' = w.drewN n := by
  have HL : Hid (∀ W, _) := rlen_yes p h1 h2
  have c1 : ¬ (p : Int) < 1 := by omega
  have c2 : ¬ 14 < (p : Int) := by omega
  have HM : Hid (∀ e : Int, ((∃ i, i < L.length ∧ (∀ j, j < i → bad ((64 - p) * 2 ^ p) L j = 0) ∧ bad ((64 - p) * 2 ^ p) L i ≠ 0 ∧ e = bad ((64 - p) * 2 ^ p) L i) ∨ ((∀ j, j < L.length → bad ((64 - p) * 2 ^ p) L j = 0) ∧ e = if 9223372036854775807 < sumN L then 3 else 0)) → MayIs (p : Int) L e) := fun e h => Or.inr ⟨⟨by omega, by omega⟩, h⟩
  generalize (64 - p) * 2 ^ p = N at *
  go_enter Tryz.func55, Tryz.ntmps55
  go_wp2_with fail
  go_loopw [5, 6, 7] (fun a c d wr => ∃ (i n t : Nat) (m : Bool), i ≤ L.length ∧ t < 18446744073709551616 ∧ a = .int .u64 (t : Int) ∧ c = .bool m ∧ d = .int .i64 (i : Int) ∧ wr = w.drewN n ∧ Hid (∀ j, j < i → bad N L j = 0) ∧ Hid ((m = false ∧ t + sumN (L.take i) = 9223372036854775807) ∨ (m = true ∧ 9223372036854775807 < sumN (L.take i)))) (fun _ _ d _ => L.length - (intOf d).toNat)
  case atStart => exact ⟨0, 0, 9223372036854775807, false, by omega, by omega, rfl, rfl, rfl, rfl, fun j hj => by omega, Or.inl ⟨rfl, rfl⟩⟩
  case round =>
    obtain ⟨i, n, t, m, hi, ht, rfl, rfl, rfl, rfl, hB, hS⟩ := hrel
    by_cases hlt : i < L.length
    · have hlt' : (i : Int) < (L.length : Int) := by omega
      obtain rfl := hao (by intro e; rw [e] at hlt; simp at hlt)
      obtain ⟨q1, q2⟩ := hR i hlt
      have hg : L.getD i (0, 1) = L[i] := by simp [List.getD, hlt]
      have HT : Hid _ := sumN_take L i hlt
      have hy : L[i].2 < 18446744073709551616 := (hW _ (List.getElem_mem hlt)).2.2
      obtain ⟨x, y, hxy⟩ : ∃ x y, L[i] = (x, y) := ⟨_, _, rfl⟩
      have HBd : Hid (bad N L i = if x < 0 ∨ (N : Int) ≤ x then 2 else if 0 < i ∧ x ≤ (L.getD (i - 1) (0, 1)).1 then 15 else if y = 0 then 16 else 0) := by unfold Hid bad; rw [hg, hxy]
      rw [hxy] at q1 q2 HT hy
      clear hxy hg
      by_cases k1 : x < 0
      · have hret : Hid (MayIs (p : Int) L 2) := HM.out 2 (Or.inl ⟨i, hlt, hB.out, by rw [HBd.out, if_pos (Or.inl k1)]; decide, by rw [HBd.out, if_pos (Or.inl k1)]⟩)
        clear HBd hB hS HT
        go_wp2_with fail
        go_quiet (fail)
        go_wp2_with fail
        go_ret
        exact ⟨⟨2, rfl, hret.out⟩, n + nq, World.drewN_drewN _ _ _⟩
      · have d1 : decide (x < 0) = false := decide_eq_false k1
        by_cases k2 : (N : Int) ≤ x
        · have hret : Hid (MayIs (p : Int) L 2) := HM.out 2 (Or.inl ⟨i, hlt, hB.out, by rw [HBd.out, if_pos (Or.inr k2)]; decide, by rw [HBd.out, if_pos (Or.inr k2)]⟩)
          clear HBd hB hS HT
          go_wp2_with fail
          go_region_held3 (fun W => W.cell? ⟨b, o + i * 2, none⟩ = some (.int .i64 x) ∧ W.cell? ⟨b, o + i * 2 + 1, none⟩ = some (.int .u64 (y : Int))) (first | assumption | go_keep)
            (first | (go_at_call 93; with_reducible refine (HL.out _).mono ?_; rintro e w1 ⟨rfl, rfl⟩))
          go_wp2_with fail
          go_ret
          exact ⟨⟨2, rfl, hret.out⟩, _, rfl⟩
        · have d2 : decide ((N : Int) ≤ x) = false := decide_eq_false k2
          have HB2 : Hid (bad N L i = if 0 < i ∧ x ≤ (L.getD (i - 1) (0, 1)).1 then 15 else if y = 0 then 16 else 0) := by unfold Hid; rw [HBd.out, if_neg (by rintro (h | h); exact k1 h; exact k2 h)]
          clear k2
          go_wp2_with fail
          go_region_held3 (fun W => W.cell? ⟨b, o + i * 2, none⟩ = some (.int .i64 x) ∧ W.cell? ⟨b, o + i * 2 + 1, none⟩ = some (.int .u64 (y : Int))) (first | assumption | go_keep)
            (first | (go_at_call 93; with_reducible refine (HL.out _).mono ?_; rintro e w1 ⟨rfl, rfl⟩))
          go_wp2_with fail
          by_cases hi0 : i = 0
          · have d3 : decide ((0 : Int) < (i : Int)) = false := decide_eq_false (by omega)
            have d4 : decide (0 < i) = false := decide_eq_false (by omega)
            have HB3 : Hid (bad N L i = if y = 0 then 16 else 0) := by unfold Hid; rw [HB2.out, if_neg (by omega)]
            clear HB2 hi0
            go_quiet (fail)
            rw [World.drewN_drewN]
            by_cases k4 : y = 0
            · have hret : Hid (MayIs (p : Int) L 16) := HM.out 16 (Or.inl ⟨i, hlt, hB.out, by rw [HB3.out, if_pos k4]; decide, by rw [HB3.out, if_pos k4]⟩)
              have t4 : ((y : Int) == 0) = true := by rw [beq_iff_eq]; omega
              clear HB3 hB hS HT HBd k4
              go_wp2_with fail
              go_ret
              exact ⟨⟨16, rfl, hret.out⟩, _, rfl⟩
            · have t4 : ((y : Int) == 0) = false := by rw [beq_eq_false_iff_ne]; omega
              have HB5 : Hid (∀ j, j < i + 1 → bad N L j = 0) := fun j hj => by
                by_cases e : j = i
                · subst e; rw [HB3.out, if_neg k4]
                · exact hB.out j (by omega)
              clear HB3 HBd k4
              rcases hS.out with ⟨rfl, hs⟩ | ⟨rfl, hs⟩
              · by_cases k5 : t < y
                · have t5 : (t : Int) < (y : Int) := by omega
                  have hN : Hid (9223372036854775807 < sumN (L.take (i + 1))) := by unfold Hid; rw [HT.out]; show _ < _ + y; omega
                  have hw : ∃ t' : Nat, IntKind.u64.wrap ((t : Int) - (y : Int)) = (t' : Int) ∧ t' < 18446744073709551616 := ⟨(IntKind.u64.wrap ((t : Int) - (y : Int))).toNat, by rw [IntKind.wrap_u64]; omega, by rw [IntKind.wrap_u64]; omega⟩
                  obtain ⟨t', hw1, hw2⟩ := hw
                  clear hB hS HT hs k5
                  go_wp2_with fail
                  exact ⟨⟨i + 1, _, t', true, by omega, hw2, rfl, rfl, by go_num, rfl, HB5, Or.inr ⟨rfl, hN.out⟩⟩, by simp [intOf]; omega⟩
                · have t5 : ¬ (t : Int) < (y : Int) := by omega
                  have hN : Hid (t - y + sumN (L.take (i + 1)) = 9223372036854775807) := by unfold Hid; rw [HT.out]; show _ + (_ + y) = _; omega
                  have hw1 : IntKind.u64.wrap ((t : Int) - (y : Int)) = ((t - y : Nat) : Int) := by rw [IntKind.wrap_u64]; omega
                  clear hB hS HT hs
                  go_wp2_with fail
                  exact ⟨⟨i + 1, _, t - y, false, by omega, by omega, by first | rw [hw1] | rfl | go_num, rfl, by go_num, rfl, HB5, Or.inl ⟨rfl, hN.out⟩⟩, by simp [intOf]; omega⟩
              · have hN : Hid (9223372036854775807 < sumN (L.take (i + 1))) := by unfold Hid; rw [HT.out]; show _ < _ + y; omega
                have hw : ∃ t' : Nat, IntKind.u64.wrap ((t : Int) - (y : Int)) = (t' : Int) ∧ t' < 18446744073709551616 := ⟨(IntKind.u64.wrap ((t : Int) - (y : Int))).toNat, by rw [IntKind.wrap_u64]; omega, by rw [IntKind.wrap_u64]; omega⟩
                obtain ⟨t', hw1, hw2⟩ := hw
                clear hB hS HT hs
                go_wp2_with fail
                exact ⟨⟨i + 1, _, t', true, by omega, hw2, rfl, rfl, by go_num, rfl, HB5, Or.inr ⟨rfl, hN.out⟩⟩, by simp [intOf]; omega⟩

          · have d3 : decide ((0 : Int) < (i : Int)) = true := decide_eq_true (by omega)
            obtain ⟨i1, rfl⟩ : ∃ i1, i = i1 + 1 := ⟨i - 1, by omega⟩
            have d4 : decide (0 < i1 + 1) = true := decide_eq_true (by omega)
            have d6 : decide ((0 : Int) < (i1 : Int) + 1) = true := decide_eq_true (by omega)
            have hi1 : i1 < L.length := by omega
            obtain ⟨r1, r2⟩ := hR i1 hi1
            have hg1 : L.getD (i1 + 1 - 1) (0, 1) = L[i1] := by rw [Nat.add_sub_cancel]; simp [List.getD, hi1]
            rw [hg1] at HB2
            generalize L[i1] = pc at *
            have e2 : (0 : Int) ≤ (i1 : Int) ∧ (i1 : Int) < (L.length : Int) := by omega
            have e3 : (0 : Int) ≤ (i1 : Int) + 1 ∧ (i1 : Int) + 1 < (L.length : Int) := by omega
            have e4 : ((i1 + 1 : Nat) : Int) = (i1 : Int) + 1 := by omega
            rw [e4] at *
            clear hg1
            by_cases k3 : x ≤ pc.1
            · have hret : Hid (MayIs (p : Int) L 15) := HM.out 15 (Or.inl ⟨i1 + 1, hlt, hB.out, by rw [HB2.out, if_pos ⟨by omega, k3⟩]; decide, by rw [HB2.out, if_pos ⟨by omega, k3⟩]⟩)
              have d5 : decide (x ≤ pc.1) = true := decide_eq_true k3
              clear HB2 HBd hB hS HT
              go_region
              go_wp2_with fail
              go_ret
              exact ⟨⟨15, rfl, hret.out⟩, _, rfl⟩
            · have d5 : decide (x ≤ pc.1) = false := decide_eq_false k3
              have HB3 : Hid (bad N L (i1 + 1) = if y = 0 then 16 else 0) := by unfold Hid; rw [HB2.out, if_neg (fun h => k3 h.2)]
              clear HB2
              go_region
              by_cases k4 : y = 0
              · have hret : Hid (MayIs (p : Int) L 16) := HM.out 16 (Or.inl ⟨i1 + 1, hlt, hB.out, by rw [HB3.out, if_pos k4]; decide, by rw [HB3.out, if_pos k4]⟩)
                have t4 : ((y : Int) == 0) = true := by rw [beq_iff_eq]; omega
                clear HB3 hB hS HT HBd k4
                go_wp2_with fail
                go_ret
                exact ⟨⟨16, rfl, hret.out⟩, _, rfl⟩
              · have t4 : ((y : Int) == 0) = false := by rw [beq_eq_false_iff_ne]; omega
                have HB5 : Hid (∀ j, j < i1 + 1 + 1 → bad N L j = 0) := fun j hj => by
                  by_cases e : j = i1 + 1
                  · subst e; rw [HB3.out, if_neg k4]
                  · exact hB.out j (by omega)
                clear HB3 HBd k4
                rcases hS.out with ⟨rfl, hs⟩ | ⟨rfl, hs⟩
                · by_cases k5 : t < y
                  · have t5 : (t : Int) < (y : Int) := by omega
                    have hN : Hid (9223372036854775807 < sumN (L.take (i1 + 1 + 1))) := by unfold Hid; rw [HT.out]; show _ < _ + y; omega
                    have hw : ∃ t' : Nat, IntKind.u64.wrap ((t : Int) - (y : Int)) = (t' : Int) ∧ t' < 18446744073709551616 := ⟨(IntKind.u64.wrap ((t : Int) - (y : Int))).toNat, by rw [IntKind.wrap_u64]; omega, by rw [IntKind.wrap_u64]; omega⟩
                    obtain ⟨t', hw1, hw2⟩ := hw
                    clear hB hS HT hs k5
                    go_wp2_with fail
                    exact ⟨⟨i1 + 1 + 1, _, t', true, by omega, hw2, rfl, rfl, by go_num, rfl, HB5, Or.inr ⟨rfl, hN.out⟩⟩, by simp [intOf]; omega⟩
                  · have t5 : ¬ (t : Int) < (y : Int) := by omega
                    have hN : Hid (t - y + sumN (L.take (i1 + 1 + 1)) = 9223372036854775807) := by unfold Hid; rw [HT.out]; show _ + (_ + y) = _; omega
                    have hw1 : IntKind.u64.wrap ((t : Int) - (y : Int)) = ((t - y : Nat) : Int) := by rw [IntKind.wrap_u64]; omega
                    clear hB hS HT hs
                    go_wp2_with fail
                    exact ⟨⟨i1 + 1 + 1, _, t - y, false, by omega, by omega, by first | rw [hw1] | rfl | go_num, rfl, by go_num, rfl, HB5, Or.inl ⟨rfl, hN.out⟩⟩, by simp [intOf]; omega⟩
                · have hN : Hid (9223372036854775807 < sumN (L.take (i1 + 1 + 1))) := by unfold Hid; rw [HT.out]; show _ < _ + y; omega
                  have hw : ∃ t' : Nat, IntKind.u64.wrap ((t : Int) - (y : Int)) = (t' : Int) ∧ t' < 18446744073709551616 := ⟨(IntKind.u64.wrap ((t : Int) - (y : Int))).toNat, by rw [IntKind.wrap_u64]; omega, by rw [IntKind.wrap_u64]; omega⟩
                  obtain ⟨t', hw1, hw2⟩ := hw
                  clear hB hS HT hs
                  go_wp2_with fail
                  exact ⟨⟨i1 + 1 + 1, _, t', true, by omega, hw2, rfl, rfl, by go_num, rfl, HB5, Or.inr ⟨rfl, hN.out⟩⟩, by simp [intOf]; omega⟩
    · obtain rfl : i = L.length := by omega
      have hlt' : ¬ (L.length : Int) < (L.length : Int) := by omega
      have hB' := hB.out
      have hS' := hS.out
      rw [List.take_length] at hS'
      rcases hS' with ⟨rfl, hs⟩ | ⟨rfl, hs⟩
      · have hret : Hid (MayIs (p : Int) L 0) := HM.out 0 (Or.inr ⟨hB', by rw [if_neg (by omega)]⟩)
        clear hB' hB hS hs
        go_wp2_with fail
        go_ret
        exact ⟨⟨0, rfl, hret.out⟩, n, rfl⟩
      · have hret : Hid (MayIs (p : Int) L 3) := HM.out 3 (Or.inr ⟨hB', by rw [if_pos hs]⟩)
        clear hB' hB hS hs
        go_wp2_with fail
        go_ret
        exact ⟨⟨3, rfl, hret.out⟩, n, rfl⟩
end Go.Proofs.YtckdkcnnfjbdmaaGreat
