/- COUNTS, merged: the plain mathematics. Own work of the verifier. -/
import Derived.Handy
import Derived.Test.YtfnohbalkpponaaGreatDoorRows
import Derived.WalkKit
import Derived.WalkSpells
import Derived.RowKit3
import Derived.Below
import Derived.Outline
import Derived.Deep.QuietTactic
import Derived.Deep.Draws
import Derived.BigQuiet
import Derived.Laws.Bits64
import Derived.Laws.BitsAllLaws
import Derived.Laws.ShiftsVarLaws
import Derived.Deep.RegionHeld3
namespace Go.Proofs.YtfnohbalkpponaaGreatDoor

/-- A count: an index and a number. -/
abbrev Cn := Int × Nat
/-- What all counts of an index come to. -/
def key : List Cn → Int → Nat
  | [], _ => 0
  | c :: L, k => (if c.1 = k then c.2 else 0) + key L k
theorem key_append (A B : List Cn) (k : Int) : key (A ++ B) k = key A k + key B k := by
  induction A with
  | nil => rw [List.nil_append]; simp [key]
  | cons c A ih => rw [List.cons_append]; simp only [key]; rw [ih]; omega
theorem key_perm {A B : List Cn} (h : A.Perm B) (k : Int) : key A k = key B k := by
  induction h with
  | nil => rfl
  | cons c _ ih => simp only [key]; rw [ih]
  | swap c d l => simp only [key]; omega
  | trans _ _ h1 h2 => rw [h1, h2]
def Rise (L : List Cn) : Prop := L.Pairwise (fun a b => a.1 < b.1)
def Srt (L : List Cn) : Prop := L.Pairwise (fun a b => a.1 ≤ b.1)
theorem key_none {L : List Cn} {k : Int} (h : ∀ c ∈ L, c.1 ≠ k) : key L k = 0 := by
  induction L with
  | nil => rfl
  | cons c L ih =>
    simp only [key]
    rw [if_neg (h c (by simp)), ih (fun d hd => h d (by simp [hd]))]
theorem key_head {c : Cn} {L : List Cn} (h : Rise (c :: L)) : key (c :: L) c.1 = c.2 := by
  have hc := (List.pairwise_cons.1 h).1
  simp only [key, if_true]
  rw [key_none (fun d hd => by have := hc d hd; omega)]
  rfl
theorem key_less {L : List Cn} {c : Cn} (h : Rise (c :: L)) {k : Int} (hk : k < c.1) : key (c :: L) k = 0 := by
  have hc := (List.pairwise_cons.1 h).1
  refine key_none fun d hd => ?_
  rcases List.mem_cons.1 hd with rfl | hd
  · omega
  · have := hc d hd; omega
/-- Rising lists with the same sums are the same. -/
theorem rise_eq : ∀ (A B : List Cn), Rise A → Rise B → (∀ c ∈ A, c.2 ≠ 0) → (∀ c ∈ B, c.2 ≠ 0) → (∀ k, key A k = key B k) → A = B
  | [], [], _, _, _, _, _ => rfl
  | [], b :: B, _, hB, _, nB, h => by
    have := h b.1
    rw [key_head hB] at this
    exact absurd this.symm (nB b (by simp))
  | a :: A, [], hA, _, nA, _, h => by
    have := h a.1
    rw [key_head hA] at this
    exact absurd this (nA a (by simp))
  | a :: A, b :: B, hA, hB, nA, nB, h => by
    have e1 : a.1 = b.1 := by
      rcases Int.lt_trichotomy a.1 b.1 with c | c | c
      · have := h a.1
        rw [key_head hA, key_less hB c] at this
        exact absurd this (nA a (by simp))
      · exact c
      · have := h b.1
        rw [key_head hB, key_less hA c] at this
        exact absurd this.symm (nB b (by simp))
    have e2 : a.2 = b.2 := by
      have := h a.1
      rw [key_head hA, e1, key_head hB] at this
      exact this
    have e3 : A = B := rise_eq A B (List.pairwise_cons.1 hA).2 (List.pairwise_cons.1 hB).2 (fun c hc => nA c (by simp [hc])) (fun c hc => nB c (by simp [hc])) (fun k => by
      have := h k
      simp only [key] at this
      rw [e1, e2] at this
      omega)
    rw [e3, Prod.ext e1 e2]
/-- The document's merge of counts. -/
structure IsMerge (O L : List Cn) : Prop where
  rise : Rise O
  nz : ∀ c ∈ O, c.2 ≠ 0 ∧ c.2 < 18446744073709551616
  keys : ∀ k, key O k = key L k % 18446744073709551616
theorem IsMerge.uniq {A B L : List Cn} (h : IsMerge A L) (k : IsMerge B L) : A = B :=
  rise_eq A B h.rise k.rise (fun c hc => (h.nz c hc).1) (fun c hc => (k.nz c hc).1) (fun x => by rw [h.keys, k.keys])
theorem IsMerge.perm {A L M : List Cn} (h : IsMerge A L) (p : L.Perm M) : IsMerge A M := ⟨h.rise, h.nz, fun k => by rw [h.keys, key_perm p]⟩
theorem isMerge_nil : IsMerge [] [] := ⟨List.Pairwise.nil, (fun c hc => by cases hc), fun k => rfl⟩
/-- Whatever stands ahead of a place is less than what stands behind. -/
def Cut (S : List Cn) (i : Nat) : Prop := ∀ c ∈ S.take i, ∀ d ∈ S.drop i, c.1 < d.1
theorem cut_zero (S : List Cn) : Cut S 0 := fun c hc => by simp at hc
/-- Places i to j have one index. -/
def Run (S : List Cn) (i j : Nat) (x : Int) : Prop := ∀ t (h : t < S.length), i ≤ t → t < j → S[t].1 = x
theorem sort_get {S : List Cn} (h : Srt S) {s t : Nat} (hs : s < S.length) (ht : t < S.length) (hst : s < t) : S[s].1 ≤ S[t].1 := (List.pairwise_iff_getElem.1 h) s t hs ht hst
theorem cut_next {S : List Cn} (hS : Srt S) {i j : Nat} {x : Int} (hij : i < j) (hj : j ≤ S.length) (hc : Cut S i) (hr : Run S i j x) (he : ∀ h : j < S.length, S[j].1 ≠ x) : Cut S j := by
  intro c hcm d hdm
  obtain ⟨s, hs, rfl⟩ := List.getElem_of_mem hcm
  obtain ⟨t, ht, rfl⟩ := List.getElem_of_mem hdm
  rw [List.length_take] at hs
  rw [List.length_drop] at ht
  rw [List.getElem_take, List.getElem_drop]
  have hjl : j < S.length := by omega
  have a1 : S[j].1 ≤ S[j + t].1 := by
    rcases Nat.eq_zero_or_pos t with e | e
    · subst e; exact Int.le_refl _
    · exact sort_get hS hjl (by omega) (by omega)
  have hi : S[i].1 = x := hr i (by omega) (Nat.le_refl _) hij
  have a2 : x < S[j].1 := by
    have := sort_get hS (s := i) (t := j) (by omega) hjl hij
    have := he hjl
    omega
  by_cases k : s < i
  · have : S[s].1 < S[i].1 := hc _ (List.mem_iff_getElem.2 ⟨s, by rw [List.length_take]; omega, by rw [List.getElem_take]⟩) _ (List.mem_iff_getElem.2 ⟨0, by rw [List.length_drop]; omega, by rw [List.getElem_drop]; simp⟩)
    omega
  · have : S[s].1 = x := hr s (by omega) (by omega) (by omega)
    omega
theorem key_take (S : List Cn) {j : Nat} (h : j < S.length) (k : Int) : key (S.take (j + 1)) k = key (S.take j) k + (if S[j].1 = k then S[j].2 else 0) := by
  rw [List.take_succ_eq_append_getElem h, key_append]
  simp [key]
/-- One group more. -/
theorem group_merge {S O : List Cn} {i j : Nat} {x : Int} {N : Nat} (hij : i < j) (hj : j ≤ S.length) (hO : IsMerge O (S.take i)) (hOm : ∀ c ∈ O, ∀ d ∈ S.drop i, c.1 < d.1) (hr : Run S i j x) (hN : N = key (S.take j) x % 18446744073709551616) :
    IsMerge (if N ≠ 0 then O ++ [(x, N)] else O) (S.take j) := by
  have hx : S[i].1 = x := hr i (by omega) (Nat.le_refl _) hij
  have hmem : (S[i]'(by omega)) ∈ S.drop i := List.mem_iff_getElem.2 ⟨0, by rw [List.length_drop]; omega, by rw [List.getElem_drop]; simp⟩
  have hlt : ∀ c ∈ O, c.1 < x := fun c hc' => by rw [← hx]; exact hOm c hc' _ hmem
  have hOx : key O x = 0 := key_none fun c hc' => by have := hlt c hc'; omega
  have hkeys : ∀ k, k ≠ x → key (S.take j) k = key (S.take i) k := fun k hk => by
    have : ∀ m, i + m ≤ j → key (S.take (i + m)) k = key (S.take i) k := fun m => by
      induction m with
      | zero => intro _; rfl
      | succ m ih =>
        intro hm
        rw [show i + (m + 1) = i + m + 1 from rfl, key_take S (by omega), ih (by omega), if_neg (by rw [hr (i + m) (by omega) (by omega) (by omega)]; exact fun e => hk e.symm)]
        rfl
    have h := this (j - i) (by omega)
    rw [show i + (j - i) = j by omega] at h
    exact h
  have hkx : ∀ k, key (if N ≠ 0 then O ++ [(x, N)] else O) k = if k = x then N else key O k := fun k => by
    by_cases hz : N ≠ 0
    · rw [if_pos hz, key_append]
      simp only [key]
      by_cases e : k = x
      · subst e; simp only [if_true]; rw [hOx]; omega
      · rw [if_neg (fun h => e h.symm), if_neg e]; omega
    · rw [if_neg hz]
      by_cases e : k = x
      · subst e; rw [if_pos rfl, hOx]; omega
      · rw [if_neg e]
  refine ⟨?_, ?_, fun k => ?_⟩
  · split
    · refine List.pairwise_append.2 ⟨hO.rise, List.pairwise_singleton _ _, fun a ha b hb => ?_⟩
      rw [List.mem_singleton.1 hb]
      exact hlt a ha
    · exact hO.rise
  · intro c hc'
    split at hc'
    · rcases List.mem_append.1 hc' with h | h
      · exact hO.nz c h
      · rw [List.mem_singleton.1 h]
        exact ⟨by assumption, by show N < _; omega⟩
    · exact hO.nz c hc'
  · rw [hkx]
    by_cases e : k = x
    · subst e; rw [if_pos rfl]; exact hN
    · rw [if_neg e, hO.keys, hkeys k e]
theorem group_less {S O : List Cn} {i j : Nat} {x : Int} {N : Nat} (hij : i < j) (hj : j ≤ S.length) (hOm : ∀ c ∈ O, ∀ d ∈ S.drop i, c.1 < d.1) (hr : Run S i j x) (hcj : Cut S j) : ∀ c ∈ (if N ≠ 0 then O ++ [(x, N)] else O), ∀ d ∈ S.drop j, c.1 < d.1 := by
  intro c hc d hd
  have hdi : d ∈ S.drop i := by
    have e : S.drop j = (S.drop i).drop (j - i) := by rw [List.drop_drop]; congr 1; omega
    rw [e] at hd
    exact List.mem_of_mem_drop hd
  split at hc
  · rcases List.mem_append.1 hc with h | h
    · exact hOm c h d hdi
    · rw [List.mem_singleton.1 h]
      have hx : S[i].1 = x := hr i (by omega) (Nat.le_refl _) hij
      rw [← hx]
      exact hcj (S[i]'(by omega)) (List.mem_iff_getElem.2 ⟨i, by rw [List.length_take]; omega, by rw [List.getElem_take]⟩) d hd
  · exact hOm c hc d hdi
end Go.Proofs.YtfnohbalkpponaaGreatDoor
/- Buckets, in whole numbers. Own work of the verifier. -/
namespace Go.Proofs.YtfnohbalkpponaaGreatDoor

/-- How many low bits the bucket of v does not look at, P being the least value beyond the first group. -/
def IsK (P v k : Nat) : Prop := v / 2 ^ (k + 1) < P ∧ (k = 0 ∨ P ≤ v / 2 ^ k)
def idx (P v k : Nat) : Nat := k * P + v / 2 ^ k
def kk (P i : Nat) : Nat := i / P - 1
def rr (P i : Nat) : Nat := i - kk P i * P
def lo (P i : Nat) : Nat := rr P i * 2 ^ kk P i

theorem div_half (v k : Nat) : v / 2 ^ (k + 1) = v / 2 ^ k / 2 := by rw [Nat.pow_succ, Nat.div_div_eq_div_mul]
theorem IsK.two {P v k : Nat} (h : IsK P v k) : v / 2 ^ k < 2 * P := by
  have := h.1
  rw [div_half] at this
  omega
theorem rr_lt {P : Nat} (i : Nat) (hP : 0 < P) : rr P i < 2 * P ∧ (kk P i = 0 ∨ P ≤ rr P i) ∧ kk P i * P + rr P i = i := by
  unfold rr kk
  have hm := Nat.div_add_mod i P
  have hl := Nat.mod_lt i hP
  rw [Nat.mul_comm] at hm
  generalize hq : i / P = q at *
  rcases Nat.eq_zero_or_pos q with e | e
  · subst e
    simp at hm ⊢
    omega
  · obtain ⟨q', rfl⟩ : ∃ q', q = q' + 1 := ⟨q - 1, by omega⟩
    rw [Nat.add_mul] at hm
    simp only [Nat.add_sub_cancel]
    omega
theorem kk_top {p i : Nat} (h : i < (64 - p) * 2 ^ p) (hp : p ≤ 14) : kk (2 ^ p) i + p ≤ 62 := by
  have : i / 2 ^ p < 64 - p := Nat.div_lt_of_lt_mul (by rw [Nat.mul_comm]; exact h)
  unfold kk
  omega
theorem hi_top {p i : Nat} (h : i < (64 - p) * 2 ^ p) (hp : p ≤ 14) : lo (2 ^ p) i + 2 ^ kk (2 ^ p) i ≤ 2 ^ 63 := by
  obtain ⟨a1, _, _⟩ := rr_lt i (Nat.two_pow_pos p)
  have hk := kk_top h hp
  unfold lo
  generalize kk (2 ^ p) i = k at *
  have e : (rr (2 ^ p) i + 1) * 2 ^ k ≤ (2 * 2 ^ p) * 2 ^ k := Nat.mul_le_mul_right _ a1
  have e2 : 2 * 2 ^ p * 2 ^ k = 2 ^ (1 + p + k) := by rw [Nat.pow_add, Nat.pow_add]
  have e3 : 2 ^ (1 + p + k) ≤ 2 ^ 63 := Nat.pow_le_pow_right (by decide) (by omega)
  rw [Nat.add_mul, Nat.one_mul] at e
  omega
end Go.Proofs.YtfnohbalkpponaaGreatDoor
/- THE LEAVES of bucket. Own work of the verifier. -/
namespace Go.Proofs.YtfnohbalkpponaaGreatDoor
open Go.RowKit

theorem retI {k : IntKind} {A B : Int} (h : A = B) : Ending.returned (Value.int k A) = .returned (.int k B) := by rw [h]
theorem retB {A B : Bool} (h : A = B) : Ending.returned (Value.bool A) = .returned (.bool B) := by rw [h]
theorem pow_lt (p : Nat) (h : p ≤ 14) : 2 ^ p ≤ 16384 := by
  have : 2 ^ p ≤ 2 ^ 14 := Nat.pow_le_pow_right (by decide) h
  omega
theorem pow_lt' (p : Nat) (h : p ≤ 62) : 2 ^ p ≤ 4611686018427387904 := by
  have : 2 ^ p ≤ 2 ^ 62 := Nat.pow_le_pow_right (by decide) h
  omega
theorem cast_pow (p : Nat) : (2 : Int) ^ p = ((2 ^ p : Nat) : Int) := by simp
theorem wrap_small {x : Int} (h1 : 0 ≤ x) (h2 : x < 9223372036854775808) : wrap64 x = x := by unfold wrap64; omega
theorem wrap_nat {x : Int} {n : Nat} (h1 : x = (n : Int)) (h2 : n < 9223372036854775808) : wrap64 x = (n : Int) := by rw [h1]; exact wrap_small (by omega) (by omega)
theorem wrap_pow (p : Nat) (h : p ≤ 62) : wrap64 ((2 : Int) ^ p) = ((2 ^ p : Nat) : Int) := wrap_nat (cast_pow p) (by have := pow_lt' p h; omega)
theorem len_le (p : Nat) (h : p ≤ 14) : (64 - p) * 2 ^ p ≤ 1048576 := Nat.mul_le_mul (by omega : 64 - p ≤ 64) (pow_lt p h)
theorem len_int (p : Nat) (h : p ≤ 14) : ((64 : Int) - (p : Int)) * 2 ^ p = (((64 - p) * 2 ^ p : Nat) : Int) := by
  rw [cast_pow, show (64 : Int) - (p : Int) = ((64 - p : Nat) : Int) by omega, Int.natCast_mul]

theorem pr_yes (p : Nat) (h1 : 1 ≤ p) (h2 : p ≤ 14) (w : World) : Calls Tryz.prog 228 #[.int .i64 (p : Int)] w fun e w' => e = .returned (.bool true) ∧ w' = w := by
  have c1 : (1 : Int) ≤ (p : Int) := by omega
  have c2 : (p : Int) ≤ 14 := by omega
  go_enter Tryz.func228, Tryz.ntmps228
  go_wp2
  go_ret
  exact ⟨rfl, rfl⟩
theorem pr_no (p : Int) (h : ¬ (1 ≤ p ∧ p ≤ 14)) (w : World) : Calls Tryz.prog 228 #[.int .i64 p] w fun e w' => e = .returned (.bool false) ∧ w' = w := by
  by_cases c : 1 ≤ p
  · have d : ¬ p ≤ 14 := fun k => h ⟨c, k⟩
    clear h
    go_enter Tryz.func228, Tryz.ntmps228
    go_wp2
    go_ret
    exact ⟨rfl, rfl⟩
  · clear h
    go_enter Tryz.func228, Tryz.ntmps228
    go_wp2
    go_ret
    exact ⟨rfl, rfl⟩
theorem len_yes (p : Nat) (h1 : 1 ≤ p) (h2 : p ≤ 14) (w : World) : Calls Tryz.prog 178 #[.int .i64 (p : Int)] w fun e w' => e = .returned (.int .i64 (((64 - p) * 2 ^ p : Nat) : Int)) ∧ w' = w := by
  have c1 : (1 : Int) ≤ (p : Int) := by omega
  have c2 : (p : Int) ≤ 14 := by omega
  go_enter Tryz.func178, Tryz.ntmps178
  go_wp2_with (go_at_call 228; with_reducible refine (pr_yes p h1 h2 _).mono ?_; rintro e w1 ⟨rfl, rfl⟩)
  go_ret
  exact ⟨retI (wrap_nat (len_int p h2) (by have := len_le p h2; omega)), rfl⟩
theorem len_no (p : Int) (h : ¬ (1 ≤ p ∧ p ≤ 14)) (w : World) : Calls Tryz.prog 178 #[.int .i64 p] w fun e w' => e = .returned (.int .i64 0) ∧ w' = w := by
  have H : Hid (∀ W, _) := pr_no p h
  clear h
  go_enter Tryz.func178, Tryz.ntmps178
  go_wp2_with (go_at_call 228; with_reducible refine (H.out _).mono ?_; rintro e w1 ⟨rfl, rfl⟩)
  go_ret
  exact ⟨rfl, rfl⟩
end Go.Proofs.YtfnohbalkpponaaGreatDoor
/- THE CALLS of bucket. Own work of the verifier. -/
namespace Go.Proofs.YtfnohbalkpponaaGreatDoor
open Go.RowKit

abbrev two (a e : Int) : Ending := .returned (.tuple #[.int .i64 a, .int .i64 e])
abbrev three (a b e : Int) : Ending := .returned (.tuple #[.int .i64 a, .int .i64 b, .int .i64 e])

theorem sub_nat {x y : Nat} (h : y ≤ x) (hx : x < 9223372036854775808) : wrap64 ((x : Int) - (y : Int)) = ((x - y : Nat) : Int) := by unfold wrap64; omega
theorem sub_one {x : Nat} (h : 0 < x) (hx : x < 9223372036854775808) : wrap64 ((x : Int) - 1) = ((x - 1 : Nat) : Int) := by unfold wrap64; omega
theorem add_nat {x y : Nat} (h : x + y < 9223372036854775808) : wrap64 ((x : Int) + (y : Int)) = ((x + y : Nat) : Int) := by unfold wrap64; omega
theorem mul_pow {x k : Nat} (h : x * 2 ^ k < 9223372036854775808) : wrap64 ((x : Int) * 2 ^ k) = ((x * 2 ^ k : Nat) : Int) := wrap_nat (by rw [cast_pow, Int.natCast_mul]) h
theorem div_pow (i p : Nat) : (i : Int) / 2 ^ p = ((i / 2 ^ p : Nat) : Int) := by rw [cast_pow, ← Int.natCast_ediv]
/-- What a bucket's ends are reckoned of. -/
theorem ends (p i : Nat) (h2 : p ≤ 14) (hi : i < (64 - p) * 2 ^ p) : ∃ k K r l t t1 h : Nat, k ≤ 62 ∧ l = lo (2 ^ p) i ∧ h = lo (2 ^ p) i + 2 ^ kk (2 ^ p) i - 1 ∧
    ((k = 0 ∧ (i : Int) / 2 ^ p = 0) ∨ wrap64 ((i : Int) / 2 ^ p - 1) = (k : Int)) ∧ wrap64 ((k : Int) * 2 ^ p) = (K : Int) ∧ wrap64 ((i : Int) - (K : Int)) = (r : Int) ∧ wrap64 ((r : Int) * 2 ^ k) = (l : Int) ∧ wrap64 ((2 : Int) ^ k) = (t : Int) ∧
      wrap64 ((t : Int) - 1) = (t1 : Int) ∧ wrap64 ((l : Int) + (t1 : Int)) = (h : Int) := by
  have hkt := kk_top hi h2
  have hlo := hi_top hi h2
  obtain ⟨r1, r2, r3⟩ := rr_lt i (Nat.two_pow_pos p)
  have hile := len_le p h2
  have hkl := pow_lt' (kk (2 ^ p) i) (by omega)
  have hp := Nat.two_pow_pos (kk (2 ^ p) i)
  have e63 : (2 : Nat) ^ 63 = 9223372036854775808 := by decide
  rw [e63] at hlo
  have hii : i < 9223372036854775808 := by
    generalize (64 - p) * 2 ^ p = z at *
    omega
  have hK : kk (2 ^ p) i * 2 ^ p ≤ i := by
    generalize kk (2 ^ p) i * 2 ^ p = z at *
    omega
  refine ⟨kk (2 ^ p) i, kk (2 ^ p) i * 2 ^ p, rr (2 ^ p) i, lo (2 ^ p) i, 2 ^ kk (2 ^ p) i, 2 ^ kk (2 ^ p) i - 1, lo (2 ^ p) i + 2 ^ kk (2 ^ p) i - 1, by omega, rfl, rfl, ?_, ?_, ?_, ?_, ?_, ?_, ?_⟩
  · rw [div_pow]
    rcases Nat.eq_zero_or_pos (i / 2 ^ p) with z | z
    · exact Or.inl ⟨by unfold kk; omega, by rw [z]; rfl⟩
    · exact Or.inr (sub_one z (Nat.lt_of_le_of_lt (Nat.div_le_self _ _) hii))
  · exact mul_pow (Nat.lt_of_le_of_lt hK hii)
  · exact sub_nat hK hii
  · refine mul_pow ?_
    change lo (2 ^ p) i < _
    generalize lo (2 ^ p) i = z at *
    generalize 2 ^ kk (2 ^ p) i = y at *
    omega
  · exact wrap_pow _ (by omega)
  · refine sub_one hp ?_
    generalize 2 ^ kk (2 ^ p) i = y at *
    omega
  · rw [add_nat]
    · congr 1
      generalize lo (2 ^ p) i = z at *
      generalize 2 ^ kk (2 ^ p) i = y at *
      omega
    · generalize lo (2 ^ p) i = z at *
      generalize 2 ^ kk (2 ^ p) i = y at *
      omega
end Go.Proofs.YtfnohbalkpponaaGreatDoor
