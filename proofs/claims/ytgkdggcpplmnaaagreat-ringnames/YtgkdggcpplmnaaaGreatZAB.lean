/- COUNTS, merged: the plain mathematics. Own work of the verifier. -/
import Derived.Handy
import Derived.Test.YtgkdggcpplmnaaaGreatZAA
import Derived.WalkKit
import Derived.WalkSpells
import Derived.RowKit3
import Derived.Below
import Derived.Outline
import Derived.Deep.QuietTactic
import Derived.Deep.Draws
import Derived.BigQuiet
import Derived.Laws.Bits64
import Derived.Laws.BitsAllLaws
import Derived.Deep.RegionHeld3
import Derived.Deep.DeepCutAuto
import Derived.Lib.ItoaNum
import Derived.Test.YtgkdggcpplmnaaaGreatRows
import Derived.Laws.ShiftsVarLaws
import Derived.Maps.AppendAt
import Derived.Deep.AppendLies
namespace Go.Proofs.YtgkdggcpplmnaaaGreat

/-- A count: an index and a number. -/
abbrev Cn := Int × Nat
/-- What all counts of an index come to. -/
def key : List Cn → Int → Nat
  | [], _ => 0
  | c :: L, k => (if c.1 = k then c.2 else 0) + key L k
theorem key_append (A B : List Cn) (k : Int) : key (A ++ B) k = key A k + key B k := by
  induction A with
  | nil => rw [List.nil_append]; simp [key]
  | cons c A ih => rw [List.cons_append]; simp only [key]; rw [ih]; omega
theorem key_perm {A B : List Cn} (h : A.Perm B) (k : Int) : key A k = key B k := by
  induction h with
  | nil => rfl
  | cons c _ ih => simp only [key]; rw [ih]
  | swap c d l => simp only [key]; omega
  | trans _ _ h1 h2 => rw [h1, h2]
def Rise (L : List Cn) : Prop := L.Pairwise (fun a b => a.1 < b.1)
def Srt (L : List Cn) : Prop := L.Pairwise (fun a b => a.1 ≤ b.1)
theorem key_none {L : List Cn} {k : Int} (h : ∀ c ∈ L, c.1 ≠ k) : key L k = 0 := by
  induction L with
  | nil => rfl
  | cons c L ih =>
    simp only [key]
    rw [if_neg (h c (by simp)), ih (fun d hd => h d (by simp [hd]))]
theorem key_head {c : Cn} {L : List Cn} (h : Rise (c :: L)) : key (c :: L) c.1 = c.2 := by
  have hc := (List.pairwise_cons.1 h).1
  simp only [key, if_true]
  rw [key_none (fun d hd => by have := hc d hd; omega)]
  rfl
theorem key_less {L : List Cn} {c : Cn} (h : Rise (c :: L)) {k : Int} (hk : k < c.1) : key (c :: L) k = 0 := by
  have hc := (List.pairwise_cons.1 h).1
  refine key_none fun d hd => ?_
  rcases List.mem_cons.1 hd with rfl | hd
  · omega
  · have := hc d hd; omega
/-- Rising lists with the same sums are the same. -/
theorem rise_eq : ∀ (A B : List Cn), Rise A → Rise B → (∀ c ∈ A, c.2 ≠ 0) → (∀ c ∈ B, c.2 ≠ 0) → (∀ k, key A k = key B k) → A = B
  | [], [], _, _, _, _, _ => rfl
  | [], b :: B, _, hB, _, nB, h => by
    have := h b.1
    rw [key_head hB] at this
    exact absurd this.symm (nB b (by simp))
  | a :: A, [], hA, _, nA, _, h => by
    have := h a.1
    rw [key_head hA] at this
    exact absurd this (nA a (by simp))
  | a :: A, b :: B, hA, hB, nA, nB, h => by
    have e1 : a.1 = b.1 := by
      rcases Int.lt_trichotomy a.1 b.1 with c | c | c
      · have := h a.1
        rw [key_head hA, key_less hB c] at this
        exact absurd this (nA a (by simp))
      · exact c
      · have := h b.1
        rw [key_head hB, key_less hA c] at this
        exact absurd this.symm (nB b (by simp))
    have e2 : a.2 = b.2 := by
      have := h a.1
      rw [key_head hA, e1, key_head hB] at this
      exact this
    have e3 : A = B := rise_eq A B (List.pairwise_cons.1 hA).2 (List.pairwise_cons.1 hB).2 (fun c hc => nA c (by simp [hc])) (fun c hc => nB c (by simp [hc])) (fun k => by
      have := h k
      simp only [key] at this
      rw [e1, e2] at this
      omega)
    rw [e3, Prod.ext e1 e2]
/-- The document's merge of counts. -/
structure IsMerge (O L : List Cn) : Prop where
  rise : Rise O
  nz : ∀ c ∈ O, c.2 ≠ 0 ∧ c.2 < 18446744073709551616
  keys : ∀ k, key O k = key L k % 18446744073709551616
theorem IsMerge.uniq {A B L : List Cn} (h : IsMerge A L) (k : IsMerge B L) : A = B :=
  rise_eq A B h.rise k.rise (fun c hc => (h.nz c hc).1) (fun c hc => (k.nz c hc).1) (fun x => by rw [h.keys, k.keys])
theorem IsMerge.perm {A L M : List Cn} (h : IsMerge A L) (p : L.Perm M) : IsMerge A M := ⟨h.rise, h.nz, fun k => by rw [h.keys, key_perm p]⟩
theorem isMerge_nil : IsMerge [] [] := ⟨List.Pairwise.nil, (fun c hc => by cases hc), fun k => rfl⟩
/-- Whatever stands ahead of a place is less than what stands behind. -/
def Cut (S : List Cn) (i : Nat) : Prop := ∀ c ∈ S.take i, ∀ d ∈ S.drop i, c.1 < d.1
theorem cut_zero (S : List Cn) : Cut S 0 := fun c hc => by simp at hc
/-- Places i to j have one index. -/
def Run (S : List Cn) (i j : Nat) (x : Int) : Prop := ∀ t (h : t < S.length), i ≤ t → t < j → S[t].1 = x
theorem sort_get {S : List Cn} (h : Srt S) {s t : Nat} (hs : s < S.length) (ht : t < S.length) (hst : s < t) : S[s].1 ≤ S[t].1 := (List.pairwise_iff_getElem.1 h) s t hs ht hst
theorem cut_next {S : List Cn} (hS : Srt S) {i j : Nat} {x : Int} (hij : i < j) (hj : j ≤ S.length) (hc : Cut S i) (hr : Run S i j x) (he : ∀ h : j < S.length, S[j].1 ≠ x) : Cut S j := by
  intro c hcm d hdm
  obtain ⟨s, hs, rfl⟩ := List.getElem_of_mem hcm
  obtain ⟨t, ht, rfl⟩ := List.getElem_of_mem hdm
  rw [List.length_take] at hs
  rw [List.length_drop] at ht
  rw [List.getElem_take, List.getElem_drop]
  have hjl : j < S.length := by omega
  have a1 : S[j].1 ≤ S[j + t].1 := by
    rcases Nat.eq_zero_or_pos t with e | e
    · subst e; exact Int.le_refl _
    · exact sort_get hS hjl (by omega) (by omega)
  have hi : S[i].1 = x := hr i (by omega) (Nat.le_refl _) hij
  have a2 : x < S[j].1 := by
    have := sort_get hS (s := i) (t := j) (by omega) hjl hij
    have := he hjl
    omega
  by_cases k : s < i
  · have : S[s].1 < S[i].1 := hc _ (List.mem_iff_getElem.2 ⟨s, by rw [List.length_take]; omega, by rw [List.getElem_take]⟩) _ (List.mem_iff_getElem.2 ⟨0, by rw [List.length_drop]; omega, by rw [List.getElem_drop]; simp⟩)
    omega
  · have : S[s].1 = x := hr s (by omega) (by omega) (by omega)
    omega
theorem key_take (S : List Cn) {j : Nat} (h : j < S.length) (k : Int) : key (S.take (j + 1)) k = key (S.take j) k + (if S[j].1 = k then S[j].2 else 0) := by
  rw [List.take_succ_eq_append_getElem h, key_append]
  simp [key]
/-- One group more. -/
theorem group_merge {S O : List Cn} {i j : Nat} {x : Int} {N : Nat} (hij : i < j) (hj : j ≤ S.length) (hO : IsMerge O (S.take i)) (hOm : ∀ c ∈ O, ∀ d ∈ S.drop i, c.1 < d.1) (hr : Run S i j x) (hN : N = key (S.take j) x % 18446744073709551616) :
    IsMerge (if N ≠ 0 then O ++ [(x, N)] else O) (S.take j) := by
  have hx : S[i].1 = x := hr i (by omega) (Nat.le_refl _) hij
  have hmem : (S[i]'(by omega)) ∈ S.drop i := List.mem_iff_getElem.2 ⟨0, by rw [List.length_drop]; omega, by rw [List.getElem_drop]; simp⟩
  have hlt : ∀ c ∈ O, c.1 < x := fun c hc' => by rw [← hx]; exact hOm c hc' _ hmem
  have hOx : key O x = 0 := key_none fun c hc' => by have := hlt c hc'; omega
  have hkeys : ∀ k, k ≠ x → key (S.take j) k = key (S.take i) k := fun k hk => by
    have : ∀ m, i + m ≤ j → key (S.take (i + m)) k = key (S.take i) k := fun m => by
      induction m with
      | zero => intro _; rfl
      | succ m ih =>
        intro hm
        rw [show i + (m + 1) = i + m + 1 from rfl, key_take S (by omega), ih (by omega), if_neg (by rw [hr (i + m) (by omega) (by omega) (by omega)]; exact fun e => hk e.symm)]
        rfl
    have h := this (j - i) (by omega)
    rw [show i + (j - i) = j by omega] at h
    exact h
  have hkx : ∀ k, key (if N ≠ 0 then O ++ [(x, N)] else O) k = if k = x then N else key O k := fun k => by
    by_cases hz : N ≠ 0
    · rw [if_pos hz, key_append]
      simp only [key]
      by_cases e : k = x
      · subst e; simp only [if_true]; rw [hOx]; omega
      · rw [if_neg (fun h => e h.symm), if_neg e]; omega
    · rw [if_neg hz]
      by_cases e : k = x
      · subst e; rw [if_pos rfl, hOx]; omega
      · rw [if_neg e]
  refine ⟨?_, ?_, fun k => ?_⟩
  · split
    · refine List.pairwise_append.2 ⟨hO.rise, List.pairwise_singleton _ _, fun a ha b hb => ?_⟩
      rw [List.mem_singleton.1 hb]
      exact hlt a ha
    · exact hO.rise
  · intro c hc'
    split at hc'
    · rcases List.mem_append.1 hc' with h | h
      · exact hO.nz c h
      · rw [List.mem_singleton.1 h]
        exact ⟨by assumption, by show N < _; omega⟩
    · exact hO.nz c hc'
  · rw [hkx]
    by_cases e : k = x
    · subst e; rw [if_pos rfl]; exact hN
    · rw [if_neg e, hO.keys, hkeys k e]
theorem group_less {S O : List Cn} {i j : Nat} {x : Int} {N : Nat} (hij : i < j) (hj : j ≤ S.length) (hOm : ∀ c ∈ O, ∀ d ∈ S.drop i, c.1 < d.1) (hr : Run S i j x) (hcj : Cut S j) : ∀ c ∈ (if N ≠ 0 then O ++ [(x, N)] else O), ∀ d ∈ S.drop j, c.1 < d.1 := by
  intro c hc d hd
  have hdi : d ∈ S.drop i := by
    have e : S.drop j = (S.drop i).drop (j - i) := by rw [List.drop_drop]; congr 1; omega
    rw [e] at hd
    exact List.mem_of_mem_drop hd
  split at hc
  · rcases List.mem_append.1 hc with h | h
    · exact hOm c h d hdi
    · rw [List.mem_singleton.1 h]
      have hx : S[i].1 = x := hr i (by omega) (Nat.le_refl _) hij
      rw [← hx]
      exact hcj (S[i]'(by omega)) (List.mem_iff_getElem.2 ⟨i, by rw [List.length_take]; omega, by rw [List.getElem_take]⟩) d hd
  · exact hOm c hc d hdi
end Go.Proofs.YtgkdggcpplmnaaaGreat
/- LISTS OF COUNTS in memory; Total. Own work of the verifier. -/
namespace Go.Proofs.YtgkdggcpplmnaaaGreat
open Go.RowKit

def Wc (L : List Cn) : Prop := ∀ c ∈ L, -9223372036854775808 ≤ c.1 ∧ c.1 < 9223372036854775808 ∧ c.2 < 18446744073709551616
def RowC (W : World) (b o : Nat) (L : List Cn) : Prop := ∀ i (h : i < L.length), W.cell? ⟨b, o + i * 2, none⟩ = some (.int .i64 L[i].1) ∧ W.cell? ⟨b, o + i * 2 + 1, none⟩ = some (.int .u64 (L[i].2 : Int))
theorem lt_of_cell {w : World} {a : Addr} {v : Value} (h : w.cell? a = some v) : a.block < w.heap.size := by
  unfold World.cell? at h
  split at h
  · rename_i h1
    rcases Nat.lt_or_ge a.block w.heap.size with k | k
    · exact k
    · rw [Array.getElem?_eq_none k] at h1; cases h1
  · cases h
theorem RowC.lt {W : World} {b o : Nat} {L : List Cn} (h : RowC W b o L) (hL : L ≠ []) : b < W.heap.size := by
  have h0 : 0 < L.length := List.length_pos_iff.2 hL
  exact lt_of_cell (h 0 h0).1
theorem RowC.below {W W1 : World} {b o : Nat} {L : List Cn} {B : Nat} (h : RowC W b o L) (hb : Below B W W1) (hB : L ≠ [] → b < B) : RowC W1 b o L := fun i hi => by
  have hL : L ≠ [] := fun e => by rw [e] at hi; simp at hi
  rw [hb.cell (p := ⟨b, o + i * 2, none⟩) (hB hL), hb.cell (p := ⟨b, o + i * 2 + 1, none⟩) (hB hL)]
  exact h i hi
/-- The sum of all, brought round. -/
def tot (L : List Cn) : Nat := (L.map (·.2)).sum % 18446744073709551616
end Go.Proofs.YtgkdggcpplmnaaaGreat
/- Same and At, the document's. Own work of the verifier. -/
namespace Go.Proofs.YtgkdggcpplmnaaaGreat
open Go.RowKit

end Go.Proofs.YtgkdggcpplmnaaaGreat
/- May, the document's. Own work of the verifier. -/
namespace Go.Proofs.YtgkdggcpplmnaaaGreat
open Go.RowKit

/-- What is wrong with a count at its place; 0: nothing. -/
def bad (N : Nat) (L : List Cn) (i : Nat) : Int :=
  if (L.getD i (0, 1)).1 < 0 ∨ (N : Int) ≤ (L.getD i (0, 1)).1 then 2
  else if 0 < i ∧ (L.getD i (0, 1)).1 ≤ (L.getD (i - 1) (0, 1)).1 then 15
  else if (L.getD i (0, 1)).2 = 0 then 16 else 0
def sumN (L : List Cn) : Nat := (L.map (·.2)).sum
theorem sumN_take (L : List Cn) (i : Nat) (h : i < L.length) : sumN (L.take (i + 1)) = sumN (L.take i) + L[i].2 := by
  unfold sumN
  rw [List.take_succ_eq_append_getElem h, List.map_append, List.sum_append]
  simp
/-- The error of counts. -/
def MayIs (p : Int) (L : List Cn) (e : Int) : Prop :=
  (¬ (1 ≤ p ∧ p ≤ 14) ∧ e = 1) ∨ ((1 ≤ p ∧ p ≤ 14) ∧ ((∃ i, i < L.length ∧ (∀ j, j < i → bad ((64 - p.toNat) * 2 ^ p.toNat) L j = 0) ∧ bad ((64 - p.toNat) * 2 ^ p.toNat) L i ≠ 0 ∧ e = bad ((64 - p.toNat) * 2 ^ p.toNat) L i) ∨
    ((∀ j, j < L.length → bad ((64 - p.toNat) * 2 ^ p.toNat) L j = 0) ∧ e = if 9223372036854775807 < sumN L then 3 else 0)))
theorem MayIs.uniq {p : Int} {L : List Cn} {e f : Int} (h : MayIs p L e) (k : MayIs p L f) : e = f := by
  rcases h with ⟨h1, rfl⟩ | ⟨h1, h2⟩
  · rcases k with ⟨_, rfl⟩ | ⟨k1, _⟩
    · rfl
    · exact absurd k1 h1
  · rcases k with ⟨k1, _⟩ | ⟨_, k2⟩
    · exact absurd h1 k1
    · rcases h2 with ⟨i, a1, a2, a3, rfl⟩ | ⟨a1, rfl⟩ <;> rcases k2 with ⟨j, b1, b2, b3, rfl⟩ | ⟨b1, rfl⟩
      · rcases Nat.lt_trichotomy i j with c | c | c
        · exact absurd (b2 i c) a3
        · rw [c]
        · exact absurd (a2 j c) b3
      · exact absurd (b1 i a1) a3
      · exact absurd (a1 j b1) b3
      · rfl
end Go.Proofs.YtgkdggcpplmnaaaGreat
/- THE PLAIN MATHEMATICS of a division of two words by one (no Go in sight). Own work of the verifier. -/
namespace Go.Proofs.YtgkdggcpplmnaaaGreat





/-- The two words, shifted. -/
theorem norm_words (H l : Nat) (k : Nat) (hk : k ≤ 64) (hl : l < 18446744073709551616) (hH : H * 2 ^ k < 18446744073709551616) :
    bits .or .u64 (IntKind.u64.wrap ((H : Int) * 2 ^ k)) ((l : Int) / 2 ^ (64 - k)) = ((H * 2 ^ k + l / 2 ^ (64 - k) : Nat) : Int) ∧
    IntKind.u64.wrap ((l : Int) * 2 ^ k) = ((2 ^ k * (l % 2 ^ (64 - k)) : Nat) : Int) ∧
    (H * 2 ^ k + l / 2 ^ (64 - k)) * 18446744073709551616 + 2 ^ k * (l % 2 ^ (64 - k)) = (H * 18446744073709551616 + l) * 2 ^ k ∧ l / 2 ^ (64 - k) < 2 ^ k ∧ 2 ^ k * (l % 2 ^ (64 - k)) < 18446744073709551616 := by
  have hKM : 2 ^ k * 2 ^ (64 - k) = 18446744073709551616 := by rw [← Nat.pow_add, show k + (64 - k) = 64 from by omega]
  have hM : 0 < 2 ^ (64 - k) := Nat.pow_pos (by decide)
  have hK : 0 < 2 ^ k := Nat.pow_pos (by decide)
  have e1 : ((H : Int) * 2 ^ k) = ((H * 2 ^ k : Nat) : Int) := by push_cast; rfl
  have e2 : ((l : Int) * 2 ^ k) = ((l * 2 ^ k : Nat) : Int) := by push_cast; rfl
  have e3 : ((l : Int) / 2 ^ (64 - k)) = ((l / 2 ^ (64 - k) : Nat) : Int) := by push_cast; rfl
  have ha : l / 2 ^ (64 - k) < 2 ^ k := by
    rw [Nat.div_lt_iff_lt_mul hM, hKM]; exact hl
  have hb : l % 2 ^ (64 - k) < 2 ^ (64 - k) := Nat.mod_lt _ hM
  have hlk : l * 2 ^ k = 18446744073709551616 * (l / 2 ^ (64 - k)) + 2 ^ k * (l % 2 ^ (64 - k)) := by
    have d := Nat.div_add_mod l (2 ^ (64 - k))
    calc l * 2 ^ k = (2 ^ (64 - k) * (l / 2 ^ (64 - k)) + l % 2 ^ (64 - k)) * 2 ^ k := by rw [d]
      _ = 2 ^ k * 2 ^ (64 - k) * (l / 2 ^ (64 - k)) + 2 ^ k * (l % 2 ^ (64 - k)) := by
        rw [Nat.add_mul, Nat.mul_comm (2 ^ (64 - k) * _) (2 ^ k), Nat.mul_assoc, Nat.mul_comm (l % _) (2 ^ k)]
      _ = _ := by rw [hKM]
  have hb' : 2 ^ k * (l % 2 ^ (64 - k)) < 18446744073709551616 := by
    rw [← hKM]; exact Nat.mul_lt_mul_of_pos_left hb hK
  refine ⟨?_, ?_, ?_, ha, hb'⟩
  · rw [e1, e3, IntKind.wrap_u64, Int.emod_eq_of_lt (by omega) (by omega), u64_or_nat _ _ hH (by have : 2 ^ k ≤ 18446744073709551616 := (by rw [← hKM]; exact Nat.le_mul_of_pos_right _ hM); omega)]
    rw [nat_join k _ _ (Nat.mul_mod_left _ _) ha]
  · rw [e2, IntKind.wrap_u64, hlk]
    omega
  · rw [Nat.add_mul, Nat.add_mul, hlk, Nat.mul_assoc, Nat.mul_comm (2 ^ k) 18446744073709551616, ← Nat.mul_assoc]
    omega
end Go.Proofs.YtgkdggcpplmnaaaGreat
/- THE PLAIN MATHEMATICS of numbers of 128 bits: no Go in sight. Own work of the verifier. -/
namespace Go.Proofs.YtgkdggcpplmnaaaGreat

def val (h l : Int) : Int := h * 18446744073709551616 + l
def hiOf (n : Int) : Int := n / 18446744073709551616
def loOf (n : Int) : Int := n % 18446744073709551616
/-- A number brought round. -/
def rnd (n : Int) : Int := (n + 170141183460469231731687303715884105728) % 340282366920938463463374607431768211456 - 170141183460469231731687303715884105728

/-- The two words of a number. -/
structure Wf (h l : Int) : Prop where
  h0 : -9223372036854775808 ≤ h
  h1 : h ≤ 9223372036854775807
  l0 : 0 ≤ l
  l1 : l < 18446744073709551616
/-- A number of 128 bits. -/
structure InR (n : Int) : Prop where
  lo : -170141183460469231731687303715884105728 ≤ n
  hi : n < 170141183460469231731687303715884105728

theorem val_hl (n : Int) : val (hiOf n) (loOf n) = n := by unfold val hiOf loOf; omega
theorem inR_rnd (n : Int) : InR (rnd n) := by constructor <;> (unfold rnd; omega)
theorem wf_of {n : Int} (h : InR n) : Wf (hiOf n) (loOf n) := by obtain ⟨_, _⟩ := h; constructor <;> (simp only [hiOf, loOf]; omega)
theorem rnd_of {n : Int} (h : InR n) : rnd n = n := by obtain ⟨_, _⟩ := h; unfold rnd; omega
/-- Two numbers are the same if and only if their words are. -/
theorem val_inj {a b c d : Int} (h : Wf a b) (k : Wf c d) : val a b = val c d ↔ a = c ∧ b = d := by
  obtain ⟨_, _, _, _⟩ := h; obtain ⟨_, _, _, _⟩ := k; unfold val; constructor
  · intro e; constructor <;> omega
  · rintro ⟨rfl, rfl⟩; rfl
theorem val_lt {a b c d : Int} (h : Wf a b) (k : Wf c d) : val a b < val c d ↔ a < c ∨ a = c ∧ b < d := by
  obtain ⟨_, _, _, _⟩ := h; obtain ⟨_, _, _, _⟩ := k; unfold val; omega

/-- Which is less? -/
def cmp (a b : Int) : Int := if a < b then -1 else if a = b then 0 else 1
end Go.Proofs.YtgkdggcpplmnaaaGreat
/- Rank, AtMost, Quantile, the document's. Own work of the verifier. -/
namespace Go.Proofs.YtgkdggcpplmnaaaGreat
open Go.RowKit

theorem mayIs_ex (p : Int) (L : List Cn) : ∃ e, MayIs p L e := by
  by_cases hp : 1 ≤ p ∧ p ≤ 14
  · by_cases h : ∀ j, j < L.length → bad ((64 - p.toNat) * 2 ^ p.toNat) L j = 0
    · exact ⟨_, Or.inr ⟨hp, Or.inr ⟨h, rfl⟩⟩⟩
    · have : ∀ m, (∃ j, j < m ∧ j < L.length ∧ bad ((64 - p.toNat) * 2 ^ p.toNat) L j ≠ 0) → ∃ i, i < L.length ∧ (∀ j, j < i → bad ((64 - p.toNat) * 2 ^ p.toNat) L j = 0) ∧ bad ((64 - p.toNat) * 2 ^ p.toNat) L i ≠ 0 := by
        intro m
        induction m with
        | zero => rintro ⟨j, hj, _⟩; omega
        | succ m ih =>
          rintro ⟨j, hj, hl, hb⟩
          by_cases c : ∃ j, j < m ∧ j < L.length ∧ bad ((64 - p.toNat) * 2 ^ p.toNat) L j ≠ 0
          · exact ih c
          · have e : j = m := by
              by_cases h' : j < m
              · exact absurd ⟨j, h', hl, hb⟩ c
              · omega
            subst e
            refine ⟨j, hl, fun k hk => ?_, hb⟩
            by_cases h' : bad ((64 - p.toNat) * 2 ^ p.toNat) L k = 0
            · exact h'
            · exact absurd ⟨k, hk, by omega, h'⟩ c
      have hex : ∃ j, j < L.length ∧ j < L.length ∧ bad ((64 - p.toNat) * 2 ^ p.toNat) L j ≠ 0 := by
        apply Classical.byContradiction
        intro hn
        exact h fun j hj => Classical.byContradiction fun hb => hn ⟨j, hj, hj, hb⟩
      obtain ⟨i, h1, h2, h3⟩ := this _ hex
      exact ⟨_, Or.inr ⟨hp, Or.inl ⟨i, h1, h2, h3, rfl⟩⟩⟩
  · exact ⟨1, Or.inl ⟨hp, rfl⟩⟩
end Go.Proofs.YtgkdggcpplmnaaaGreat
/- AtMost, Quantile, the document's. Own work of the verifier. -/
namespace Go.Proofs.YtgkdggcpplmnaaaGreat
open Go.RowKit

/-- The greatest value of a bucket. -/
def hiV (p i : Nat) : Nat := lo (2 ^ p) i + 2 ^ kk (2 ^ p) i - 1
/-- Counts that may be. -/
theorem may_ok {p : Int} {L : List Cn} (h : MayIs p L 0) : (1 ≤ p ∧ p ≤ 14) ∧ sumN L ≤ 9223372036854775807 ∧ ∀ i (hi : i < L.length), 0 ≤ L[i].1 ∧ L[i].1 < (((64 - p.toNat) * 2 ^ p.toNat : Nat) : Int) ∧ L[i].2 ≠ 0 := by
  rcases h with ⟨_, h⟩ | ⟨hp, h⟩
  · exact absurd h (by decide)
  · rcases h with ⟨i, _, _, h3, h4⟩ | ⟨h1, h2⟩
    · exact absurd h4.symm h3
    · refine ⟨hp, ?_, fun i hi => ?_⟩
      · by_cases c : 9223372036854775807 < sumN L
        · rw [if_pos c] at h2; exact absurd h2 (by decide)
        · omega
      · have hb := h1 i hi
        unfold bad at hb
        rw [show L.getD i (0, 1) = L[i] from by simp [List.getD, hi]] at hb
        by_cases c1 : L[i].1 < 0 ∨ (((64 - p.toNat) * 2 ^ p.toNat : Nat) : Int) ≤ L[i].1
        · rw [if_pos c1] at hb; exact absurd hb (by decide)
        · rw [if_neg c1] at hb
          by_cases c2 : 0 < i ∧ L[i].1 ≤ (L.getD (i - 1) (0, 1)).1
          · rw [if_pos c2] at hb; exact absurd hb (by decide)
          · rw [if_neg c2] at hb
            by_cases c3 : L[i].2 = 0
            · rw [if_pos c3] at hb; exact absurd hb (by decide)
            · exact ⟨by omega, by omega, c3⟩
end Go.Proofs.YtgkdggcpplmnaaaGreat
/- Quantile, the document's. Own work of the verifier. -/
namespace Go.Proofs.YtgkdggcpplmnaaaGreat
open Go.RowKit

theorem bt {w W W1 : World} (h : Below w.heap.size w W) (k : Below W.heap.size W W1) : Below w.heap.size w W1 := h.trans (k.mono h.size)
end Go.Proofs.YtgkdggcpplmnaaaGreat
/- ROWS OF COUNTS that grow. Own work of the verifier. -/
namespace Go.Proofs.YtgkdggcpplmnaaaGreat
open Go.RowKit

/-- The cells of counts. -/
def fl : List Cn → List Value
  | [] => []
  | c :: L => .int .i64 c.1 :: .int .u64 (c.2 : Int) :: fl L
theorem fl_length (L : List Cn) : (fl L).length = L.length * 2 := by
  induction L with
  | nil => rfl
  | cons c L ih => simp only [fl, List.length_cons, ih]; omega
theorem fl_append (A B : List Cn) : fl (A ++ B) = fl A ++ fl B := by
  induction A with
  | nil => rfl
  | cons c A ih => simp only [List.cons_append, fl, ih]
theorem fl_get (L : List Cn) (i : Nat) (h : i < L.length) : (fl L)[i * 2]? = some (.int .i64 L[i].1) ∧ (fl L)[i * 2 + 1]? = some (.int .u64 (L[i].2 : Int)) := by
  induction L generalizing i with
  | nil => simp at h
  | cons c L ih =>
    cases i with
    | zero => exact ⟨rfl, rfl⟩
    | succ i =>
      have := ih i (by simpa using h)
      rw [show (i + 1) * 2 = i * 2 + 2 by omega]
      simpa [fl] using this
theorem fl_one (L : List Cn) : ∀ u ∈ fl L, u.oneCell' = true := by
  induction L with
  | nil => intro u hu; cases hu
  | cons c L ih =>
    intro u hu
    simp only [fl, List.mem_cons] at hu
    rcases hu with rfl | rfl | h
    · rfl
    · rfl
    · exact ih u h
/-- What a row holds, cell by cell. -/
theorem RowC.cells {w : World} {b o : Nat} {L : List Cn} (h : RowC w b o L) (j : Nat) (u : Value) (hu : (fl L)[j]? = some u) : w.cell? ((⟨b, o, none⟩ : Addr).add j) = some u := by
  have hj : j < (fl L).length := by
    rcases Nat.lt_or_ge j (fl L).length with c | c
    · exact c
    · rw [List.getElem?_eq_none c] at hu; cases hu
  rw [fl_length] at hj
  rw [Addr.add_lit]
  have hi : j / 2 < L.length := by omega
  obtain ⟨g1, g2⟩ := fl_get L (j / 2) hi
  obtain ⟨r1, r2⟩ := h (j / 2) hi
  rcases Nat.mod_two_eq_zero_or_one j with e | e
  · rw [show j / 2 * 2 = j by omega] at g1 r1
    rw [g1] at hu
    rw [← hu]
    exact r1
  · rw [show j / 2 * 2 + 1 = j by omega] at g2
    rw [show o + j / 2 * 2 + 1 = o + j by omega] at r2
    rw [g2] at hu
    rw [← hu]
    exact r2
/-- A row of counts of the call's own that grows. -/
structure GC (B : Nat) (W0 : World) (v : Value) (xs : List Cn) (w : World) : Prop where
  own : w.ownsRow B 124 2 v xs.length (fl xs)
  below : Below B W0 w
  size : B ≤ w.heap.size
theorem infoC : (Tryz.prog.info? 124).map (fun i => (i.zero, i.size, i.bytes)) = some (some (.agg #[.int .i64 0, .int .u64 0]), 2, 16) := by kernel_rfl
/-- A slice that holds counts. -/
def SC (w : World) (v : Value) (L : List Cn) : Prop := ∃ ao b o cap, v = .slice ao L.length cap ∧ (L ≠ [] → ao = some ⟨b, o, none⟩) ∧ RowC w b o L
theorem GC.sc {B : Nat} {W0 w : World} {v : Value} {xs : List Cn} (h : GC B W0 v xs w) : SC w v xs := by
  obtain ⟨hl, h2⟩ := h.own
  rcases h2 with ⟨rfl, hn⟩ | ⟨g, cap, cur, rfl, hg, hh, hc, hm, hs, ht⟩
  · have : xs = [] := List.length_eq_zero_iff.1 hn
    subst this
    exact ⟨none, 0, 0, 0, rfl, fun k => absurd rfl k, fun i hi => by simp at hi⟩
  · refine ⟨some ⟨g, 0, none⟩, g, 0, cap, rfl, fun _ => rfl, fun i hi => ?_⟩
    obtain ⟨g1, g2⟩ := fl_get xs i hi
    have key : ∀ j u, (fl xs)[j]? = some u → w.cell? ⟨g, 0 + j, none⟩ = some u := fun j u hu => by
      rw [← ht] at hu
      rw [List.getElem?_take] at hu
      unfold World.cell?
      rw [hh]
      split at hu
      · simpa using hu
      · cases hu
    exact ⟨key _ _ g1, by have := key _ _ g2; rw [← Nat.add_assoc] at this; exact this⟩
end Go.Proofs.YtgkdggcpplmnaaaGreat
