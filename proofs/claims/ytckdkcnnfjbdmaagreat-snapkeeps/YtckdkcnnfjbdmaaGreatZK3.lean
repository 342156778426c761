/- COUNTS, merged: what merged counts come to. Own work of the verifier. -/
import Derived.Test.YtckdkcnnfjbdmaaGreatZA4
import Derived.Test.YtckdkcnnfjbdmaaGreatZY6
import Derived.Test.YtckdkcnnfjbdmaaGreatZK
import Derived.Test.YtckdkcnnfjbdmaaGreatZD9
import Derived.Test.YtckdkcnnfjbdmaaGreatZP1
namespace Go.Proofs.YtckdkcnnfjbdmaaGreat

theorem key_mem {L : List Cn} {k : Int} (h : key L k ≠ 0) : ∃ d ∈ L, d.1 = k := by
  induction L with
  | nil => exact absurd rfl h
  | cons c L ih =>
    by_cases e : c.1 = k
    · exact ⟨c, by simp, e⟩
    · simp only [key] at h
      rw [if_neg e, Nat.zero_add] at h
      obtain ⟨d, h1, h2⟩ := ih h
      exact ⟨d, by simp [h1], h2⟩
theorem key_filter (L : List Cn) (q : Int → Bool) (k : Int) : key (L.filter fun c => q c.1) k = if q k = true then key L k else 0 := by
  induction L with
  | nil => simp [key]
  | cons c L ih =>
    rw [List.filter_cons]
    by_cases h : q c.1 = true
    · rw [if_pos h]
      simp only [key]
      rw [ih]
      by_cases e : c.1 = k
      · subst e; rw [if_pos rfl, if_pos h, if_pos h]
      · rw [if_neg e]
        split <;> simp
    · rw [if_neg h, ih]
      simp only [key]
      by_cases e : c.1 = k
      · subst e; rw [if_neg h, if_neg h]
      · rw [if_neg e]
        split <;> simp
theorem sum_split (L : List Cn) (x : Int) : sumN L = key L x + sumN (L.filter fun c => decide (c.1 ≠ x)) := by
  induction L with
  | nil => rfl
  | cons c L ih =>
    have e1 : sumN (c :: L) = c.2 + sumN L := by simp [sumN]
    rw [e1, ih, List.filter_cons]
    simp only [key]
    by_cases h : c.1 = x
    · rw [if_pos h, if_neg (by simp [h])]; omega
    · rw [if_neg h, if_pos (by simp [h])]
      have e2 : ∀ T : List Cn, sumN (c :: T) = c.2 + sumN T := fun T => by simp [sumN]
      rw [e2]; omega
theorem key_rest (L : List Cn) (x k : Int) : key (L.filter fun c => decide (c.1 ≠ x)) k = if k ≠ x then key L k else 0 := by
  have := key_filter L (fun i => decide (i ≠ x)) k
  rw [this]
  by_cases e : k = x
  · rw [if_neg (by simp [e]), if_neg (by simp [e])]
  · rw [if_pos (by simp [e]), if_pos e]
theorem sum_none (m : Nat) : ∀ (n : Nat) (L : List Cn), L.length ≤ n → (∀ k, key L k % m = 0) → sumN L % m = 0
  | 0, L, hl, _ => by
    have : L = [] := List.length_eq_zero_iff.1 (by omega)
    subst this; simp [sumN]
  | n + 1, [], _, _ => by simp [sumN]
  | n + 1, c :: L, hl, h => by
    rw [sum_split (c :: L) c.1, List.filter_cons, if_neg (by simp)]
    have h1 := h c.1
    have h2 : sumN (L.filter fun d => decide (d.1 ≠ c.1)) % m = 0 := by
      refine sum_none m n _ (Nat.le_trans (List.length_filter_le _ _) (by simp at hl; omega)) fun k => ?_
      rw [key_rest]
      split
      · rename_i e
        have := h k
        simp only [key] at this
        rw [if_neg (fun x => e x.symm), Nat.zero_add] at this
        exact this
      · exact Nat.zero_mod _
    rw [Nat.add_mod, h1, h2]
    simp
/-- Rising counts whose keys are another list's, brought round, have its sum, brought round. -/
theorem sum_mod (m : Nat) : ∀ (O L : List Cn), Rise O → (∀ k, key O k = key L k % m) → sumN O % m = sumN L % m
  | [], L, _, h => by
    rw [sum_none m L.length L (Nat.le_refl _) (fun k => (h k).symm)]
    simp [sumN]
  | c :: O, L, hr, h => by
    have h0 := key_head hr
    have hr' : Rise O := (List.pairwise_cons.1 hr).2
    have hc := (List.pairwise_cons.1 hr).1
    have ih := sum_mod m O (L.filter fun d => decide (d.1 ≠ c.1)) hr' (fun k => by
      rw [key_rest]
      split
      · rename_i e
        have := h k
        simp only [key] at this
        rw [if_neg (fun x => e x.symm), Nat.zero_add] at this
        exact this
      · rename_i e
        have e' : k = c.1 := by simpa using e
        rw [e', key_none (fun d hd => by have := hc d hd; omega), Nat.zero_mod])
    have e1 : sumN (c :: O) = c.2 + sumN O := by simp [sumN]
    have e2 := h c.1
    rw [h0] at e2
    rw [e1, sum_split L c.1, e2, Nat.add_mod, Nat.mod_mod, ih, ← Nat.add_mod]
theorem sum_keys {O L : List Cn} (hr : Rise O) (h : ∀ k, key O k = key L k) : sumN O = sumN L := by
  have b : ∀ k, key L k ≤ sumN L := fun k => by rw [sum_split L k]; omega
  have := sum_mod (sumN L + sumN O + 1) O L hr (fun k => by rw [h k, Nat.mod_eq_of_lt (by have := b k; omega)])
  rw [Nat.mod_eq_of_lt (by omega), Nat.mod_eq_of_lt (by omega)] at this
  exact this
theorem sumN_append (A B : List Cn) : sumN (A ++ B) = sumN A + sumN B := by unfold sumN; rw [List.map_append, List.sum_append]
theorem isMerge_from {O L : List Cn} (h : IsMerge O L) {c : Cn} (hc : c ∈ O) : ∃ d ∈ L, d.1 = c.1 := by
  refine key_mem (fun h0 => ?_)
  have h1 := h.keys c.1
  have h2 := (h.nz c hc).1
  obtain ⟨A, B, rfl⟩ := List.append_of_mem hc
  rw [h0] at h1
  have h3 : key (A ++ c :: B) c.1 = key A c.1 + (c.2 + key B c.1) := by rw [key_append]; simp [key]
  rw [h3] at h1
  simp at h1
  exact h2 h1.2.1
theorem key_sum (L : List Cn) (k : Int) : key L k ≤ sumN L := by rw [sum_split L k]; omega
/-- Two lists that may be, merged: nothing is brought round. -/
theorem merged_keys {p : Int} {A B O : List Cn} (hA : MayIs p A 0) (hB : MayIs p B 0) (hO : IsMerge O (A ++ B)) : ∀ k, key O k = key (A ++ B) k := fun k => by
  have a := (may_ok hA).2.1
  have b := (may_ok hB).2.1
  rw [hO.keys, Nat.mod_eq_of_lt]
  have := key_sum (A ++ B) k
  rw [sumN_append] at this
  omega
theorem merged_may {p : Int} {A B O : List Cn} (hA : MayIs p A 0) (hB : MayIs p B 0) (hO : IsMerge O (A ++ B)) : MayIs p O (if 9223372036854775807 < sumN A + sumN B then 3 else 0) := by
  have a := may_ok hA
  have b := may_ok hB
  refine Or.inr ⟨a.1, Or.inr ⟨fun j hj => ?_, by rw [sum_keys hO.rise (merged_keys hA hB hO), sumN_append]⟩⟩
  have hin : ∀ c ∈ O, 0 ≤ c.1 ∧ c.1 < (((64 - p.toNat) * 2 ^ p.toNat : Nat) : Int) := fun c hc => by
    obtain ⟨d, hd, he⟩ := isMerge_from hO hc
    rw [← he]
    rcases List.mem_append.1 hd with k | k
    · obtain ⟨i, hi, rfl⟩ := List.getElem_of_mem k; exact ⟨(a.2.2 i hi).1, (a.2.2 i hi).2.1⟩
    · obtain ⟨i, hi, rfl⟩ := List.getElem_of_mem k; exact ⟨(b.2.2 i hi).1, (b.2.2 i hi).2.1⟩
  have hm := List.getElem_mem hj
  unfold bad
  rw [show O.getD j (0, 1) = O[j] from by simp [List.getD, hj], if_neg (by have := hin _ hm; omega)]
  by_cases h0 : 0 < j
  · rw [show O.getD (j - 1) (0, 1) = O[j - 1] from by simp [List.getD, show j - 1 < O.length by omega]]
    have := (List.pairwise_iff_getElem.1 hO.rise) (j - 1) j (by omega) hj (by omega)
    rw [if_neg (by omega), if_neg (hO.nz _ hm).1]
  · rw [if_neg (by omega), if_neg (hO.nz _ hm).1]
end Go.Proofs.YtckdkcnnfjbdmaaGreat
/- TWO SNAPSHOTS AS ONE: the merged one is as wide as they are. Own work of the verifier. -/
namespace Go.Proofs.YtckdkcnnfjbdmaaGreat
open Me

/-- One count more, put in its place. -/
def insC (c : Cn) : List Cn → List Cn
  | [] => if c.2 % 18446744073709551616 = 0 then [] else [(c.1, c.2 % 18446744073709551616)]
  | d :: O => if c.1 < d.1 then (if c.2 % 18446744073709551616 = 0 then d :: O else (c.1, c.2 % 18446744073709551616) :: d :: O) else if c.1 = d.1 then (if (d.2 + c.2) % 18446744073709551616 = 0 then O else (d.1, (d.2 + c.2) % 18446744073709551616) :: O) else d :: insC c O
theorem ins_mem (c : Cn) : ∀ (O : List Cn) (e : Cn), e ∈ insC c O → e.1 = c.1 ∨ ∃ d ∈ O, d.1 = e.1
  | [], e, h => by
    unfold insC at h
    split at h
    · cases h
    · rw [List.mem_singleton] at h; exact Or.inl (by rw [h])
  | d :: O, e, h => by
    unfold insC at h
    split at h
    · split at h
      · exact Or.inr ⟨e, h, rfl⟩
      · rcases List.mem_cons.1 h with h | h
        · exact Or.inl (by rw [h])
        · exact Or.inr ⟨e, h, rfl⟩
    · split at h
      · split at h
        · exact Or.inr ⟨e, List.mem_cons_of_mem _ h, rfl⟩
        · rcases List.mem_cons.1 h with h | h
          · exact Or.inr ⟨d, List.mem_cons_self .., by rw [h]⟩
          · exact Or.inr ⟨e, List.mem_cons_of_mem _ h, rfl⟩
      · rcases List.mem_cons.1 h with h | h
        · exact Or.inr ⟨d, List.mem_cons_self .., by rw [h]⟩
        · rcases ins_mem c O e h with k | ⟨f, hf, k⟩
          · exact Or.inl k
          · exact Or.inr ⟨f, List.mem_cons_of_mem _ hf, k⟩
theorem ins_ok (c : Cn) : ∀ O : List Cn, Rise O → (∀ e ∈ O, e.2 ≠ 0 ∧ e.2 < 18446744073709551616) → Rise (insC c O) ∧ (∀ e ∈ insC c O, e.2 ≠ 0 ∧ e.2 < 18446744073709551616) ∧ (∀ k, key (insC c O) k % 18446744073709551616 = (key O k + if c.1 = k then c.2 else 0) % 18446744073709551616) ∧ (insC c O).length ≤ O.length + 1
  | [], _, _ => by
    unfold insC
    split
    · rename_i h
      refine ⟨List.Pairwise.nil, (fun e he => by cases he), fun k => ?_, by simp⟩
      simp only [key]
      split <;> omega
    · rename_i h
      refine ⟨List.pairwise_singleton _ _, fun e he => ?_, fun k => ?_, by simp⟩
      · rw [List.mem_singleton] at he
        rw [he]
        exact ⟨h, Nat.mod_lt _ (by decide)⟩
      · simp only [key]
        split <;> omega
  | d :: O, hr, hn => by
    have hr' := List.pairwise_cons.1 hr
    obtain ⟨i1, i2, i3, i4⟩ := ins_ok c O hr'.2 (fun e he => hn e (List.mem_cons_of_mem _ he))
    unfold insC
    split
    · rename_i h
      split
      · rename_i h2
        refine ⟨hr, hn, fun k => ?_, by omega⟩
        split <;> omega
      · rename_i h2
        refine ⟨List.pairwise_cons.2 ⟨fun e he => ?_, hr⟩, fun e he => ?_, fun k => ?_, by simp⟩
        · show c.1 < e.1
          rcases List.mem_cons.1 he with rfl | he
          · exact h
          · have := hr'.1 e he; omega
        · rcases List.mem_cons.1 he with rfl | he
          · exact ⟨h2, Nat.mod_lt _ (by decide)⟩
          · exact hn e he
        · simp only [key]
          split <;> omega
    · rename_i h
      split
      · rename_i h1
        split
        · rename_i h2
          refine ⟨hr'.2, fun e he => hn e (List.mem_cons_of_mem _ he), fun k => ?_, by simp; omega⟩
          simp only [key]
          rw [← h1]
          split <;> omega
        · rename_i h2
          refine ⟨List.pairwise_cons.2 ⟨fun e he => hr'.1 e he, hr'.2⟩, fun e he => ?_, fun k => ?_, by simp⟩
          · rcases List.mem_cons.1 he with rfl | he
            · exact ⟨h2, Nat.mod_lt _ (by decide)⟩
            · exact hn e (List.mem_cons_of_mem _ he)
          · simp only [key]
            rw [← h1]
            split <;> omega
      · rename_i h1
        refine ⟨List.pairwise_cons.2 ⟨fun e he => ?_, i1⟩, fun e he => ?_, fun k => ?_, by simp only [List.length_cons]; omega⟩
        · rcases ins_mem c O e he with k | ⟨f, hf, k⟩
          · omega
          · have := hr'.1 f hf; omega
        · rcases List.mem_cons.1 he with rfl | he
          · exact hn _ (List.mem_cons_self ..)
          · exact i2 e he
        · simp only [key]
          have := i3 k
          omega
theorem key_lt {O : List Cn} (hr : Rise O) (hn : ∀ e ∈ O, e.2 ≠ 0 ∧ e.2 < 18446744073709551616) (k : Int) : key O k < 18446744073709551616 := by
  induction O with
  | nil => exact (by decide : (0 : Nat) < 18446744073709551616)
  | cons d O ih =>
    have hr' := List.pairwise_cons.1 hr
    by_cases h : d.1 = k
    · subst h
      rw [key_head hr]
      exact (hn d (List.mem_cons_self ..)).2
    · simp only [key, if_neg h]
      have := ih hr'.2 (fun e he => hn e (List.mem_cons_of_mem _ he))
      omega
theorem isMerge_some (L : List Cn) : ∃ O, IsMerge O L ∧ O.length ≤ L.length := by
  induction L with
  | nil => exact ⟨[], isMerge_nil, Nat.le_refl _⟩
  | cons c L ih =>
    obtain ⟨O, h, hl⟩ := ih
    obtain ⟨i1, i2, i3, i4⟩ := ins_ok c O h.rise h.nz
    refine ⟨insC c O, ⟨i1, i2, fun k => ?_⟩, by simp only [List.length_cons]; omega⟩
    have h1 := key_lt i1 i2 k
    have h2 := i3 k
    have h3 := h.keys k
    simp only [key]
    omega
theorem mrgC_is (A C : List Cn) : IsMerge (mrgC A C) (A ++ C) ∧ (mrgC A C).length ≤ A.length + C.length := by
  obtain ⟨O, h, hl⟩ := isMerge_some (A ++ C)
  rw [mrgC_eq h]
  exact ⟨h, by rw [List.length_append] at hl; exact hl⟩
theorem mrg_wc {O L : List Cn} (h : IsMerge O L) (hL : Wc L) : Wc O := fun e he => by
  have hk : key O e.1 = e.2 := by
    have hr := h.rise
    clear h hL
    induction O with
    | nil => cases he
    | cons d O ih =>
      have hr' := List.pairwise_cons.1 hr
      rcases List.mem_cons.1 he with rfl | he
      · exact key_head hr
      · have := hr'.1 e he
        simp only [key]
        rw [if_neg (by omega), ih he hr'.2, Nat.zero_add]
  have hn := h.nz e he
  have hkk := h.keys e.1
  have : ∃ c ∈ L, c.1 = e.1 := by
    apply Classical.byContradiction
    intro hx
    rw [key_none (fun c hc q => hx ⟨c, hc, q⟩)] at hkk
    omega
  obtain ⟨c, hc, q⟩ := this
  have := hL c hc
  exact ⟨by omega, by omega, hn.2⟩
theorem outF_lt {x y : Nat} (s : Int) (hx : x < 18446744073709551616) (hy : y < 18446744073709551616) : Re.outF x y s < 18446744073709551616 := by
  unfold Re.outF
  split <;> assumption
theorem jV_w {x y : Vl} (hx : VW x) (hy : VW y) (lx : x.cs.length ≤ 1048576) (ly : y.cs.length ≤ 1048576) : VW (jV x y) := by
  have hm := mrgC_is x.cs y.cs
  have hf : (jF x y).1 < 18446744073709551616 ∧ (jF x y).2.1 < 18446744073709551616 ∧ (jF x y).2.2 < 18446744073709551616 := by
    unfold jF
    split
    · exact ⟨hy.sum, hy.mn, hy.mx⟩
    · split
      · exact ⟨Soft.fa_lt _ _, outF_lt _ hx.mn hy.mn, outF_lt _ hx.mx hy.mx⟩
      · exact ⟨hx.sum, hx.mn, hx.mx⟩
  refine ⟨?_, mrg_wc hm.1 (fun c hc => ?_), ?_, Nat.mod_lt _ (by decide), hf.1, hf.2.1, hf.2.2, hx.d⟩
  · show InR (rnd (x.t + y.t))
    unfold rnd
    constructor <;> omega
  · rcases List.mem_append.1 hc with h | h
    · exact hx.cs c h
    · exact hy.cs c h
  · show (mrgC x.cs y.cs).length ≤ 8796093022208
    omega
theorem dm_mem : ∀ (n : Nat) (A B : List Vl), A.length + B.length = n → ∀ q ∈ dmL A B, q.1 ∈ A ∨ q.1 ∈ B ∨ ∃ x ∈ A, ∃ y ∈ B, q = joinV x y := by
  intro n
  induction n using Nat.strongRecOn with
  | _ n ih =>
    intro A B hn q hq
    match A, B, hn with
    | [], B, _ =>
      rw [dmL, List.mem_map] at hq
      obtain ⟨y, hy, rfl⟩ := hq
      exact Or.inr (Or.inl hy)
    | a :: A, [], _ =>
      rw [dmL, List.mem_map] at hq
      obtain ⟨y, hy, rfl⟩ := hq
      exact Or.inl hy
    | a :: A, b :: B, hn =>
      simp only [List.length_cons] at hn
      rcases dmL_cases (a := a) (b := b) (A := A) (B := B) with ⟨_, h⟩ | ⟨_, h⟩ | ⟨_, h⟩
      · rw [h] at hq
        rcases List.mem_cons.1 hq with rfl | hq
        · exact Or.inl (List.mem_cons_self ..)
        · rcases ih (A.length + (b :: B).length) (by simp only [List.length_cons]; omega) A (b :: B) rfl q hq with k | k | ⟨x, hx, y, hy, k⟩
          · exact Or.inl (List.mem_cons_of_mem _ k)
          · exact Or.inr (Or.inl k)
          · exact Or.inr (Or.inr ⟨x, List.mem_cons_of_mem _ hx, y, hy, k⟩)
      · rw [h] at hq
        rcases List.mem_cons.1 hq with rfl | hq
        · exact Or.inr (Or.inl (List.mem_cons_self ..))
        · rcases ih ((a :: A).length + B.length) (by simp only [List.length_cons]; omega) (a :: A) B rfl q hq with k | k | ⟨x, hx, y, hy, k⟩
          · exact Or.inl k
          · exact Or.inr (Or.inl (List.mem_cons_of_mem _ k))
          · exact Or.inr (Or.inr ⟨x, hx, y, List.mem_cons_of_mem _ hy, k⟩)
      · rw [h] at hq
        rcases List.mem_cons.1 hq with rfl | hq
        · exact Or.inr (Or.inr ⟨a, List.mem_cons_self .., b, List.mem_cons_self .., rfl⟩)
        · rcases ih (A.length + B.length) (by omega) A B rfl q hq with k | k | ⟨x, hx, y, hy, k⟩
          · exact Or.inl (List.mem_cons_of_mem _ k)
          · exact Or.inr (Or.inl (List.mem_cons_of_mem _ k))
          · exact Or.inr (Or.inr ⟨x, List.mem_cons_of_mem _ hx, y, List.mem_cons_of_mem _ hy, k⟩)
theorem fst_none {D : List (Vl × Int)} (h : fstE D = 0) : ∀ q ∈ D, q.2 = 0 := by
  induction D with
  | nil => intro q hq; cases hq
  | cons d D ih =>
    by_cases hd : d.2 = 0
    · rw [fstE_z d D hd] at h
      intro q hq
      rcases List.mem_cons.1 hq with rfl | hq
      · exact hd
      · exact ih h q hq
    · rw [fstE_p d D hd] at h
      exact absurd h hd
theorem zS_w : SnW zS := ⟨(fun x hx => by cases hx), by decide⟩
/-- The merged snapshot is as wide as its two. -/
theorem mg_w {a b : Sn} (ha : SnW a) (hb : SnW b) : SnW (mgS a b).1 := by
  by_cases h1 : (chkS a).1 = 0
  · by_cases h2 : (chkS b).1 = 0
    · rw [mg_doc h1 h2]
      split
      · exact zS_w
      · split
        · exact zS_w
        · split
          · exact zS_w
          · split
            · exact zS_w
            · rename_i hf
              split
              · exact zS_w
              · have k1 := (chkS_ok h1).2.2.2
                have k2 := (chkS_ok h2).2.2.2
                have hf0 : fstE (dmL a.vs b.vs) = 0 := by simpa using hf
                refine ⟨fun v hv => ?_, Nat.mod_lt _ (by decide)⟩
                have hv' : v ∈ (dmL a.vs b.vs).map (·.1) := hv
                obtain ⟨q, hq, rfl⟩ := List.mem_map.1 hv'
                rcases dm_mem _ _ _ rfl q hq with k | k | ⟨x, hx, y, hy, k⟩
                · exact ha.vs _ k
                · exact hb.vs _ k
                · have hz := fst_none hf0 q hq
                  rw [k] at hz ⊢
                  rw [joinV_ok hz]
                  obtain ⟨i, hi, rfl⟩ := List.mem_iff_getElem.1 hx
                  obtain ⟨j, hj, rfl⟩ := List.mem_iff_getElem.1 hy
                  exact jV_w (ha.vs _ hx) (hb.vs _ hy) (fit_of (ha.vs _ hx) (k1 i hi)).c (fit_of (hb.vs _ hy) (k2 j hj)).c
    · have : mgS a b = (zS, (chkS b).1) := by unfold mgS; rw [if_neg (by simpa using h1), if_pos h2]
      rw [this]
      exact zS_w
  · have : mgS a b = (zS, (chkS a).1) := by unfold mgS; rw [if_pos h1]
    rw [this]
    exact zS_w
end Go.Proofs.YtckdkcnnfjbdmaaGreat
/- TWO SNAPSHOTS AS ONE: what is merged holds what it says. Own work of the verifier. -/
namespace Go.Proofs.YtckdkcnnfjbdmaaGreat
open Me

/-- Counts, each with a weight of its index. -/
def ws (f : Int → Nat) (L : List Cn) : Nat := (L.map fun c => f c.1 * c.2).sum
theorem ws_cons (f : Int → Nat) (c : Cn) (L : List Cn) : ws f (c :: L) = f c.1 * c.2 + ws f L := by simp [ws]
theorem ws_append (f : Int → Nat) (A B : List Cn) : ws f (A ++ B) = ws f A + ws f B := by simp [ws]
theorem sumN_cons (c : Cn) (L : List Cn) : sumN (c :: L) = c.2 + sumN L := by simp [sumN]
theorem ins_ws (f : Int → Nat) (c : Cn) : ∀ O : List Cn, sumN O + c.2 < 18446744073709551616 → ws f (insC c O) = ws f O + f c.1 * c.2 ∧ sumN (insC c O) = sumN O + c.2
  | [], h => by
    have h0 : sumN [] = 0 := rfl
    have e0 : c.2 % 18446744073709551616 = c.2 := Nat.mod_eq_of_lt (by omega)
    unfold insC
    rw [e0]
    split
    · rename_i k
      rw [k]
      exact ⟨by simp, by simp⟩
    · rw [ws_cons, sumN_cons]
      exact ⟨Nat.add_comm _ _, Nat.add_comm _ _⟩
  | d :: O, h => by
    rw [sumN_cons] at h
    have ih := ins_ws f c O (by omega)
    have e0 : c.2 % 18446744073709551616 = c.2 := Nat.mod_eq_of_lt (by omega)
    have e1 : (d.2 + c.2) % 18446744073709551616 = d.2 + c.2 := Nat.mod_eq_of_lt (by omega)
    unfold insC
    rw [e0, e1]
    split
    · split
      · rename_i k
        rw [k]
        exact ⟨by simp, by simp⟩
      · rw [ws_cons, sumN_cons]
        exact ⟨Nat.add_comm _ _, Nat.add_comm _ _⟩
    · split
      · rename_i k
        rw [ws_cons, sumN_cons]
        split
        · rename_i q
          have q1 : d.2 = 0 := by omega
          have q2 : c.2 = 0 := by omega
          rw [q1, q2]
          exact ⟨by simp, by simp⟩
        · rw [ws_cons, sumN_cons]
          show f d.1 * (d.2 + c.2) + _ = _ ∧ (d.2 + c.2) + _ = _
          rw [k, Nat.mul_add]
          exact ⟨by omega, by omega⟩
      · rw [ws_cons, sumN_cons, ws_cons, sumN_cons, ih.1, ih.2]
        exact ⟨by omega, by omega⟩
theorem merge_ws (f : Int → Nat) {O L : List Cn} (h : IsMerge O L) (hs : sumN L < 18446744073709551616) : ws f O = ws f L ∧ sumN O = sumN L := by
  suffices ∃ P, IsMerge P L ∧ ws f P = ws f L ∧ sumN P = sumN L by
    obtain ⟨P, h1, h2⟩ := this
    rw [h.uniq h1]
    exact h2
  clear h
  induction L with
  | nil => exact ⟨[], isMerge_nil, rfl, rfl⟩
  | cons c L ih =>
    rw [sumN_cons] at hs
    obtain ⟨P, h1, h2, h3⟩ := ih (by omega)
    obtain ⟨i1, i2, i3, _⟩ := ins_ok c P h1.rise h1.nz
    have hw := ins_ws f c P (by omega)
    refine ⟨insC c P, ⟨i1, i2, fun k => ?_⟩, ?_, ?_⟩
    · have q1 := key_lt i1 i2 k
      have q2 := i3 k
      have q3 := h1.keys k
      simp only [key]
      omega
    · rw [hw.1, h2, ws_cons, Nat.add_comm]
    · rw [hw.2, h3, sumN_cons, Nat.add_comm]
theorem may_sum {p : Int} {L : List Cn} (h : MayIs p L 0) : sumN L ≤ 9223372036854775807 := by
  rcases h with ⟨_, h⟩ | ⟨_, ⟨i, _, _, k, e⟩ | ⟨_, h⟩⟩
  · omega
  · exact absurd e.symm k
  · split at h
    · omega
    · omega
theorem mrgC_nil : mrgC [] [] = [] := mrgC_eq isMerge_nil
theorem low_ws (P : Nat) (C : List Cn) : lowN P C = ws (fun i => lo (2 ^ P) i.toNat) C := rfl
theorem high_ws (P : Nat) (C : List Cn) : highN P C = ws (fun i => hiV P i.toNat) C := rfl
/-- Merged counts hold what they say. -/
theorem cnt_j {p : Int} {x y : Vl} (tx : InR x.t) (ty : InR y.t) (h1 : cntB p x = true) (h2 : cntB p y = true) (hj : ¬ (rnd (x.t + y.t) < 0 ∨ 9223372036854775807 < (x.n + y.n) % 18446744073709551616)) : cntB p (jV x y) = true := by
  simp only [cntB, btw, Bool.and_eq_true, decide_eq_true_eq] at h1 h2 ⊢
  obtain ⟨⟨a1, a2⟩, a3, a4⟩ := h1
  obtain ⟨⟨b1, b2⟩, b3, b4⟩ := h2
  have mx := mayE_is p x.cs
  have my := mayE_is p y.cs
  rw [a1] at mx
  rw [b1] at my
  have sx := may_sum mx
  have sy := may_sum my
  have hm := (mrgC_is x.cs y.cs).1
  have hsum : sumN (x.cs ++ y.cs) = sumN x.cs + sumN y.cs := sumN_append _ _
  have nx : x.n = sumN x.cs := by rw [a2]; exact Nat.mod_eq_of_lt (by show sumN x.cs < _; omega)
  have ny : y.n = sumN y.cs := by rw [b2]; exact Nat.mod_eq_of_lt (by show sumN y.cs < _; omega)
  have hn : (x.n + y.n) % 18446744073709551616 = sumN x.cs + sumN y.cs := by rw [nx, ny]; exact Nat.mod_eq_of_lt (by omega)
  have mm := merged_may mx my hm
  rw [if_neg (by omega)] at mm
  obtain ⟨l1, _⟩ := merge_ws (fun i => lo (2 ^ p.toNat) i.toNat) hm (by omega)
  obtain ⟨l2, l3⟩ := merge_ws (fun i => hiV p.toNat i.toNat) hm (by omega)
  rw [ws_append, ← low_ws, ← low_ws, ← low_ws] at l1
  rw [ws_append, ← high_ws, ← high_ws, ← high_ws] at l2
  have hr : rnd (x.t + y.t) = x.t + y.t := by
    obtain ⟨_, _⟩ := tx
    obtain ⟨_, _⟩ := ty
    unfold rnd at hj ⊢
    omega
  refine ⟨⟨(mayE_is p _).uniq mm, ?_⟩, ?_, ?_⟩
  · show (x.n + y.n) % 18446744073709551616 = tot (mrgC x.cs y.cs)
    have : tot (mrgC x.cs y.cs) = sumN (mrgC x.cs y.cs) % 18446744073709551616 := rfl
    rw [this, l3, hsum, hn]
    exact (Nat.mod_eq_of_lt (by omega)).symm
  · show ((lowN p.toNat (mrgC x.cs y.cs) : Nat) : Int) ≤ rnd (x.t + y.t)
    rw [l1, hr]
    omega
  · show rnd (x.t + y.t) ≤ ((highN p.toNat (mrgC x.cs y.cs) : Nat) : Int)
    rw [l2, hr]
    omega
end Go.Proofs.YtckdkcnnfjbdmaaGreat
/- TWO SNAPSHOTS AS ONE: a merged value holds what it says. Own work of the verifier. -/
namespace Go.Proofs.YtckdkcnnfjbdmaaGreat
open Me

theorem sg_le (a b : Nat) : Re.sg a b ≤ 0 ↔ a ≤ b := by
  unfold Re.sg
  split
  · omega
  · split <;> omega
theorem sg_lt (a b : Nat) : Re.sg a b = -1 ↔ a < b := by
  unfold Re.sg
  split
  · omega
  · split <;> omega
theorem sg_gt (a b : Nat) : Re.sg a b = 1 ↔ b < a := by
  unfold Re.sg
  split
  · omega
  · split <;> omega
theorem joinV_no {x y : Vl} (h : (joinV x y).2 = 0) : ¬ (rnd (x.t + y.t) < 0 ∨ 9223372036854775807 < (x.n + y.n) % 18446744073709551616) ∧ Re.finF (jF x y).1 = true := by
  unfold joinV at h
  split at h
  · exact absurd h (by decide)
  · rename_i k
    split at h
    · exact absurd h (by decide)
    · rename_i q
      exact ⟨k, by simpa using q⟩
theorem fl_j {x y : Vl} (h1 : flB x = true) (h2 : flB y = true) (hn : ¬ 9223372036854775807 < (x.n + y.n) % 18446744073709551616) (hf : Re.finF (jF x y).1 = true) : flB (jV x y) = true := by
  unfold flB at h1 h2 ⊢
  have nx : ¬ 9223372036854775807 < x.n := by intro k; rw [if_pos k] at h1; cases h1
  have ny : ¬ 9223372036854775807 < y.n := by intro k; rw [if_pos k] at h2; cases h2
  rw [if_neg nx] at h1
  rw [if_neg ny] at h2
  have en : (jV x y).n = x.n + y.n := Nat.mod_eq_of_lt (by omega)
  have hn' : ¬ 9223372036854775807 < (jV x y).n := hn
  rw [if_neg hn', en]
  have e1 : (jV x y).sum = (jF x y).1 := rfl
  have e2 : (jV x y).mn = (jF x y).2.1 := rfl
  have e3 : (jV x y).mx = (jF x y).2.2 := rfl
  by_cases kx : x.n = 0
  · have ej : jF x y = (y.sum, y.mn, y.mx) := by unfold jF; rw [if_pos kx]
    rw [ej] at e1 e2 e3
    rw [kx, Nat.zero_add]
    by_cases k2 : y.n = 0
    · rw [if_pos k2] at h2 ⊢
      unfold fz at h2 ⊢
      rw [e1, e2, e3]
      exact h2
    · rw [if_neg k2] at h2 ⊢
      rw [e1, e2, e3]
      exact h2
  · rw [if_neg kx] at h1
    rw [if_neg (by omega)]
    by_cases k2 : 0 < y.n
    · rw [if_neg (by omega)] at h2
      have ej : jF x y = (Soft.fa x.sum y.sum, Re.outF x.mn y.mn (-1), Re.outF x.mx y.mx 1) := by unfold jF; rw [if_neg kx, if_pos k2]
      rw [ej] at e1 e2 e3 hf
      rw [e1, e2, e3]
      simp only [Bool.and_eq_true, decide_eq_true_eq, sg_le] at h1 h2 ⊢
      obtain ⟨⟨⟨a1, a2⟩, a3⟩, a4⟩ := h1
      obtain ⟨⟨⟨b1, b2⟩, b3⟩, b4⟩ := h2
      refine ⟨⟨⟨hf, ?_⟩, ?_⟩, ?_⟩
      · unfold Re.outF; split <;> assumption
      · unfold Re.outF; split <;> assumption
      · unfold Re.outF
        simp only [sg_lt, sg_gt]
        split <;> split <;> omega
    · have ej : jF x y = (x.sum, x.mn, x.mx) := by unfold jF; rw [if_neg kx, if_neg k2]
      rw [ej] at e1 e2 e3
      rw [e1, e2, e3]
      exact h1
theorem fa_zero : Soft.fa 0 0 = 0 := by decide +kernel
theorem fz_j {x y : Vl} (h1 : fz x = true) (h2 : fz y = true) : fz (jV x y) = true := by
  simp only [fz, Bool.and_eq_true, decide_eq_true_eq] at h1 h2 ⊢
  obtain ⟨⟨a1, a2⟩, a3⟩ := h1
  obtain ⟨⟨b1, b2⟩, b3⟩ := h2
  show ((jF x y).1 = 0 ∧ (jF x y).2.1 = 0) ∧ (jF x y).2.2 = 0
  unfold jF
  split
  · exact ⟨⟨b1, b2⟩, b3⟩
  · split
    · refine ⟨⟨?_, ?_⟩, ?_⟩
      · show Soft.fa x.sum y.sum = 0
        rw [a1, b1, fa_zero]
      · show Re.outF x.mn y.mn (-1) = 0
        unfold Re.outF; split <;> assumption
      · show Re.outF x.mx y.mx 1 = 0
        unfold Re.outF; split <;> assumption
    · exact ⟨⟨a1, a2⟩, a3⟩
theorem cs_nil {L : List Cn} (h : L.length = 0) : L = [] := List.length_eq_zero_iff.1 h
/-- A merged value holds what it says. -/
theorem hold_j {p : Int} {x y : Vl} (hx : VW x) (hy : VW y) (hk : x.d.kind = y.d.kind) (h1 : holdB p x = true) (h2 : holdB p y = true) (hj : (joinV x y).2 = 0) : holdB p (jV x y) = true := by
  obtain ⟨hr, hf⟩ := joinV_no hj
  have ek : (jV x y).d.kind = x.d.kind := rfl
  unfold holdB at h1 h2 ⊢
  rw [← hk] at h2
  rw [ek]
  split
  · rename_i k
    rw [if_pos k] at h1 h2
    simp only [Bool.and_eq_true, decide_eq_true_eq] at h1 h2 ⊢
    obtain ⟨⟨⟨a1, a2⟩, a3⟩, a4⟩ := h1
    obtain ⟨⟨⟨b1, b2⟩, b3⟩, b4⟩ := h2
    refine ⟨⟨⟨?_, ?_⟩, ?_⟩, fz_j a4 b4⟩
    · show 0 ≤ rnd (x.t + y.t)
      omega
    · show (mrgC x.cs y.cs).length = 0
      rw [cs_nil a2, cs_nil b2, mrgC_nil]
      rfl
    · show (x.n + y.n) % 18446744073709551616 = 0
      rw [a3, b3]
  · rename_i k
    rw [if_neg k] at h1 h2
    split
    · rename_i k2
      rw [if_pos k2] at h1 h2
      simp only [Bool.and_eq_true] at h1 h2 ⊢
      exact ⟨cnt_j hx.t hy.t h1.1 h2.1 hr, fz_j h1.2 h2.2⟩
    · rename_i k2
      rw [if_neg k2] at h1 h2
      simp only [Bool.and_eq_true, decide_eq_true_eq] at h1 h2 ⊢
      obtain ⟨⟨a1, a2⟩, a3⟩ := h1
      obtain ⟨⟨b1, b2⟩, b3⟩ := h2
      refine ⟨⟨?_, ?_⟩, fl_j a3 b3 (fun q => hr (Or.inr q)) hf⟩
      · show rnd (x.t + y.t) = 0
        rw [a1, b1]
        rfl
      · show (mrgC x.cs y.cs).length = 0
        rw [cs_nil a2, cs_nil b2, mrgC_nil]
        rfl
end Go.Proofs.YtckdkcnnfjbdmaaGreat
/- TWO SNAPSHOTS AS ONE: what is merged may be. Own work of the verifier. -/
namespace Go.Proofs.YtckdkcnnfjbdmaaGreat
open Me

/-- Where two are merged without an error. -/
theorem mg_inv {a b : Sn} (h : (mgS a b).2 = 0) : (chkS a).1 = 0 ∧ (chkS b).1 = 0 ∧ a.p = b.p ∧ unX a.vs b.vs = false ∧ (dmL a.vs b.vs).length ≤ 256 ∧ fstE (dmL a.vs b.vs) = 0 ∧ ¬ (a.r + b.r) % 18446744073709551616 < a.r ∧ mgS a b = (⟨a.p, dV a.vs b.vs, (a.r + b.r) % 18446744073709551616⟩, 0) := by
  by_cases h1 : (chkS a).1 = 0
  · by_cases h2 : (chkS b).1 = 0
    · have hd := mg_doc h1 h2
      rw [hd] at h ⊢
      split at h
      · exact absurd h (by decide : ¬ (12 : Int) = 0)
      · rename_i c1
        split at h
        · exact absurd h (by decide : ¬ (12 : Int) = 0)
        · rename_i c2
          split at h
          · exact absurd h (by decide : ¬ (3 : Int) = 0)
          · rename_i c3
            split at h
            · rename_i c4
              exact absurd h c4
            · rename_i c4
              split at h
              · exact absurd h (by decide : ¬ (3 : Int) = 0)
              · rename_i c5
                rw [if_neg c1, if_neg c2, if_neg c3, if_neg c4, if_neg c5]
                exact ⟨h1, h2, by simpa using c1, by simpa using c2, by omega, by simpa using c4, c5, rfl⟩
    · have : mgS a b = (zS, (chkS b).1) := by unfold mgS; rw [if_neg (by simpa using h1), if_pos h2]
      rw [this] at h
      exact absurd h h2
  · have : mgS a b = (zS, (chkS a).1) := by unfold mgS; rw [if_pos h1]
    rw [this] at h
    exact absurd h h1
theorem mg_not {a b : Sn} (h : (mgS a b).2 ≠ 0) : (mgS a b).1 = zS := by
  by_cases h1 : (chkS a).1 = 0
  · by_cases h2 : (chkS b).1 = 0
    · rw [mg_doc h1 h2] at h ⊢
      split
      · rfl
      · rename_i c1
        rw [if_neg c1] at h
        split
        · rfl
        · rename_i c2
          rw [if_neg c2] at h
          split
          · rfl
          · rename_i c3
            rw [if_neg c3] at h
            split
            · rfl
            · rename_i c4
              rw [if_neg c4] at h
              split
              · rfl
              · rename_i c5
                rw [if_neg c5] at h
                exact absurd rfl h
    · have : mgS a b = (zS, (chkS b).1) := by unfold mgS; rw [if_neg (by simpa using h1), if_pos h2]
      rw [this]
  · have : mgS a b = (zS, (chkS a).1) := by unfold mgS; rw [if_pos h1]
    rw [this]
theorem chk1_mk {p : Int} {q : Option Vl} {x : Vl} (h1 : La.chkD x.d = 0) (h2 : holdB p x = true) (h3 : ∀ y, q = some y → plV y x = 0) : chk1 p q x = 0 := by
  unfold chk1
  rw [if_neg (by simpa using h1), if_neg (by simp [h2])]
  cases q with
  | none => rfl
  | some y => exact h3 y rfl
theorem chkV_mk (p : Int) (L : List Vl) : ∀ (n i : Nat), L.length - i = n → (∀ j (hj : j < L.length), i ≤ j → chk1 p (prvV L j) L[j] = 0) → chkV p (prvV L i) (L.drop i) i = (0, 0) := by
  intro n
  induction n with
  | zero =>
    intro i hn _
    rw [List.drop_eq_nil_of_le (by omega)]
    cases prvV L i <;> rfl
  | succ n ih =>
    intro i hn h
    have hi : i < L.length := by omega
    rw [List.drop_eq_getElem_cons hi]
    have h0 := h i hi (Nat.le_refl _)
    have e : chkV p (prvV L i) (L[i] :: L.drop (i + 1)) i = if chk1 p (prvV L i) L[i] ≠ 0 then (chk1 p (prvV L i) L[i], i) else chkV p (some L[i]) (L.drop (i + 1)) (i + 1) := by
      cases prvV L i <;> rfl
    rw [e, if_neg (by simpa using h0), ← prvV_succ L i hi]
    exact ih (i + 1) (by omega) (fun j hj k => h j hj (by omega))
theorem chkS_mk {s : Sn} (h1 : 1 ≤ s.p) (h2 : s.p ≤ 14) (h3 : s.vs.length ≤ 256) (h4 : ∀ j (hj : j < s.vs.length), chk1 s.p (prvV s.vs j) s.vs[j] = 0) : chkS s = (0, 0) := by
  unfold chkS
  rw [if_neg (by omega), if_neg (by omega)]
  exact chkV_mk s.p s.vs _ 0 rfl (fun j hj _ => h4 j hj)
theorem plV_mk {x y : Vl} (h : La.ordD x.d y.d < 0) (hu : unlB x y = false) : plV x y = 0 := by
  unfold plV
  rw [if_neg (by omega), if_neg (by omega), if_neg (by simp [hu])]
theorem dm_mem2 : ∀ (n : Nat) (A B : List Vl), A.length + B.length = n → ∀ q ∈ dmL A B, (q.1 ∈ A ∧ q.2 = 0) ∨ (q.1 ∈ B ∧ q.2 = 0) ∨ ∃ x ∈ A, ∃ y ∈ B, La.ordD x.d y.d = 0 ∧ q = joinV x y := by
  intro n
  induction n using Nat.strongRecOn with
  | _ n ih =>
    intro A B hn q hq
    match A, B, hn with
    | [], B, _ =>
      rw [dmL, List.mem_map] at hq
      obtain ⟨y, hy, rfl⟩ := hq
      exact Or.inr (Or.inl ⟨hy, rfl⟩)
    | a :: A, [], _ =>
      rw [dmL, List.mem_map] at hq
      obtain ⟨y, hy, rfl⟩ := hq
      exact Or.inl ⟨hy, rfl⟩
    | a :: A, b :: B, hn =>
      simp only [List.length_cons] at hn
      rcases dmL_cases (a := a) (b := b) (A := A) (B := B) with ⟨_, h⟩ | ⟨_, h⟩ | ⟨c, h⟩
      · rw [h] at hq
        rcases List.mem_cons.1 hq with rfl | hq
        · exact Or.inl ⟨List.mem_cons_self .., rfl⟩
        · rcases ih (A.length + (b :: B).length) (by simp only [List.length_cons]; omega) A (b :: B) rfl q hq with k | k | ⟨x, hx, y, hy, k⟩
          · exact Or.inl ⟨List.mem_cons_of_mem _ k.1, k.2⟩
          · exact Or.inr (Or.inl k)
          · exact Or.inr (Or.inr ⟨x, List.mem_cons_of_mem _ hx, y, hy, k⟩)
      · rw [h] at hq
        rcases List.mem_cons.1 hq with rfl | hq
        · exact Or.inr (Or.inl ⟨List.mem_cons_self .., rfl⟩)
        · rcases ih ((a :: A).length + B.length) (by simp only [List.length_cons]; omega) (a :: A) B rfl q hq with k | k | ⟨x, hx, y, hy, k⟩
          · exact Or.inl k
          · exact Or.inr (Or.inl ⟨List.mem_cons_of_mem _ k.1, k.2⟩)
          · exact Or.inr (Or.inr ⟨x, hx, y, List.mem_cons_of_mem _ hy, k⟩)
      · rw [h] at hq
        rcases List.mem_cons.1 hq with rfl | hq
        · exact Or.inr (Or.inr ⟨a, List.mem_cons_self .., b, List.mem_cons_self .., c, rfl⟩)
        · rcases ih (A.length + B.length) (by omega) A B rfl q hq with k | k | ⟨x, hx, y, hy, k⟩
          · exact Or.inl ⟨List.mem_cons_of_mem _ k.1, k.2⟩
          · exact Or.inr (Or.inl ⟨List.mem_cons_of_mem _ k.1, k.2⟩)
          · exact Or.inr (Or.inr ⟨x, List.mem_cons_of_mem _ hx, y, List.mem_cons_of_mem _ hy, k⟩)
theorem unl_symm6 {x y : Vl} (h : unlB x y = false) : unlB y x = false := by
  rw [unl_false] at h ⊢
  intro k
  have := h k.symm
  exact ⟨this.1.symm, this.2.symm⟩
theorem unl_self6 (x : Vl) : unlB x x = false := unl_false.2 (fun _ => ⟨rfl, rfl⟩)
theorem fam_all {L : List Vl} (h : L.Pairwise (fun x y => unlB x y = false)) : ∀ x ∈ L, ∀ y ∈ L, unlB x y = false := by
  rw [List.pairwise_iff_getElem] at h
  intro x hx y hy
  obtain ⟨i, hi, rfl⟩ := List.mem_iff_getElem.1 hx
  obtain ⟨j, hj, rfl⟩ := List.mem_iff_getElem.1 hy
  rcases Nat.lt_trichotomy i j with c | c | c
  · exact h i j hi hj c
  · subst c; exact unl_self6 _
  · exact unl_symm6 (h j i hj hi c)
theorem unX_no {A B : List Vl} (h : unX A B = false) : ∀ x ∈ A, ∀ y ∈ B, unlB x y = false := fun x hx y hy => by
  unfold unX at h
  rw [List.any_eq_false] at h
  have := h x hx
  rw [Bool.not_eq_true, List.any_eq_false] at this
  simpa using this y hy
theorem join_ky (x y : Vl) (h : (joinV x y).2 = 0) : ky (joinV x y).1 = ky x := by rw [joinV_ok h]; rfl
/-- What each of the merged values is. -/
theorem dV_mem {A B : List Vl} (hf : fstE (dmL A B) = 0) : ∀ v ∈ dV A B, v ∈ A ∨ v ∈ B ∨ ∃ x ∈ A, ∃ y ∈ B, La.ordD x.d y.d = 0 ∧ (joinV x y).2 = 0 ∧ v = jV x y := fun v hv => by
  have hv' : v ∈ (dmL A B).map (·.1) := hv
  obtain ⟨q, hq, rfl⟩ := List.mem_map.1 hv'
  rcases dm_mem2 _ _ _ rfl q hq with k | k | ⟨x, hx, y, hy, k1, k2⟩
  · exact Or.inl k.1
  · exact Or.inr (Or.inl k.1)
  · have hz := fst_none hf q hq
    rw [k2] at hz ⊢
    exact Or.inr (Or.inr ⟨x, hx, y, hy, k1, hz, joinV_ok hz⟩)
/-- What is merged may be. -/
theorem mg_chk {a b : Sn} (ha : SnW a) (hb : SnW b) (h : (mgS a b).2 = 0) : chkS (mgS a b).1 = (0, 0) := by
  obtain ⟨h1, h2, hp, hu, hl, hf, hr, he⟩ := mg_inv h
  obtain ⟨p1, p2, _, k1⟩ := chkS_ok h1
  obtain ⟨_, _, _, k2⟩ := chkS_ok h2
  have s1 := chkS_srd h1
  have s2 := chkS_srd h2
  have A1 := fam_all (fam_pair s1.1.pair s1.2)
  have A2 := fam_all (fam_pair s2.1.pair s2.2)
  have A3 := unX_no hu
  have hN := (fst_iff _ _ _ rfl s1.1.pair s2.1.pair).1 hf
  have hP := (dV_all join_ky _ _ _ rfl s1.1.pair s2.1.pair hN).2.1
  have hm := dV_mem hf
  have from_ : ∀ v ∈ dV a.vs b.vs, ∃ x, (x ∈ a.vs ∨ x ∈ b.vs) ∧ v.d = x.d := fun v hv => by
    rcases hm v hv with k | k | ⟨x, hx, y, hy, _, _, rfl⟩
    · exact ⟨v, Or.inl k, rfl⟩
    · exact ⟨v, Or.inr k, rfl⟩
    · exact ⟨x, Or.inl hx, rfl⟩
  have un : ∀ u ∈ dV a.vs b.vs, ∀ v ∈ dV a.vs b.vs, unlB u v = false := fun u hu' v hv => by
    obtain ⟨x, hx, ex⟩ := from_ u hu'
    obtain ⟨y, hy, ey⟩ := from_ v hv
    have e : unlB u v = unlB x y := by unfold unlB; rw [ex, ey]
    rw [e]
    rcases hx with hx | hx <;> rcases hy with hy | hy
    · exact A1 x hx y hy
    · exact A3 x hx y hy
    · exact unl_symm6 (A3 y hy x hx)
    · exact A2 x hx y hy
  have va : ∀ x ∈ a.vs, La.chkD x.d = 0 ∧ holdB a.p x = true := fun x hx => by
    obtain ⟨i, hi, rfl⟩ := List.mem_iff_getElem.1 hx
    exact ⟨(chk1_zero (k1 i hi)).1, (chk1_zero (k1 i hi)).2.1⟩
  have vb : ∀ x ∈ b.vs, La.chkD x.d = 0 ∧ holdB a.p x = true := fun x hx => by
    obtain ⟨i, hi, rfl⟩ := List.mem_iff_getElem.1 hx
    rw [hp]
    exact ⟨(chk1_zero (k2 i hi)).1, (chk1_zero (k2 i hi)).2.1⟩
  have vm : ∀ v ∈ dV a.vs b.vs, La.chkD v.d = 0 ∧ holdB a.p v = true := fun v hv => by
    rcases hm v hv with k | k | ⟨x, hx, y, hy, c1, c2, rfl⟩
    · exact va v k
    · exact vb v k
    · have hk : x.d.kind = y.d.kind := ((unl_false.1 (A3 x hx y hy)) (congrArg Prod.fst ((ord_ky x y).1 c1))).1
      exact ⟨(va x hx).1, hold_j (ha.vs x hx) (hb.vs y hy) hk (va x hx).2 (vb y hy).2 c2⟩
  rw [he]
  refine chkS_mk p1 p2 (by show (dV a.vs b.vs).length ≤ 256; unfold dV; rw [List.length_map]; exact hl) (fun j hj => ?_)
  have hj' : j < (dV a.vs b.vs).length := hj
  have hmj := List.getElem_mem hj'
  refine chk1_mk (vm _ hmj).1 (vm _ hmj).2 (fun y hy => ?_)
  show plV y (dV a.vs b.vs)[j] = 0
  rcases j with _ | j
  · cases hy
  · rw [prvV_succ _ j (by show j < (dV a.vs b.vs).length; omega)] at hy
    cases hy
    exact plV_mk ((List.pairwise_iff_getElem.1 hP) j (j + 1) (by omega) hj' (by omega)) (un _ (List.getElem_mem _) _ hmj)
end Go.Proofs.YtckdkcnnfjbdmaaGreat
/- TWO SNAPSHOTS AS ONE: whichever comes first; an empty one. Own work of the verifier. -/
namespace Go.Proofs.YtckdkcnnfjbdmaaGreat
open Me

theorem lk_mem7 {L : List Vl} {k : List UInt8 × List La.Lb} {x : Vl} (h : lk L k = some x) : x ∈ L ∧ ky x = k := by
  unfold lk at h
  exact ⟨List.mem_of_find?_eq_some h, by simpa using List.find?_some h⟩
end Go.Proofs.YtckdkcnnfjbdmaaGreat
/- THREE SNAPSHOTS AS ONE: all but the sums. Own work of the verifier. -/
namespace Go.Proofs.YtckdkcnnfjbdmaaGreat
open Me

/-- A value without its sum. -/
def z0 (v : Vl) : Vl := { v with sum := 0 }
end Go.Proofs.YtckdkcnnfjbdmaaGreat
/- THREE SNAPSHOTS AS ONE, however they are merged. Own work of the verifier. -/
namespace Go.Proofs.YtckdkcnnfjbdmaaGreat
open Me

end Go.Proofs.YtckdkcnnfjbdmaaGreat
/- WHAT EACH SERIES OF A MERGED SNAPSHOT HAS. Own work of the verifier. -/
namespace Go.Proofs.YtckdkcnnfjbdmaaGreat
open Me

theorem hit_ky (n : List UInt8) (lb : List La.Lb) (x : Vl) : hitB (qV n lb) x = decide (ky x = (n, lb)) := by
  unfold hitB
  rw [Bool.eq_iff_iff]
  simp only [beq_iff_eq, decide_eq_true_eq]
  exact ord_ky x (qV n lb)
theorem fdI_lk (n : List UInt8) (lb : List La.Lb) : ∀ (L : List Vl) (i : Nat), (lk L (n, lb) = none ∧ fdI (qV n lb) L i = -1) ∨ (∃ j, ∃ h : j < L.length, lk L (n, lb) = some L[j] ∧ fdI (qV n lb) L i = ((i + j : Nat) : Int))
  | [], _ => Or.inl ⟨rfl, rfl⟩
  | x :: L, i => by
    rw [lk_cons, fdI, hit_ky]
    by_cases h : ky x = (n, lb)
    · rw [if_pos h, decide_eq_true h]
      exact Or.inr ⟨0, by simp, rfl, rfl⟩
    · rw [if_neg h, decide_eq_false h]
      rcases fdI_lk n lb L (i + 1) with ⟨k1, k2⟩ | ⟨j, hj, k1, k2⟩
      · exact Or.inl ⟨k1, k2⟩
      · refine Or.inr ⟨j + 1, by simp only [List.length_cons]; omega, k1, ?_⟩
        show fdI (qV n lb) L (i + 1) = _
        rw [k2]
        omega
/-- Find, as looking up. -/
theorem fnd_lk (s : Sn) (n : List UInt8) (lb : List La.Lb) : fndS s n lb = match lk s.vs (n, lb) with | some x => (x, 0) | none => (zV, 6) := by
  unfold fndS
  rcases fdI_lk n lb s.vs 0 with ⟨k1, k2⟩ | ⟨j, hj, k1, k2⟩
  · rw [k1, k2]
    rfl
  · rw [k1, k2, if_neg (by omega)]
    show (s.vs.getD (((0 + j : Nat) : Int)).toNat zV, (0 : Int)) = (s.vs[j], 0)
    rw [show (((0 + j : Nat) : Int)).toNat = j by omega]
    simp [List.getD, hj]
end Go.Proofs.YtckdkcnnfjbdmaaGreat
/- HOW MANY SERIES A MERGED SNAPSHOT HAS. Own work of the verifier. -/
namespace Go.Proofs.YtckdkcnnfjbdmaaGreat
open Me

end Go.Proofs.YtckdkcnnfjbdmaaGreat
