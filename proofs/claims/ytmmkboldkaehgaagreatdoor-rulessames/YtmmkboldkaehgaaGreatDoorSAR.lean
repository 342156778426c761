/- THE MATHEMATICS OF THE ORDER, AND OF TEXTS THERE AND BACK: helps and values. Own work of the verifier. -/
import Derived.Test.YtmmkboldkaehgaaGreatDoorSAH
namespace Go.Proofs.YtmmkboldkaehgaaGreatDoor.La

theorem val_esc : ∀ (m : Nat) (l : List UInt8), l.length = m → ∀ p t k, valR l p = .ok (t, k) → ∃ rest, l = escL true t ++ 34 :: rest ∧ k = p + (escL true t).length + 1 := by
  intro m
  induction m using Nat.strongRecOn with
  | ind m ih =>
    intro l hl p t k h
    cases l with
    | nil => rw [valR] at h; cases h
    | cons b r =>
      rw [valR.eq_def] at h
      simp only at h
      by_cases h34 : b.toNat = 34
      · rw [if_pos h34] at h
        cases h
        have hb : b = 34 := UInt8.toNat_inj.1 h34
        subst hb
        exact ⟨r, rfl, rfl⟩
      rw [if_neg h34] at h
      by_cases h10 : b.toNat = 10
      · rw [if_pos h10] at h; cases h
      rw [if_neg h10] at h
      by_cases h92 : b.toNat = 92
      · rw [if_pos h92] at h
        have hb : b = 92 := UInt8.toNat_inj.1 h92
        subst hb
        cases r with
        | nil => simp only at h; cases h
        | cons c r' =>
          simp only at h
          by_cases c1 : c.toNat = 92 ∨ c.toNat = 34
          · rw [if_pos c1] at h
            cases hv : valR r' (p + 2) with
            | error e => rw [hv] at h; cases h
            | ok q =>
              obtain ⟨s, j⟩ := q
              rw [hv] at h
              cases h
              obtain ⟨rest, e1, e2⟩ := ih r'.length (by simp at hl; omega) r' rfl (p + 2) s j hv
              refine ⟨rest, ?_, ?_⟩
              · rw [escL]
                unfold esc1
                rw [if_pos (by simpa using c1)]
                show 92 :: c :: r' = 92 :: c :: (escL true s ++ 34 :: rest)
                rw [← e1]
              · rw [escL]
                unfold esc1
                rw [if_pos (by simpa using c1)]
                simp only [List.length_append, List.length_cons, List.length_nil]
                show j = _
                omega
          · rw [if_neg c1] at h
            by_cases c2 : c.toNat = 110
            · rw [if_pos c2] at h
              have hc : c = 110 := UInt8.toNat_inj.1 c2
              subst hc
              cases hv : valR r' (p + 2) with
              | error e => rw [hv] at h; cases h
              | ok q =>
                obtain ⟨s, j⟩ := q
                rw [hv] at h
                cases h
                obtain ⟨rest, e1, e2⟩ := ih r'.length (by simp at hl; omega) r' rfl (p + 2) s j hv
                refine ⟨rest, ?_, ?_⟩
                · rw [escL]
                  show 92 :: 110 :: r' = 92 :: 110 :: (escL true s ++ 34 :: rest)
                  rw [← e1]
                · rw [escL]
                  show j = p + ([92, 110] ++ escL true s).length + 1
                  simp only [List.length_append, List.length_cons, List.length_nil]
                  omega
            · rw [if_neg c2] at h; cases h
      · rw [if_neg h92] at h
        cases hv : valR r (p + 1) with
        | error e => rw [hv] at h; cases h
        | ok q =>
          obtain ⟨s, j⟩ := q
          rw [hv] at h
          cases h
          obtain ⟨rest, e1, e2⟩ := ih r.length (by simp at hl; omega) r rfl (p + 1) s j hv
          have he : esc1 true b = [b] := by
            unfold esc1
            rw [if_neg (by simp [h92, h34]), if_neg h10]
          refine ⟨rest, ?_, ?_⟩
          · rw [escL, he]
            show b :: r = b :: (escL true s ++ 34 :: rest)
            rw [← e1]
          · rw [escL, he]
            simp only [List.length_append, List.length_cons, List.length_nil]
            show j = _
            omega
end Go.Proofs.YtmmkboldkaehgaaGreatDoor.La
/- SERIES THERE AND BACK. Own work of the verifier. -/
namespace Go.Proofs.YtmmkboldkaehgaaGreatDoor.La

theorem drop_more (l X Y : List UInt8) (p : Nat) (h : l.drop p = X ++ Y) : l.drop (p + X.length) = Y := by
  rw [← List.drop_drop, h]
  simp
theorem ple_iff (L : List Lb) (n : List UInt8) : plE L n = 0 ↔ ¬ (L.length ≠ 0 ∧ bhE (L.getD (L.length - 1) ([], [])).1 n ≠ 0) := by
  unfold plE
  by_cases h0 : L.length = 0
  · simp [h0]
  · simp [h0]
theorem head_drop (l : List UInt8) (k : Nat) (c : UInt8) (h : (l.getD k 0).toNat = c.toNat) (hc : c.toNat ≠ 0) : l.drop k = c :: l.drop (k + 1) ∧ k < l.length := by
  have hk : k < l.length := by
    rcases Nat.lt_or_ge k l.length with g | g
    · exact g
    · rw [List.getD_eq_getElem?_getD, List.getElem?_eq_none g] at h
      exact absurd h.symm hc
  rw [get_at l k hk] at h
  rw [List.drop_eq_getElem_cons hk, UInt8.toNat_inj.1 h]
  exact ⟨rfl, hk⟩
/-- What is read as a label is its text. -/
theorem one_read {l : List UInt8} {p : Nat} {L : List Lb} {a c : List UInt8} {k : Nat} (_hp : p ≤ l.length) (h : oneR l p L = .ok ((a, c), k)) : l.drop p = lbT (a, c) ++ l.drop k ∧ lnameB a = true ∧ txE c = 0 ∧ plE L a = 0 ∧ L.length ≠ 16 ∧ k ≤ l.length := by
  unfold oneR at h
  split at h
  · cases h
  rename_i g1
  split at h
  · cases h
  rename_i g2
  split at h
  · cases h
  rename_i g3
  split at h
  · cases h
  rename_i g4
  split at h
  · cases h
  rename_i g5
  obtain ⟨n, hn⟩ : ∃ n, n = rowN false (l.drop p) := ⟨_, rfl⟩
  rw [← hn] at h g4 g5
  have e4 : (l.getD (p + n) 0).toNat = (61 : UInt8).toNat := by
    rcases Nat.decEq (l.getD (p + n) 0).toNat 61 with k | k
    · exact absurd k g4
    · exact k
  have e5 : (l.getD (p + n + 1) 0).toNat = (34 : UInt8).toNat := by
    rcases Nat.decEq (l.getD (p + n + 1) 0).toNat 34 with k | k
    · exact absurd k g5
    · exact k
  obtain ⟨d1, _⟩ := head_drop l (p + n) 61 e4 (by decide)
  obtain ⟨d2, hlt⟩ := head_drop l (p + n + 1) 34 e5 (by decide)
  split at h
  · cases h
  · rename_i q hq
    split at h
    · cases h
    · rename_i ht
      obtain ⟨t, j⟩ := q
      cases h
      have hsplit : l.drop p = nmAt l p ++ l.drop (p + n) := by
        unfold nmAt
        rw [← hn, ← List.drop_drop, List.take_append_drop]
      obtain ⟨rest, r1, r2⟩ := val_esc _ _ rfl _ _ _ hq
      have hk : l.drop j = rest := by
        have := drop_more l (escL true t ++ [34]) rest (p + n + 1 + 1) (by rw [show p + n + 1 + 1 = p + n + 2 from rfl, r1]; simp)
        rw [List.length_append] at this
        rw [← this]
        rw [r2]
        simp [Nat.add_assoc]
      have hfar := val_far l _ _ _ (by omega) hq
      refine ⟨?_, by simpa using g2, by simpa using ht, (ple_iff L _).2 g3, g1, hfar.2.1⟩
      rw [hsplit, d1, d2, show p + n + 1 + 1 = p + n + 2 from rfl, r1, hk]
      unfold lbT
      simp
/-- The text of labels behind the brace. -/
def prJ : List Lb → List UInt8
  | [] => []
  | a :: r => lbT a ++ prB false r
theorem prB_false (M : List Lb) (h : M ≠ []) : prB false M = 44 :: prJ M := by
  cases M with
  | nil => exact absurd rfl h
  | cons a r => rfl
/-- The name behind which a label comes. -/
def lastN (L : List Lb) : Option (List UInt8) := if L.length = 0 then none else some (L.getD (L.length - 1) ([], [])).1
theorem lastN_app (L : List Lb) (a : Lb) : lastN (L ++ [a]) = some a.1 := by
  unfold lastN
  rw [List.length_append, if_neg (by simp)]
  simp [List.getD_eq_getElem?_getD]
theorem chk_cons (L : List Lb) (a : Lb) (r : List Lb) : chkL (a :: r) (lastN L) = 0 ↔ lnameB a.1 = true ∧ txE a.2 = 0 ∧ plE L a.1 = 0 ∧ chkL r (some a.1) = 0 := by
  rw [chkL.eq_def]
  simp only
  unfold plE lastN
  by_cases h1 : lnameB a.1 = true
  · rw [if_neg (by rw [h1]; decide)]
    by_cases h2 : txE a.2 = 0
    · rw [if_neg (fun k => k h2)]
      by_cases h0 : L.length = 0
      · simp [h0, h1, h2]
      · simp only [h0, if_false]
        by_cases h3 : bhE (L.getD (L.length - 1) ([], [])).1 a.1 = 0
        · rw [if_neg (fun k => k h3)]
          simp only [h1, h2, h3, true_and]
        · rw [if_pos h3]
          exact ⟨fun k => absurd k h3, fun k => absurd k.2.2.1 h3⟩
    · rw [if_pos h2]
      simp [h2]
  · rw [if_pos (by simpa using h1)]
    simp [h1]
/-- What is read as labels is their text. -/
theorem labs_read : ∀ (f : Nat) (l : List UInt8) (p : Nat) (L L' : List Lb) (k : Nat), p ≤ l.length → L.length ≤ 16 → labsF f l p L = .ok (L', k) → ∃ M, L' = L ++ M ∧ M ≠ [] ∧ l.drop p = prJ M ++ 125 :: l.drop k ∧ chkL M (lastN L) = 0 ∧ L.length + M.length ≤ 16 ∧ k ≤ l.length
  | 0, _, _, _, _, _, _, _, h => by rw [labsF] at h; cases h
  | f + 1, l, p, L, L', k, hp, hL, h => by
    rw [labsF] at h
    cases ho : oneR l p L with
    | error e => rw [ho] at h; cases h
    | ok q =>
      obtain ⟨⟨a, c⟩, j⟩ := q
      rw [ho] at h
      simp only at h
      obtain ⟨o1, o2, o3, o4, o5, o6⟩ := one_read hp ho
      by_cases g1 : preB (l.drop j) [125] = true
      · rw [if_pos g1] at h
        cases h
        rw [pre_get l j 125 (by decide), decide_eq_true_eq] at g1
        obtain ⟨d1, hlt⟩ := head_drop l j 125 g1 (by decide)
        refine ⟨[(a, c)], rfl, by simp, ?_, (chk_cons L (a, c) []).2 ⟨o2, o3, o4, by rw [chkL]⟩, by simp; omega, by omega⟩
        rw [o1, d1]
        simp [prJ, prB]
      · rw [if_neg g1] at h
        by_cases g2 : preB (l.drop j) [44] = true
        · rw [if_pos g2] at h
          rw [pre_get l j 44 (by decide), decide_eq_true_eq] at g2
          obtain ⟨d1, hlt⟩ := head_drop l j 44 g2 (by decide)
          obtain ⟨M, m1, m2, m3, m4, m5, m6⟩ := labs_read f l (j + 1) (L ++ [(a, c)]) L' k (by omega) (by rw [List.length_append]; simp; omega) h
          refine ⟨(a, c) :: M, by rw [m1]; simp, by simp, ?_, (chk_cons L (a, c) M).2 ⟨o2, o3, o4, by rw [lastN_app] at m4; exact m4⟩, by rw [List.length_append] at m5; simp at m5 ⊢; omega, m6⟩
          rw [o1, d1, m3, prJ, prB_false M m2]
          simp
        · rw [if_neg g2] at h; cases h
theorem one_far {l : List UInt8} {p : Nat} {L : List Lb} {z : Int} {k : Nat} (hp : p ≤ l.length) (h : oneR l p L = .error (z, k)) : k ≤ l.length := by
  have hrl := rowN_le false (l.drop p)
  rw [List.length_drop] at hrl
  unfold oneR at h
  obtain ⟨n, hn⟩ : ∃ n, n = rowN false (l.drop p) := ⟨_, rfl⟩
  rw [← hn] at h hrl
  split at h
  · cases h; omega
  split at h
  · cases h; omega
  split at h
  · cases h; omega
  split at h
  · cases h; omega
  rename_i g4
  have e4 : (l.getD (p + n) 0).toNat = (61 : UInt8).toNat := by
    rcases Nat.decEq (l.getD (p + n) 0).toNat 61 with k | k
    · exact absurd k g4
    · exact k
  obtain ⟨_, l4⟩ := head_drop l (p + n) 61 e4 (by decide)
  split at h
  · cases h; omega
  rename_i g5
  have e5 : (l.getD (p + n + 1) 0).toNat = (34 : UInt8).toNat := by
    rcases Nat.decEq (l.getD (p + n + 1) 0).toNat 34 with k | k
    · exact absurd k g5
    · exact k
  obtain ⟨_, l5⟩ := head_drop l (p + n + 1) 34 e5 (by decide)
  split at h
  · rename_i e he
    cases h
    rw [val_un l _ (p + n + 2) rfl (by omega)] at he
    have hdl : (l.drop (p + n + 2)).length = l.length - (p + n + 2) := List.length_drop
    rcases ue_all true _ (l.drop (p + n + 2)) rfl (p + n + 2) with ⟨j, a1, a2, a3⟩ | ⟨t, j, a1, a2, _, a3⟩
    · have := a3 0
      rw [Nat.add_zero] at this
      rw [this] at he
      cases he
      omega
    · have := a3 0
      rw [Nat.add_zero] at this
      rw [this] at he
      simp only [Nat.add_zero] at he
      split at he
      · cases he
      · cases he
        omega
  · split at h
    · cases h; omega
    · cases h
theorem labs_far : ∀ (f : Nat) (l : List UInt8) (p : Nat) (L : List Lb) (z : Int) (k : Nat), p ≤ l.length → labsF f l p L = .error (z, k) → k ≤ l.length
  | 0, _, _, _, _, _, _, h => by rw [labsF] at h; cases h; omega
  | f + 1, l, p, L, z, k, hp, h => by
    rw [labsF] at h
    cases ho : oneR l p L with
    | error e =>
      obtain ⟨z', k'⟩ := e
      rw [ho] at h
      cases h
      exact one_far hp ho
    | ok q =>
      obtain ⟨⟨a, c⟩, j⟩ := q
      rw [ho] at h
      simp only at h
      have hj := (one_read hp ho).2.2.2.2.2
      split at h
      · cases h
      split at h
      · rename_i g2
        rw [pre_get l j 44 (by decide), decide_eq_true_eq] at g2
        obtain ⟨_, hlt⟩ := head_drop l j 44 g2 (by decide)
        exact labs_far f l (j + 1) (L ++ [(a, c)]) z k (by omega) h
      · cases h
        exact hj
theorem par_far (l : List UInt8) (z : Int) (k : Nat) (h : parR l = .error (z, k)) : k ≤ l.length := by
  unfold parR at h
  have hrl := rowN_le true l
  split at h
  · cases h; omega
  split at h
  · cases h
  split at h
  · cases h; exact hrl
  rename_i g3
  have g3' : preB (l.drop (rowN true l)) [123] = true := by simpa using g3
  rw [pre_get l _ 123 (by decide), decide_eq_true_eq] at g3'
  obtain ⟨_, hlt⟩ := head_drop l _ 123 g3' (by decide)
  split at h
  · rename_i e he
    obtain ⟨z', k'⟩ := e
    cases h
    exact labs_far 17 l _ [] z k (by omega) he
  · rename_i L0 k0 hl0
    obtain ⟨M, _, _, _, _, _, m6⟩ := labs_read 17 l _ [] L0 k0 (by omega) (by simp) hl0
    split at h
    · cases h
    · cases h; exact m6
end Go.Proofs.YtmmkboldkaehgaaGreatDoor.La
