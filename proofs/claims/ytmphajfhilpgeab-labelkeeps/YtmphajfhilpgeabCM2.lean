/- SERIES THERE AND BACK. Own work of the verifier. -/
import Derived.Test.YtmphajfhilpgeabCM1
namespace Go.Proofs.Ytmphajfhilpgeab

theorem rowN_app (c : Bool) (a : List UInt8) (b : UInt8) (X : List UInt8) (h : rowN c a = a.length) (hb : gd c b.toNat = false) : rowN c (a ++ b :: X) = a.length := by
  induction a with
  | nil => rw [List.nil_append, rowN, hb]; rfl
  | cons x r ih =>
    rw [rowN] at h
    by_cases hx : gd c x.toNat = true
    · rw [if_pos hx, List.length_cons] at h
      rw [List.cons_append, rowN, if_pos hx, ih (by omega), List.length_cons]
    · rw [if_neg hx, List.length_cons] at h
      omega
theorem getD_drop (l : List UInt8) (p n : Nat) : l.getD (p + n) 0 = (l.drop p).getD n 0 := by
  rw [List.getD_eq_getElem?_getD, List.getD_eq_getElem?_getD, List.getElem?_drop]
theorem plain_row {c : Bool} {a : List UInt8} (h : plainB c a = true) : rowN c a = a.length ∧ a.length ≤ 64 := by
  unfold plainB at h
  simp only [Bool.and_eq_true, decide_eq_true_eq] at h
  exact ⟨h.1.2, h.1.1.2⟩
theorem lname_plain {a : List UInt8} (h : lnameB a = true) : plainB false a = true := by
  unfold lnameB at h
  simp only [Bool.and_eq_true] at h
  exact h.1.1.1
theorem name_plain {a : List UInt8} (h : nameB a = true) : plainB true a = true := by
  unfold nameB at h
  simp only [Bool.and_eq_true] at h
  exact h.1.1.1
theorem drop_more (l X Y : List UInt8) (p : Nat) (h : l.drop p = X ++ Y) : l.drop (p + X.length) = Y := by
  rw [← List.drop_drop, h]
  simp
theorem ple_iff (L : List Lb) (n : List UInt8) : plE L n = 0 ↔ ¬ (L.length ≠ 0 ∧ bhE (L.getD (L.length - 1) ([], [])).1 n ≠ 0) := by
  unfold plE
  by_cases h0 : L.length = 0
  · simp [h0]
  · simp [h0]
/-- A label's text is read as the label. -/
theorem one_print (l : List UInt8) (p : Nat) (L : List Lb) (a : Lb) (rest : List UInt8) (h : l.drop p = lbT a ++ rest) (h1 : lnameB a.1 = true) (h2 : txE a.2 = 0) (h3 : plE L a.1 = 0) (h4 : L.length ≠ 16) : oneR l p L = .ok (a, p + (lbT a).length) := by
  have hl : lbT a ++ rest = a.1 ++ (61 :: 34 :: (escL true a.2 ++ 34 :: rest)) := by unfold lbT; simp
  rw [hl] at h
  have hr : rowN false (l.drop p) = a.1.length := by rw [h]; exact rowN_app false a.1 61 _ (plain_row (lname_plain h1)).1 (by decide +kernel)
  have hn : nmAt l p = a.1 := by unfold nmAt; rw [hr, h]; simp
  have hd := drop_more l a.1 _ p h
  have e1 : l.getD (p + a.1.length) 0 = 61 := by
    have := getD_drop l (p + a.1.length) 0
    rw [Nat.add_zero, hd] at this
    exact this
  have e2 : l.getD (p + a.1.length + 1) 0 = 34 := by
    have := getD_drop l (p + a.1.length) 1
    rw [hd] at this
    exact this
  have e3 : l.drop (p + a.1.length + 2) = escL true a.2 ++ 34 :: rest := by
    rw [← List.drop_drop, hd]
    rfl
  unfold oneR
  rw [hr, hn, if_neg h4, if_neg (by rw [h1]; decide), if_neg ((ple_iff L a.1).1 h3), e1, if_neg (by decide), e2, if_neg (by decide), e3, esc_val]
  simp only
  rw [if_neg (fun k => k h2)]
  have hlen : (lbT a).length = a.1.length + 2 + (escL true a.2).length + 1 := by unfold lbT; simp; omega
  rw [hlen]
  congr 2
  omega
theorem head_drop (l : List UInt8) (k : Nat) (c : UInt8) (h : (l.getD k 0).toNat = c.toNat) (hc : c.toNat ≠ 0) : l.drop k = c :: l.drop (k + 1) ∧ k < l.length := by
  have hk : k < l.length := by
    rcases Nat.lt_or_ge k l.length with g | g
    · exact g
    · rw [List.getD_eq_getElem?_getD, List.getElem?_eq_none g] at h
      exact absurd h.symm hc
  rw [get_at l k hk] at h
  rw [List.drop_eq_getElem_cons hk, UInt8.toNat_inj.1 h]
  exact ⟨rfl, hk⟩
/-- What is read as a label is its text. -/
theorem one_read {l : List UInt8} {p : Nat} {L : List Lb} {a c : List UInt8} {k : Nat} (_hp : p ≤ l.length) (h : oneR l p L = .ok ((a, c), k)) : l.drop p = lbT (a, c) ++ l.drop k ∧ lnameB a = true ∧ txE c = 0 ∧ plE L a = 0 ∧ L.length ≠ 16 ∧ k ≤ l.length := by
  unfold oneR at h
  split at h
  · cases h
  rename_i g1
  split at h
  · cases h
  rename_i g2
  split at h
  · cases h
  rename_i g3
  split at h
  · cases h
  rename_i g4
  split at h
  · cases h
  rename_i g5
  obtain ⟨n, hn⟩ : ∃ n, n = rowN false (l.drop p) := ⟨_, rfl⟩
  rw [← hn] at h g4 g5
  have e4 : (l.getD (p + n) 0).toNat = (61 : UInt8).toNat := by
    rcases Nat.decEq (l.getD (p + n) 0).toNat 61 with k | k
    · exact absurd k g4
    · exact k
  have e5 : (l.getD (p + n + 1) 0).toNat = (34 : UInt8).toNat := by
    rcases Nat.decEq (l.getD (p + n + 1) 0).toNat 34 with k | k
    · exact absurd k g5
    · exact k
  obtain ⟨d1, _⟩ := head_drop l (p + n) 61 e4 (by decide)
  obtain ⟨d2, hlt⟩ := head_drop l (p + n + 1) 34 e5 (by decide)
  split at h
  · cases h
  · rename_i q hq
    split at h
    · cases h
    · rename_i ht
      obtain ⟨t, j⟩ := q
      cases h
      have hsplit : l.drop p = nmAt l p ++ l.drop (p + n) := by
        unfold nmAt
        rw [← hn, ← List.drop_drop, List.take_append_drop]
      obtain ⟨rest, r1, r2⟩ := val_esc _ _ rfl _ _ _ hq
      have hk : l.drop j = rest := by
        have := drop_more l (escL true t ++ [34]) rest (p + n + 1 + 1) (by rw [show p + n + 1 + 1 = p + n + 2 from rfl, r1]; simp)
        rw [List.length_append] at this
        rw [← this]
        rw [r2]
        simp [Nat.add_assoc]
      have hfar := val_far l _ _ _ (by omega) hq
      refine ⟨?_, by simpa using g2, by simpa using ht, (ple_iff L _).2 g3, g1, hfar.2.1⟩
      rw [hsplit, d1, d2, show p + n + 1 + 1 = p + n + 2 from rfl, r1, hk]
      unfold lbT
      simp
/-- The text of labels behind the brace. -/
def prJ : List Lb → List UInt8
  | [] => []
  | a :: r => lbT a ++ prB false r
theorem prB_true (M : List Lb) (h : M ≠ []) : prB true M = 123 :: prJ M := by
  cases M with
  | nil => exact absurd rfl h
  | cons a r => rfl
theorem prB_false (M : List Lb) (h : M ≠ []) : prB false M = 44 :: prJ M := by
  cases M with
  | nil => exact absurd rfl h
  | cons a r => rfl
/-- The name behind which a label comes. -/
def lastN (L : List Lb) : Option (List UInt8) := if L.length = 0 then none else some (L.getD (L.length - 1) ([], [])).1
theorem lastN_app (L : List Lb) (a : Lb) : lastN (L ++ [a]) = some a.1 := by
  unfold lastN
  rw [List.length_append, if_neg (by simp)]
  simp [List.getD_eq_getElem?_getD]
theorem chk_cons (L : List Lb) (a : Lb) (r : List Lb) : chkL (a :: r) (lastN L) = 0 ↔ lnameB a.1 = true ∧ txE a.2 = 0 ∧ plE L a.1 = 0 ∧ chkL r (some a.1) = 0 := by
  rw [chkL.eq_def]
  simp only
  unfold plE lastN
  by_cases h1 : lnameB a.1 = true
  · rw [if_neg (by rw [h1]; decide)]
    by_cases h2 : txE a.2 = 0
    · rw [if_neg (fun k => k h2)]
      by_cases h0 : L.length = 0
      · simp [h0, h1, h2]
      · simp only [h0, if_false]
        by_cases h3 : bhE (L.getD (L.length - 1) ([], [])).1 a.1 = 0
        · rw [if_neg (fun k => k h3)]
          simp only [h1, h2, h3, true_and]
        · rw [if_pos h3]
          exact ⟨fun k => absurd k h3, fun k => absurd k.2.2.1 h3⟩
    · rw [if_pos h2]
      simp [h2]
  · rw [if_pos (by simpa using h1)]
    simp [h1]
/-- Labels' text is read as the labels. -/
theorem labs_print : ∀ (M : List Lb) (f : Nat) (l : List UInt8) (p : Nat) (L : List Lb) (rest : List UInt8), M ≠ [] → chkL M (lastN L) = 0 → L.length + M.length ≤ 16 → M.length ≤ f → l.drop p = prJ M ++ 125 :: rest → labsF f l p L = .ok (L ++ M, p + (prJ M).length + 1)
  | [], _, _, _, _, _, h, _, _, _, _ => absurd rfl h
  | a :: r, 0, _, _, _, _, _, _, _, hf, _ => by simp at hf
  | a :: r, f + 1, l, p, L, rest, _, hc, hlen, hf, hd => by
    obtain ⟨h1, h2, h3, h4⟩ := (chk_cons L a r).1 hc
    rw [List.length_cons] at hlen hf
    have ho := one_print l p L a (prB false r ++ 125 :: rest) (by rw [hd]; simp [prJ]) h1 h2 h3 (by omega)
    have hk : l.drop (p + (lbT a).length) = prB false r ++ 125 :: rest := drop_more l (lbT a) _ p (by rw [hd]; simp [prJ])
    rw [labsF, ho]
    simp only
    cases r with
    | nil =>
      rw [prB, List.nil_append] at hk
      rw [hk, show preB (125 :: rest) [125] = true from by simp [preB]]
      simp [prJ, prB]
    | cons b r' =>
      rw [prB_false _ (by simp), List.cons_append] at hk
      rw [hk, show preB (44 :: (prJ (b :: r') ++ 125 :: rest)) [125] = false from by simp [preB], show preB (44 :: (prJ (b :: r') ++ 125 :: rest)) [44] = true from by simp [preB]]
      simp only [Bool.false_eq_true, if_false, if_true]
      have hk2 : l.drop (p + (lbT a).length + 1) = prJ (b :: r') ++ 125 :: rest := drop_more l [44] _ (p + (lbT a).length) (by rw [hk]; rfl)
      have ih := labs_print (b :: r') f l (p + (lbT a).length + 1) (L ++ [a]) rest (by simp) (by rw [lastN_app]; exact h4) (by rw [List.length_append]; simp at hlen ⊢; omega) (by omega) hk2
      have hj : (prJ (a :: b :: r')).length = (lbT a).length + 1 + (prJ (b :: r')).length := by
        show (lbT a ++ prB false (b :: r')).length = _
        rw [prB_false _ (by simp), List.length_append, List.length_cons]
        omega
      have e : p + (lbT a).length + 1 + (prJ (b :: r')).length + 1 = p + ((lbT a).length + 1 + (prJ (b :: r')).length) + 1 := by omega
      rw [ih, hj, List.append_assoc, e]
      rfl
/-- What is read as labels is their text. -/
theorem labs_read : ∀ (f : Nat) (l : List UInt8) (p : Nat) (L L' : List Lb) (k : Nat), p ≤ l.length → L.length ≤ 16 → labsF f l p L = .ok (L', k) → ∃ M, L' = L ++ M ∧ M ≠ [] ∧ l.drop p = prJ M ++ 125 :: l.drop k ∧ chkL M (lastN L) = 0 ∧ L.length + M.length ≤ 16 ∧ k ≤ l.length
  | 0, _, _, _, _, _, _, _, h => by rw [labsF] at h; cases h
  | f + 1, l, p, L, L', k, hp, hL, h => by
    rw [labsF] at h
    cases ho : oneR l p L with
    | error e => rw [ho] at h; cases h
    | ok q =>
      obtain ⟨⟨a, c⟩, j⟩ := q
      rw [ho] at h
      simp only at h
      obtain ⟨o1, o2, o3, o4, o5, o6⟩ := one_read hp ho
      by_cases g1 : preB (l.drop j) [125] = true
      · rw [if_pos g1] at h
        cases h
        rw [pre_get l j 125 (by decide), decide_eq_true_eq] at g1
        obtain ⟨d1, hlt⟩ := head_drop l j 125 g1 (by decide)
        refine ⟨[(a, c)], rfl, by simp, ?_, (chk_cons L (a, c) []).2 ⟨o2, o3, o4, by rw [chkL]⟩, by simp; omega, by omega⟩
        rw [o1, d1]
        simp [prJ, prB]
      · rw [if_neg g1] at h
        by_cases g2 : preB (l.drop j) [44] = true
        · rw [if_pos g2] at h
          rw [pre_get l j 44 (by decide), decide_eq_true_eq] at g2
          obtain ⟨d1, hlt⟩ := head_drop l j 44 g2 (by decide)
          obtain ⟨M, m1, m2, m3, m4, m5, m6⟩ := labs_read f l (j + 1) (L ++ [(a, c)]) L' k (by omega) (by rw [List.length_append]; simp; omega) h
          refine ⟨(a, c) :: M, by rw [m1]; simp, by simp, ?_, (chk_cons L (a, c) M).2 ⟨o2, o3, o4, by rw [lastN_app] at m4; exact m4⟩, by rw [List.length_append] at m5; simp at m5 ⊢; omega, m6⟩
          rw [o1, d1, m3, prJ, prB_false M m2]
          simp
        · rw [if_neg g2] at h; cases h
/-- A series' text is read as the series. -/
theorem par_print (n : List UInt8) (L : List Lb) (h1 : nameB n = true) (h2 : L.length ≤ 16) (h3 : chkL L none = 0) : parR (printT n L) = .ok (n, L) := by
  have hr0 := (plain_row (name_plain h1)).1
  by_cases h0 : L = []
  · subst h0
    have : printT n [] = n := by unfold printT; simp [prB]
    rw [this]
    unfold parR
    rw [hr0, List.take_length, if_neg (by rw [h1]; decide), if_pos rfl]
  · have hp : printT n L = n ++ 123 :: (prJ L ++ [125]) := by
      unfold printT
      rw [prB_true L h0, if_neg (by simpa using h0)]
      simp
    have hr : rowN true (printT n L) = n.length := by rw [hp]; exact rowN_app true n 123 _ hr0 (by decide +kernel)
    have hd : (printT n L).drop n.length = 123 :: (prJ L ++ [125]) := by rw [hp]; simp
    have hd1 : (printT n L).drop (n.length + 1) = prJ L ++ 125 :: [] := drop_more _ [123] _ n.length (by rw [hd]; rfl)
    have hlen : (printT n L).length = n.length + 1 + (prJ L).length + 1 := by rw [hp]; simp; omega
    unfold parR
    rw [hr, show (printT n L).take n.length = n from by rw [hp]; simp, if_neg (by rw [h1]; decide), if_neg (by omega), hd, if_neg (by simp [preB]), labs_print L 17 _ _ [] [] h0 (by unfold lastN; simpa using h3) (by simpa using h2) (by omega) hd1]
    simp only [List.nil_append]
    rw [if_pos (by omega)]
/-- What is read as a series is its text. -/
theorem par_read (l n : List UInt8) (L : List Lb) (h : parR l = .ok (n, L)) : printT n L = l ∧ nameB n = true ∧ L.length ≤ 16 ∧ chkL L none = 0 := by
  unfold parR at h
  have hrl := rowN_le true l
  obtain ⟨r, hr⟩ : ∃ r, r = rowN true l := ⟨_, rfl⟩
  rw [← hr] at h hrl
  split at h
  · cases h
  rename_i g1
  split at h
  · rename_i g2
    cases h
    have ht : l.take r = l := by rw [g2, List.take_length]
    refine ⟨?_, by simpa using g1, by simp, by rw [chkL]⟩
    unfold printT
    simp [prB, ht]
  rename_i g2
  split at h
  · cases h
  rename_i g3
  have g3' : preB (l.drop r) [123] = true := by simpa using g3
  rw [pre_get l r 123 (by decide), decide_eq_true_eq] at g3'
  obtain ⟨d1, hlt⟩ := head_drop l r 123 g3' (by decide)
  split at h
  · cases h
  · rename_i L0 k0 hl0
    split at h
    · rename_i hk
      cases h
      obtain ⟨M, m1, m2, m3, m4, m5, m6⟩ := labs_read 17 l (r + 1) [] L k0 (by omega) (by simp) hl0
      rw [List.nil_append] at m1
      subst m1
      refine ⟨?_, by simpa using g1, by simpa using m5, m4⟩
      unfold printT
      rw [prB_true L m2, if_neg (by simpa using m2)]
      have hdk : l.drop k0 = [] := List.drop_eq_nil_of_le (by omega)
      rw [hdk] at m3
      have : l = l.take r ++ (123 :: (prJ L ++ [125])) := by
        rw [← m3, ← d1, List.take_append_drop]
      conv => rhs; rw [this]
      simp
    · cases h
theorem one_far {l : List UInt8} {p : Nat} {L : List Lb} {z : Int} {k : Nat} (hp : p ≤ l.length) (h : oneR l p L = .error (z, k)) : k ≤ l.length := by
  have hrl := rowN_le false (l.drop p)
  rw [List.length_drop] at hrl
  unfold oneR at h
  obtain ⟨n, hn⟩ : ∃ n, n = rowN false (l.drop p) := ⟨_, rfl⟩
  rw [← hn] at h hrl
  split at h
  · cases h; omega
  split at h
  · cases h; omega
  split at h
  · cases h; omega
  split at h
  · cases h; omega
  rename_i g4
  have e4 : (l.getD (p + n) 0).toNat = (61 : UInt8).toNat := by
    rcases Nat.decEq (l.getD (p + n) 0).toNat 61 with k | k
    · exact absurd k g4
    · exact k
  obtain ⟨_, l4⟩ := head_drop l (p + n) 61 e4 (by decide)
  split at h
  · cases h; omega
  rename_i g5
  have e5 : (l.getD (p + n + 1) 0).toNat = (34 : UInt8).toNat := by
    rcases Nat.decEq (l.getD (p + n + 1) 0).toNat 34 with k | k
    · exact absurd k g5
    · exact k
  obtain ⟨_, l5⟩ := head_drop l (p + n + 1) 34 e5 (by decide)
  split at h
  · rename_i e he
    cases h
    rw [val_un l _ (p + n + 2) rfl (by omega)] at he
    have hdl : (l.drop (p + n + 2)).length = l.length - (p + n + 2) := List.length_drop
    rcases ue_all true _ (l.drop (p + n + 2)) rfl (p + n + 2) with ⟨j, a1, a2, a3⟩ | ⟨t, j, a1, a2, _, a3⟩
    · have := a3 0
      rw [Nat.add_zero] at this
      rw [this] at he
      cases he
      omega
    · have := a3 0
      rw [Nat.add_zero] at this
      rw [this] at he
      simp only [Nat.add_zero] at he
      split at he
      · cases he
      · cases he
        omega
  · split at h
    · cases h; omega
    · cases h
theorem labs_far : ∀ (f : Nat) (l : List UInt8) (p : Nat) (L : List Lb) (z : Int) (k : Nat), p ≤ l.length → labsF f l p L = .error (z, k) → k ≤ l.length
  | 0, _, _, _, _, _, _, h => by rw [labsF] at h; cases h; omega
  | f + 1, l, p, L, z, k, hp, h => by
    rw [labsF] at h
    cases ho : oneR l p L with
    | error e =>
      obtain ⟨z', k'⟩ := e
      rw [ho] at h
      cases h
      exact one_far hp ho
    | ok q =>
      obtain ⟨⟨a, c⟩, j⟩ := q
      rw [ho] at h
      simp only at h
      have hj := (one_read hp ho).2.2.2.2.2
      split at h
      · cases h
      split at h
      · rename_i g2
        rw [pre_get l j 44 (by decide), decide_eq_true_eq] at g2
        obtain ⟨_, hlt⟩ := head_drop l j 44 g2 (by decide)
        exact labs_far f l (j + 1) (L ++ [(a, c)]) z k (by omega) h
      · cases h
        exact hj
theorem par_far (l : List UInt8) (z : Int) (k : Nat) (h : parR l = .error (z, k)) : k ≤ l.length := by
  unfold parR at h
  have hrl := rowN_le true l
  split at h
  · cases h; omega
  split at h
  · cases h
  split at h
  · cases h; exact hrl
  rename_i g3
  have g3' : preB (l.drop (rowN true l)) [123] = true := by simpa using g3
  rw [pre_get l _ 123 (by decide), decide_eq_true_eq] at g3'
  obtain ⟨_, hlt⟩ := head_drop l _ 123 g3' (by decide)
  split at h
  · rename_i e he
    obtain ⟨z', k'⟩ := e
    cases h
    exact labs_far 17 l _ [] z k (by omega) he
  · rename_i L0 k0 hl0
    obtain ⟨M, _, _, _, _, _, m6⟩ := labs_read 17 l _ [] L0 k0 (by omega) (by simp) hl0
    split at h
    · cases h
    · cases h; exact m6
end Go.Proofs.Ytmphajfhilpgeab
