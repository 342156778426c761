/- HOW MANY LINES A TEXT HAS. Own work of the verifier. -/
import Derived.Test.YtkakanejiakbkaaGreatDoorVBM
namespace Go.Proofs.YtkakanejiakbkaaGreatDoor
open Go.RowKit Me

/-- A line: something without a line feed, and one. -/
def Lno (l : List UInt8) : Prop := ∃ t, l = t ++ [10] ∧ t ≠ [] ∧ ∀ b ∈ t, b ≠ 10
end Go.Proofs.YtkakanejiakbkaaGreatDoor
/- THE LINES OF A SNAPSHOT THAT MAY BE: none is empty, how many there are. Own work of the verifier. -/
namespace Go.Proofs.YtkakanejiakbkaaGreatDoor
open Go.RowKit Me

/-- No line feed. -/
def Nf (l : List UInt8) : Prop := ∀ b ∈ l, b ≠ 10
theorem Nf.app {a b : List UInt8} (h : Nf a) (k : Nf b) : Nf (a ++ b) := fun c hc => (List.mem_append.1 hc).elim (h c) (k c)
theorem Nf.cons {a : UInt8} {b : List UInt8} (h : a ≠ 10) (k : Nf b) : Nf (a :: b) := fun c hc => (List.mem_cons.1 hc).elim (fun e => by rw [e]; exact h) (k c)
theorem Nf.nil : Nf [] := fun _ h => by cases h
theorem Hi.nf {l : List UInt8} (h : Hi l) : Nf l := fun b hb e => by
  have := h b hb
  rw [e] at this
  exact absurd this (by decide)
theorem nf_lit (l : List UInt8) (h : l.all (fun b => b != 10) = true) : Nf l := fun b hb => by
  have := List.all_eq_true.1 h b hb
  simpa using this
theorem gd_ne {c : Bool} {n : Nat} (h : La.gd c n = true) : n ≠ 10 := by
  intro e
  rw [e] at h
  cases c <;> exact absurd h (by decide)
theorem nf_plain {c : Bool} {l : List UInt8} (h : La.plainB c l = true) : Nf l := fun b hb e => gd_ne (row_gd c l (plain_z h).2.2 b hb) (by rw [e]; rfl)
theorem nf_esc (q : Bool) : ∀ l : List UInt8, Nf (La.escL q l)
  | [] => Nf.nil
  | b :: r => by
    rw [La.escL]
    refine Nf.app ?_ (nf_esc q r)
    unfold La.esc1
    split
    · rename_i h
      refine Nf.cons (by decide) (Nf.cons (fun e => ?_) Nf.nil)
      subst e
      rcases h with h | ⟨_, h⟩ <;> exact absurd h (by decide)
    · split
      · exact nf_lit _ (by decide)
      · rename_i h
        exact Nf.cons (fun e => h (by rw [e]; rfl)) Nf.nil
theorem nf_lb {a : La.Lb} (h : Nf a.1) : Nf (La.lbT a) := by
  unfold La.lbT
  exact ((h.app (nf_lit _ (by decide))).app (nf_esc _ _)).app (nf_lit _ (by decide))
theorem nf_pr : ∀ (L : List La.Lb) (f : Bool), (∀ a ∈ L, Nf a.1) → Nf (La.prB f L)
  | [], _, _ => by rw [La.prB]; exact Nf.nil
  | a :: r, f, h => by
    rw [La.prB]
    refine Nf.cons (by cases f <;> decide) ((nf_lb (h a List.mem_cons_self)).app (nf_pr r false (fun x hx => h x (List.mem_cons_of_mem _ hx))))
theorem nf_print {n : List UInt8} {L : List La.Lb} (h : Nf n) (k : ∀ a ∈ L, Nf a.1) : Nf (La.printT n L) := by
  unfold La.printT
  refine (h.app (nf_pr L true k)).app ?_
  split
  · exact Nf.nil
  · exact nf_lit _ (by decide)
theorem lno_ln {S : List (List UInt8)} (h : Nf S.flatten) (k : S.flatten ≠ []) : Lno (lnT S) := ⟨S.flatten, rfl, k, h⟩
theorem lno_se {d : La.Ds} (hd : DOk d) (en : List UInt8) (M : List La.Lb) (nu : List UInt8) (he : Nf en) (hM : ∀ a ∈ M, Nf a.1) (hn : Nf nu) : Lno (seT d en M nu) := by
  refine lno_ln ?_ ?_
  · simp only [List.flatten_cons, List.flatten_nil, List.append_nil]
    refine (nf_print ((nf_plain hd.n).app he) (fun a ha => ?_)).app ((nf_lit _ (by decide)).app hn)
    rcases List.mem_append.1 ha with q | q
    · exact nf_plain (hd.v a q).1
    · exact hM a q
  · simp
theorem nf_one {n v : List UInt8} (h : Nf n) : ∀ a ∈ ([(n, v)] : List La.Lb), Nf a.1 := fun a ha => by rw [List.mem_singleton.1 ha]; exact h
theorem nf_none : ∀ a ∈ ([] : List La.Lb), Nf a.1 := fun a ha => by cases ha
theorem lno_bk {d : La.Ds} (hd : DOk d) (P : Nat) : ∀ (C : List Cn) (a : Nat), ∀ l ∈ bkL d P a C, Lno l
  | [], _, l, hl => by cases hl
  | c :: r, a, l, hl => by
    rw [bkL] at hl
    rcases List.mem_cons.1 hl with e | e
    · rw [e]; exact lno_se hd _ _ _ (nf_lit _ (by decide)) (nf_one (nf_lit _ (by decide))) (hi_dec _).nf
    · exact lno_bk hd P r _ l e
theorem lno_vl {P : Nat} {x : Vl} (hd : DOk x.d) : ∀ l ∈ vlL P x, Lno l := by
  intro l hl
  unfold vlL at hl
  split at hl
  · rw [ctL, List.mem_singleton] at hl
    rw [hl]; exact lno_se hd _ _ _ Nf.nil nf_none (hi_itoa _).nf
  · split at hl
    · rw [hgL] at hl
      rcases List.mem_append.1 hl with q | q
      · exact lno_bk hd P _ _ l q
      · simp only [List.mem_cons, List.mem_nil_iff, or_false] at q
        rcases q with e | e | e
        · rw [e]; exact lno_se hd _ _ _ (nf_lit _ (by decide)) (nf_one (nf_lit _ (by decide))) (hi_dec _).nf
        · rw [e]; exact lno_se hd _ _ _ (nf_lit _ (by decide)) nf_none (hi_itoa _).nf
        · rw [e]; exact lno_se hd _ _ _ (nf_lit _ (by decide)) nf_none (hi_dec _).nf
    · rw [smL] at hl
      rcases List.mem_append.1 hl with q | q
      · split at q
        · simp only [List.mem_cons, List.mem_nil_iff, or_false] at q
          rcases q with e | e
          · rw [e]; exact lno_se hd _ _ _ Nf.nil (nf_one (nf_lit _ (by decide))) (hi_text _).nf
          · rw [e]; exact lno_se hd _ _ _ Nf.nil (nf_one (nf_lit _ (by decide))) (hi_text _).nf
        · cases q
      · simp only [List.mem_cons, List.mem_nil_iff, or_false] at q
        rcases q with e | e
        · rw [e]; exact lno_se hd _ _ _ (nf_lit _ (by decide)) nf_none (hi_text _).nf
        · rw [e]; exact lno_se hd _ _ _ (nf_lit _ (by decide)) nf_none (hi_dec _).nf
theorem nf_kd (k : Int) : Nf (kdT k) := by unfold kdT; split <;> (try split) <;> exact nf_lit _ (by decide)
theorem lno_vs (P : Nat) : ∀ (L : List Vl) (q : Option (List UInt8)), (∀ x ∈ L, DOk x.d) → ∀ l ∈ vsL (vlL P) q L, Lno l
  | [], _, _, l, hl => by cases hl
  | x :: r, q, h, l, hl => by
    have hd := h x List.mem_cons_self
    rw [vsL] at hl
    rcases List.mem_append.1 hl with k | k
    · split at k
      · cases k
      · simp only [List.mem_cons, List.mem_nil_iff, or_false] at k
        rcases k with e | e
        · rw [e]
          refine lno_ln ?_ (by simp)
          simp only [List.flatten_cons, List.flatten_nil, List.append_nil]
          exact (nf_lit _ (by decide)).app ((nf_plain hd.n).app ((nf_lit _ (by decide)).app (nf_esc _ _)))
        · rw [e]
          refine lno_ln ?_ (by simp)
          simp only [List.flatten_cons, List.flatten_nil, List.append_nil]
          exact (nf_lit _ (by decide)).app ((nf_plain hd.n).app ((nf_lit _ (by decide)).app (nf_kd _)))
    · rcases List.mem_append.1 k with k | k
      · exact lno_vl hd l k
      · exact lno_vs P r _ (fun y hy => h y (List.mem_cons_of_mem _ hy)) l k
/-- NO LINE IS EMPTY. -/
theorem lno_ex {s : Sn} (h : (chkS s).1 = 0) : ∀ l ∈ exL (vlL s.p.toNat) s, Lno l := by
  intro l hl
  unfold exL at hl
  rcases List.mem_append.1 hl with k | k
  · simp only [List.mem_cons, List.mem_nil_iff, or_false] at k
    rcases k with e | e
    · rw [e]
      refine lno_ln ?_ (by simp)
      simp only [List.flatten_cons, List.flatten_nil, List.append_nil]
      exact (nf_lit _ (by decide)).app (hi_itoa _).nf
    · rw [e]
      refine lno_ln ?_ (by simp)
      simp only [List.flatten_cons, List.flatten_nil, List.append_nil]
      exact (nf_lit _ (by decide)).app (hi_dec _).nf
  · exact lno_vs _ _ _ (fun x hx => chkD_z (chkS_z h x hx).1) l k
end Go.Proofs.YtkakanejiakbkaaGreatDoor
/- TEXTS THAT ARE THE SAME: cuts, numbers, series. Own work of the verifier. -/
namespace Go.Proofs.YtkakanejiakbkaaGreatDoor
open Go.RowKit Me

theorem cut_at {c : UInt8} : ∀ {t t' r r' : List UInt8}, (∀ b ∈ t, b ≠ c) → (∀ b ∈ t', b ≠ c) → t ++ c :: r = t' ++ c :: r' → t = t' ∧ r = r'
  | [], [], r, r', _, _, h => ⟨rfl, by simpa using h⟩
  | [], b :: t', r, r', _, h', h => by
    simp only [List.nil_append, List.cons_append, List.cons.injEq] at h
    exact absurd h.1.symm (h' b List.mem_cons_self)
  | b :: t, [], r, r', h', _, h => by
    simp only [List.nil_append, List.cons_append, List.cons.injEq] at h
    exact absurd h.1 (h' b List.mem_cons_self)
  | b :: t, b' :: t', r, r', h, h', e => by
    simp only [List.cons_append, List.cons.injEq] at e
    obtain ⟨e0, e⟩ := e
    obtain ⟨e1, e2⟩ := cut_at (fun c hc => h c (List.mem_cons_of_mem _ hc)) (fun c hc => h' c (List.mem_cons_of_mem _ hc)) e
    exact ⟨by rw [e0, e1], e2⟩
theorem cut_back {c : UInt8} {u u' n n' : List UInt8} (h : ∀ b ∈ n, b ≠ c) (h' : ∀ b ∈ n', b ≠ c) (e : u ++ c :: n = u' ++ c :: n') : u = u' ∧ n = n' := by
  have e2 := congrArg List.reverse e
  simp only [List.reverse_append, List.reverse_cons, List.append_assoc, List.singleton_append] at e2
  obtain ⟨a, b⟩ := cut_at (c := c) (t := n.reverse) (t' := n'.reverse) (fun x hx => h x (by simpa using hx)) (fun x hx => h' x (by simpa using hx)) (by simpa using e2)
  exact ⟨List.reverse_inj.1 b, List.reverse_inj.1 a⟩
theorem lines_inj : ∀ (A B : List (List UInt8)), (∀ l ∈ A, Lno l) → (∀ l ∈ B, Lno l) → A.flatten = B.flatten → A = B
  | [], [], _, _, _ => rfl
  | [], l :: r, _, h, e => by
    obtain ⟨t, rfl, _, _⟩ := h l List.mem_cons_self
    simp at e
  | l :: r, [], h, _, e => by
    obtain ⟨t, rfl, _, _⟩ := h l List.mem_cons_self
    simp at e
  | l :: r, l' :: r', h, h', e => by
    obtain ⟨t, rfl, _, h1⟩ := h l List.mem_cons_self
    obtain ⟨t', rfl, _, h2⟩ := h' l' List.mem_cons_self
    simp only [List.flatten_cons, List.append_assoc, List.singleton_append] at e
    obtain ⟨e1, e2⟩ := cut_at h1 h2 e
    rw [e1, lines_inj r r' (fun x hx => h x (List.mem_cons_of_mem _ hx)) (fun x hx => h' x (List.mem_cons_of_mem _ hx)) e2]
theorem ofNat_inj {a b : Nat} (ha : a < 200) (hb : b < 200) (h : UInt8.ofNat a = UInt8.ofNat b) : a = b := by
  have := congrArg UInt8.toNat h
  rw [UInt8.toNat_ofNat', UInt8.toNat_ofNat'] at this
  omega
theorem dec_inj : ∀ (n m : Nat), Lib.decDigits n = Lib.decDigits m → n = m := by
  intro n
  induction n using Nat.strongRecOn with
  | _ n ih =>
    intro m h
    by_cases hn : n < 10
    · by_cases hm : m < 10
      · rw [Wi.dec_small hn, Wi.dec_small hm] at h
        simp only [List.cons.injEq, and_true] at h
        have := ofNat_inj (by omega) (by omega) h
        omega
      · rw [Wi.dec_small hn, Wi.dec_big hm] at h
        have := congrArg List.length h
        have hp := dec_pos (m / 10)
        simp only [List.length_append, List.length_cons, List.length_nil] at this
        omega
    · by_cases hm : m < 10
      · rw [Wi.dec_big hn, Wi.dec_small hm] at h
        have := congrArg List.length h
        have hp := dec_pos (n / 10)
        simp only [List.length_append, List.length_cons, List.length_nil] at this
        omega
      · rw [Wi.dec_big hn, Wi.dec_big hm] at h
        obtain ⟨h1, h2⟩ := List.append_inj' h rfl
        have e1 := ih (n / 10) (by omega) (m / 10) h1
        simp only [List.cons.injEq, and_true] at h2
        have e2 := ofNat_inj (by omega) (by omega) h2
        omega
theorem dec_first (n : Nat) : ∃ b r, Lib.decDigits n = b :: r ∧ 48 ≤ b.toNat := by
  induction n using Nat.strongRecOn with
  | _ n ih =>
    by_cases hn : n < 10
    · refine ⟨_, _, Wi.dec_small hn, ?_⟩
      rw [UInt8.toNat_ofNat']
      omega
    · obtain ⟨b, r, h1, h2⟩ := ih (n / 10) (by omega)
      exact ⟨b, r ++ [UInt8.ofNat (48 + n % 10)], by rw [Wi.dec_big hn, h1]; rfl, h2⟩
theorem itoa_inj (n m : Int) (h : Lib.itoa n = Lib.itoa m) : n = m := by
  obtain ⟨b, r, e1, e2⟩ := dec_first (Wi.mag n).toNat
  obtain ⟨b', r', e3, e4⟩ := dec_first (Wi.mag m).toNat
  by_cases hn : n < 0
  · by_cases hm : m < 0
    · rw [Wi.itoa_neg' hn, Wi.itoa_neg' hm] at h
      have := dec_inj _ _ (List.cons.inj h).2
      unfold Wi.mag at this
      rw [if_pos hn, if_pos hm] at this
      omega
    · rw [Wi.itoa_neg' hn, Wi.itoa_pos' hm, e3] at h
      rw [← (List.cons.inj h).1] at e4
      exact absurd e4 (by decide)
  · by_cases hm : m < 0
    · rw [Wi.itoa_pos' hn, Wi.itoa_neg' hm, e1] at h
      rw [(List.cons.inj h).1] at e2
      exact absurd e2 (by decide)
    · rw [Wi.itoa_pos' hn, Wi.itoa_pos' hm] at h
      have := dec_inj _ _ h
      unfold Wi.mag at this
      rw [if_neg hn, if_neg hm] at this
      omega
theorem lo_lt {P : Nat} (hP : 0 < P) {i : Nat} : ∀ {j : Nat}, i < j → lo P i < lo P j
  | 0, h => by omega
  | j + 1, h => by
    have hn := lo_next j hP
    have hp : 0 < 2 ^ kk P j := Nat.pow_pos (by decide)
    rcases Nat.lt_or_ge i j with k | k
    · have := lo_lt hP k
      omega
    · obtain rfl : i = j := by omega
      omega
theorem hiV_inj {P i j : Nat} (h : hiV P i = hiV P j) : i = j := by
  have hP : 0 < 2 ^ P := Nat.pow_pos (by decide)
  have h1 := lo_next i hP
  have h2 := lo_next j hP
  have p1 : 0 < 2 ^ kk (2 ^ P) i := Nat.pow_pos (by decide)
  have p2 : 0 < 2 ^ kk (2 ^ P) j := Nat.pow_pos (by decide)
  unfold hiV at h
  have e : lo (2 ^ P) (i + 1) = lo (2 ^ P) (j + 1) := by omega
  rcases Nat.lt_trichotomy i j with k | k | k
  · have := lo_lt hP (show i + 1 < j + 1 by omega); omega
  · exact k
  · have := lo_lt hP (show j + 1 < i + 1 by omega); omega
/-- How a byte is written within quotes begins as no end does. -/
theorem esc_cut : ∀ (v v' X X' : List UInt8), La.escL true v ++ 34 :: X = La.escL true v' ++ 34 :: X' → v = v' ∧ X = X'
  | [], [], X, X', h => ⟨rfl, by simpa [La.escL] using h⟩
  | [], b :: r, X, X', h => by
    rw [La.escL, La.escL, List.nil_append] at h
    unfold La.esc1 at h
    split at h
    · simp at h
    · rename_i k
      split at h
      · simp at h
      · simp only [List.cons_append, List.nil_append, List.cons.injEq] at h
        exact absurd (Or.inr ⟨rfl, by rw [← h.1]; rfl⟩) k
  | b :: r, [], X, X', h => by
    rw [La.escL, La.escL, List.nil_append] at h
    unfold La.esc1 at h
    split at h
    · simp at h
    · rename_i k
      split at h
      · simp at h
      · simp only [List.cons_append, List.nil_append, List.cons.injEq] at h
        exact absurd (Or.inr ⟨rfl, by rw [h.1]; rfl⟩) k
  | b :: r, b' :: r', X, X', h => by
    rw [La.escL, La.escL] at h
    have key : b = b' ∧ La.escL true r ++ 34 :: X = La.escL true r' ++ 34 :: X' := by
      unfold La.esc1 at h
      split at h
      · split at h
        · simp only [List.cons_append, List.nil_append, List.cons.injEq, true_and] at h
          exact h
        · rename_i k1 k2
          split at h
          · simp only [List.cons_append, List.nil_append, List.cons.injEq, true_and] at h
            rcases k1 with k | ⟨_, k⟩
            · rw [h.1] at k; exact absurd k (by decide)
            · rw [h.1] at k; exact absurd k (by decide)
          · simp only [List.cons_append, List.nil_append, List.cons.injEq] at h
            exact absurd (Or.inl (by rw [← h.1]; rfl)) k2
      · rename_i k1
        split at h
        · rename_i k2
          split at h
          · rename_i k3
            simp only [List.cons_append, List.nil_append, List.cons.injEq, true_and] at h
            rcases k3 with k | ⟨_, k⟩
            · rw [← h.1] at k; exact absurd k (by decide)
            · rw [← h.1] at k; exact absurd k (by decide)
          · split at h
            · rename_i k4
              simp only [List.cons_append, List.nil_append, List.cons.injEq, true_and] at h
              exact ⟨UInt8.toNat_inj.1 (k2.trans k4.symm), h⟩
            · rename_i k3 _
              simp only [List.cons_append, List.nil_append, List.cons.injEq] at h
              exact absurd (Or.inl (by rw [← h.1]; rfl)) k3
        · split at h
          · simp only [List.cons_append, List.nil_append, List.cons.injEq] at h
            exact absurd (Or.inl (by rw [h.1]; rfl)) k1
          · split at h
            · simp only [List.cons_append, List.nil_append, List.cons.injEq] at h
              exact absurd (Or.inl (by rw [h.1]; rfl)) k1
            · simp only [List.cons_append, List.nil_append, List.cons.injEq] at h
              exact h
    obtain ⟨e1, e2⟩ := key
    obtain ⟨e3, e4⟩ := esc_cut r r' X X' e2
    exact ⟨by rw [e1, e3], e4⟩
/-- No such byte. -/
def Nb (c : UInt8) (l : List UInt8) : Prop := ∀ b ∈ l, b ≠ c
theorem lb_cut {a a' : La.Lb} {X X' : List UInt8} (h : Nb 61 a.1) (h' : Nb 61 a'.1) (e : La.lbT a ++ X = La.lbT a' ++ X') : a = a' ∧ X = X' := by
  unfold La.lbT at e
  simp only [List.append_assoc, List.cons_append, List.nil_append] at e
  obtain ⟨e1, e2⟩ := cut_at h h' e
  obtain ⟨e3, e4⟩ := esc_cut _ _ _ _ (List.cons.inj e2).2
  exact ⟨Prod.ext e1 e3, e4⟩
theorem pr_cut : ∀ (L L' : List La.Lb), (∀ a ∈ L, Nb 61 a.1) → (∀ a ∈ L', Nb 61 a.1) → La.prB false L ++ [125] = La.prB false L' ++ [125] → L = L'
  | [], [], _, _, _ => rfl
  | [], a :: r, _, _, e => by rw [La.prB, La.prB] at e; simp at e
  | a :: r, [], _, _, e => by rw [La.prB, La.prB] at e; simp at e
  | a :: r, a' :: r', h, h', e => by
    rw [La.prB, La.prB] at e
    simp only [Bool.false_eq_true, if_false, List.cons_append, List.append_assoc, List.cons.injEq, true_and] at e
    obtain ⟨e1, e2⟩ := lb_cut (h a List.mem_cons_self) (h' a' List.mem_cons_self) e
    rw [e1, pr_cut r r' (fun x hx => h x (List.mem_cons_of_mem _ hx)) (fun x hx => h' x (List.mem_cons_of_mem _ hx)) e2]
theorem print_cut {n n' : List UInt8} {L L' : List La.Lb} (hn : Nb 123 n) (hn' : Nb 123 n') (h : ∀ a ∈ L, Nb 61 a.1) (h' : ∀ a ∈ L', Nb 61 a.1) (e : La.printT n L = La.printT n' L') : n = n' ∧ L = L' := by
  unfold La.printT at e
  cases L with
  | nil =>
    cases L' with
    | nil => simp [La.prB] at e; exact ⟨e, rfl⟩
    | cons a r =>
      simp only [La.prB, List.append_nil, List.length_nil, if_true] at e
      exact absurd rfl (hn 123 (by rw [e]; simp))
  | cons a r =>
    cases L' with
    | nil =>
      simp only [La.prB, List.append_nil, List.length_nil, if_true] at e
      exact absurd rfl (hn' 123 (by rw [← e]; simp))
    | cons a' r' =>
      rw [if_neg (by simp), if_neg (by simp)] at e
      simp only [La.prB, if_true, List.append_assoc, List.cons_append] at e
      obtain ⟨e1, e2⟩ := cut_at hn hn' e
      obtain ⟨e3, e4⟩ := lb_cut (h a List.mem_cons_self) (h' a' List.mem_cons_self) e2
      rw [e3, pr_cut r r' (fun x hx => h x (List.mem_cons_of_mem _ hx)) (fun x hx => h' x (List.mem_cons_of_mem _ hx)) e4]
      exact ⟨e1, rfl⟩
theorem se_cut {d d' : La.Ds} {en en' : List UInt8} {M M' : List La.Lb} {nu nu' : List UInt8} (hn : Nb 123 (d.name ++ en)) (hn' : Nb 123 (d'.name ++ en')) (h : ∀ a ∈ d.labels ++ M, Nb 61 a.1) (h' : ∀ a ∈ d'.labels ++ M', Nb 61 a.1) (hu : Hi nu) (hu' : Hi nu') (e : seT d en M nu = seT d' en' M' nu') :
    d.name ++ en = d'.name ++ en' ∧ d.labels ++ M = d'.labels ++ M' ∧ nu = nu' := by
  unfold seT lnT at e
  simp only [List.flatten_cons, List.flatten_nil, List.append_nil, List.append_assoc] at e
  have e2 := List.append_inj_left' (s₁ := La.printT (d.name ++ en) (d.labels ++ M) ++ ([32] ++ nu)) (s₂ := La.printT (d'.name ++ en') (d'.labels ++ M') ++ ([32] ++ nu')) (t₁ := [10]) (t₂ := [10]) (by simpa [List.append_assoc] using e) rfl
  have nb : ∀ {l : List UInt8}, Hi l → ∀ b ∈ l, b ≠ 32 := fun hl b hb k => by
    have := hl b hb
    rw [k] at this
    exact absurd this (by decide)
  obtain ⟨e3, e4⟩ := cut_back (c := 32) (nb hu) (nb hu') (by simpa using e2)
  obtain ⟨e5, e6⟩ := print_cut hn hn' h h' e3
  exact ⟨e5, e6, e4⟩
end Go.Proofs.YtkakanejiakbkaaGreatDoor
