/- THE MATHEMATICS OF THE ORDER, AND OF TEXTS THERE AND BACK: helps and values. Own work of the verifier. -/
import Derived.Test.YtmphajfhilpgeabCB8
namespace Go.Proofs.Ytmphajfhilpgeab

/-- What holds of the three comparisons of three things. -/
def T3 (x y z : Int) : Prop := x ≤ 0 → y ≤ 0 → z ≤ 0 ∧ (z = 0 ↔ x = 0 ∧ y = 0)
def lex (x u : Int) : Int := if x ≠ 0 then x else u
theorem T3.lex {x y z u v t : Int} (h1 : T3 x y z) (h2 : T3 u v t) : T3 (lex x u) (lex y v) (lex z t) := by
  intro a b
  have lz : ∀ p q : Int, p = 0 → Go.Proofs.Ytmphajfhilpgeab.lex p q = q := fun p q h => by unfold Go.Proofs.Ytmphajfhilpgeab.lex; rw [if_neg (fun k => k h)]
  have ln : ∀ p q : Int, p ≠ 0 → Go.Proofs.Ytmphajfhilpgeab.lex p q = p := fun p q h => by unfold Go.Proofs.Ytmphajfhilpgeab.lex; rw [if_pos h]
  have le : ∀ p q : Int, Go.Proofs.Ytmphajfhilpgeab.lex p q ≤ 0 → p ≤ 0 := fun p q h => by
    by_cases hp : p = 0
    · omega
    · rw [ln p q hp] at h; exact h
  have e0 : ∀ p q : Int, Go.Proofs.Ytmphajfhilpgeab.lex p q = 0 → p = 0 := fun p q h => by
    by_cases hp : p = 0
    · exact hp
    · rw [ln p q hp] at h; exact h
  obtain ⟨z0, zi⟩ := h1 (le _ _ a) (le _ _ b)
  by_cases hz : z = 0
  · obtain ⟨hx, hy⟩ := zi.1 hz
    rw [lz _ _ hx] at a ⊢
    rw [lz _ _ hy] at b ⊢
    rw [lz _ _ hz]
    exact h2 a b
  · rw [ln _ _ hz]
    exact ⟨z0, fun h => absurd h hz, fun h => zi.2 ⟨e0 _ _ h.1, e0 _ _ h.2⟩⟩
theorem T3.ordE (a b c : List UInt8) : T3 (ordE a b) (ordE b c) (ordE a c) := by
  have key : ∀ p q : List UInt8, Go.Proofs.Ytmphajfhilpgeab.ordE p q ≤ 0 ↔ p ≤ q := fun p q => by
    unfold Go.Proofs.Ytmphajfhilpgeab.ordE bltB
    show _ ↔ ¬ q < p
    by_cases h1 : p < q
    · have h2 : ¬ q < p := fun h => List.lt_irrefl _ (List.lt_trans h1 h)
      simp [h1, h2]
    · by_cases h2 : q < p
      · simp [h1, h2]
      · simp [h1, h2]
  have zero : ∀ p q : List UInt8, Go.Proofs.Ytmphajfhilpgeab.ordE p q = 0 ↔ p = q := fun p q => by
    constructor
    · intro h
      have h1 := (key p q).1 (by omega)
      have h2 : q ≤ p := fun hlt => by
        unfold Go.Proofs.Ytmphajfhilpgeab.ordE bltB at h
        rw [if_pos (decide_eq_true hlt)] at h
        exact absurd h (by decide)
      exact List.le_antisymm h1 h2
    · rintro rfl
      unfold Go.Proofs.Ytmphajfhilpgeab.ordE bltB
      simp [List.lt_irrefl]
  intro h1 h2
  have k1 := (key a b).1 h1
  have k2 := (key b c).1 h2
  refine ⟨(key a c).2 (List.le_trans k1 k2), ?_⟩
  rw [zero, zero, zero]
  constructor
  · intro e
    subst e
    have : a = b := List.le_antisymm k1 k2
    exact ⟨this, this.symm⟩
  · rintro ⟨e1, e2⟩
    exact e1.trans e2
theorem ordL_lex (a b : Lb) (A B : List Lb) : ordL (a :: A) (b :: B) = lex (ordE a.1 b.1) (lex (ordE a.2 b.2) (ordL A B)) := by
  rw [ordL]
  rfl
theorem T3.ordL : ∀ A B C : List Lb, T3 (ordL A B) (ordL B C) (ordL A C)
  | [], [], [] => by unfold T3; simp [Go.Proofs.Ytmphajfhilpgeab.ordL]
  | [], [], _ :: _ => by unfold T3; simp [Go.Proofs.Ytmphajfhilpgeab.ordL]
  | [], _ :: _, [] => by unfold T3; simp [Go.Proofs.Ytmphajfhilpgeab.ordL]
  | [], _ :: _, _ :: _ => by unfold T3; simp [Go.Proofs.Ytmphajfhilpgeab.ordL]
  | _ :: _, [], _ => by unfold T3; simp [Go.Proofs.Ytmphajfhilpgeab.ordL]
  | a :: A, b :: B, [] => by
    unfold T3
    intro _ h
    simp [Go.Proofs.Ytmphajfhilpgeab.ordL] at h
  | a :: A, b :: B, c :: C => by
    rw [ordL_lex, ordL_lex, ordL_lex]
    exact (T3.ordE a.1 b.1 c.1).lex ((T3.ordE a.2 b.2 c.2).lex (T3.ordL A B C))
theorem T3.ordD (d e f : Ds) : T3 (ordD d e) (ordD e f) (ordD d f) := (T3.ordE d.name e.name f.name).lex (T3.ordL d.labels e.labels f.labels)
theorem ordE_zero (p q : List UInt8) : ordE p q = 0 ↔ p = q := by
  unfold ordE bltB
  by_cases h1 : p < q
  · simp [h1]
    intro e
    subst e
    exact List.lt_irrefl _ h1
  · by_cases h2 : q < p
    · simp [h1, h2]
      intro e
      subst e
      exact List.lt_irrefl _ h2
    · simp [h1, h2]
      exact List.le_antisymm h2 h1
theorem ordL_zero : ∀ A B : List Lb, ordL A B = 0 ↔ A = B
  | [], [] => by simp [ordL]
  | [], _ :: _ => by simp [ordL]
  | _ :: _, [] => by simp [ordL]
  | a :: A, b :: B => by
    rw [ordL_lex, List.cons.injEq, ← ordL_zero A B]
    unfold lex
    have h1 := ordE_zero a.1 b.1
    have h2 := ordE_zero a.2 b.2
    have h3 : a = b ↔ a.1 = b.1 ∧ a.2 = b.2 := Prod.ext_iff
    rw [h3, ← h1, ← h2]
    by_cases e1 : ordE a.1 b.1 = 0
    · by_cases e2 : ordE a.2 b.2 = 0
      · simp [e1, e2]
      · simp [e1, e2]
    · simp [e1]
theorem ordD_zero (d e : Ds) : ordD d e = 0 ↔ d.name = e.name ∧ d.labels = e.labels := by
  unfold ordD
  rw [← ordE_zero, ← ordL_zero]
  by_cases e1 : ordE d.name e.name = 0
  · simp [e1]
  · simp [e1]
/-- Helps there and back. -/
theorem esc_un (h : List UInt8) : unL (escL false h) = some h := by
  induction h with
  | nil => rfl
  | cons b r ih =>
    rw [escL]
    unfold esc1
    by_cases h1 : b.toNat = 92
    · have hb : b = 92 := UInt8.toNat_inj.1 h1
      subst hb
      rw [if_pos (Or.inl h1)]
      show unL (92 :: 92 :: escL false r) = _
      rw [unL.eq_def]
      simp [ih]
    · rw [if_neg (by simp [h1])]
      by_cases h2 : b.toNat = 10
      · have hb : b = 10 := UInt8.toNat_inj.1 h2
        subst hb
        rw [if_pos h2]
        show unL (92 :: 110 :: escL false r) = _
        rw [unL.eq_def]
        simp [ih]
      · rw [if_neg h2]
        show unL (b :: escL false r) = _
        rw [unL.eq_def]
        simp [h1, h2, ih]
theorem un_esc (l : List UInt8) : ∀ h, unL l = some h → escL false h = l := by
  induction l using unL.induct with
  | case1 => intro h e; cases e; rfl
  | case2 b r h1 => intro h e; rw [unL.eq_def] at e; simp only at e; rw [if_pos h1] at e; cases e
  | case3 b h1 h2 => intro h e; rw [unL.eq_def] at e; simp only at e; rw [if_neg h1, if_pos h2] at e; cases e
  | case4 b h1 h2 c r' h3 ih =>
    intro h e
    rw [unL.eq_def] at e
    simp only at e
    rw [if_neg h1, if_pos h2, if_pos h3] at e
    cases hu : unL r' with
    | none => rw [hu] at e; cases e
    | some t =>
      rw [hu] at e
      cases e
      rw [escL, ih t hu]
      have hb : b = 92 := UInt8.toNat_inj.1 h2
      have hc : c = 92 := UInt8.toNat_inj.1 h3
      subst hb hc
      rfl
  | case5 b h1 h2 c r' h3 h4 ih =>
    intro h e
    rw [unL.eq_def] at e
    simp only at e
    rw [if_neg h1, if_pos h2, if_neg h3, if_pos h4] at e
    cases hu : unL r' with
    | none => rw [hu] at e; cases e
    | some t =>
      rw [hu] at e
      cases e
      rw [escL, ih t hu]
      have hb : b = 92 := UInt8.toNat_inj.1 h2
      have hc : c = 110 := UInt8.toNat_inj.1 h4
      subst hb hc
      rfl
  | case6 b h1 h2 c r' h3 h4 =>
    intro h e
    rw [unL.eq_def] at e
    simp only at e
    rw [if_neg h1, if_pos h2, if_neg h3, if_neg h4] at e
    cases e
  | case7 b r h1 h2 ih =>
    intro h e
    rw [unL.eq_def] at e
    simp only at e
    rw [if_neg h1, if_neg h2] at e
    cases hu : unL r with
    | none => rw [hu] at e; cases e
    | some t =>
      rw [hu] at e
      cases e
      rw [escL, ih t hu]
      unfold esc1
      rw [if_neg (by simp [h2]), if_neg h1]
      rfl
/-- Values there and back. -/
theorem esc_val (t rest : List UInt8) : ∀ p, valR (escL true t ++ 34 :: rest) p = .ok (t, p + (escL true t).length + 1) := by
  induction t with
  | nil => intro p; rw [escL, List.nil_append, valR.eq_def]; simp
  | cons b r ih =>
    intro p
    rw [escL]
    unfold esc1
    by_cases h1 : b.toNat = 92 ∨ true = true ∧ b.toNat = 34
    · rw [if_pos h1]
      show valR (92 :: b :: (escL true r ++ 34 :: rest)) p = _
      have h1' : b.toNat = 92 ∨ b.toNat = 34 := by simpa using h1
      rw [valR.eq_def]
      simp only
      rw [if_neg (by decide), if_neg (by decide), if_pos (by decide), if_pos h1', ih (p + 2)]
      simp only [Except.map, List.length_append, List.length_cons, List.length_nil]
      congr 2
      omega
    · rw [if_neg h1]
      have h1' : ¬ (b.toNat = 92 ∨ b.toNat = 34) := by simpa using h1
      by_cases h2 : b.toNat = 10
      · have hb : b = 10 := UInt8.toNat_inj.1 h2
        subst hb
        rw [if_pos h2]
        show valR (92 :: 110 :: (escL true r ++ 34 :: rest)) p = _
        rw [valR.eq_def]
        simp only
        rw [if_neg (by decide), if_neg (by decide), if_pos (by decide), if_neg (by decide), if_pos (by decide), ih (p + 2)]
        simp only [Except.map, List.length_append, List.length_cons, List.length_nil]
        congr 2
        omega
      · rw [if_neg h2]
        show valR (b :: (escL true r ++ 34 :: rest)) p = _
        rw [valR.eq_def]
        simp only
        rw [if_neg (fun h => h1' (Or.inr h)), if_neg h2, if_neg (fun h => h1' (Or.inl h)), ih (p + 1)]
        simp only [Except.map, List.length_append, List.length_cons, List.length_nil]
        congr 2
        omega
theorem val_esc : ∀ (m : Nat) (l : List UInt8), l.length = m → ∀ p t k, valR l p = .ok (t, k) → ∃ rest, l = escL true t ++ 34 :: rest ∧ k = p + (escL true t).length + 1 := by
  intro m
  induction m using Nat.strongRecOn with
  | ind m ih =>
    intro l hl p t k h
    cases l with
    | nil => rw [valR] at h; cases h
    | cons b r =>
      rw [valR.eq_def] at h
      simp only at h
      by_cases h34 : b.toNat = 34
      · rw [if_pos h34] at h
        cases h
        have hb : b = 34 := UInt8.toNat_inj.1 h34
        subst hb
        exact ⟨r, rfl, rfl⟩
      rw [if_neg h34] at h
      by_cases h10 : b.toNat = 10
      · rw [if_pos h10] at h; cases h
      rw [if_neg h10] at h
      by_cases h92 : b.toNat = 92
      · rw [if_pos h92] at h
        have hb : b = 92 := UInt8.toNat_inj.1 h92
        subst hb
        cases r with
        | nil => simp only at h; cases h
        | cons c r' =>
          simp only at h
          by_cases c1 : c.toNat = 92 ∨ c.toNat = 34
          · rw [if_pos c1] at h
            cases hv : valR r' (p + 2) with
            | error e => rw [hv] at h; cases h
            | ok q =>
              obtain ⟨s, j⟩ := q
              rw [hv] at h
              cases h
              obtain ⟨rest, e1, e2⟩ := ih r'.length (by simp at hl; omega) r' rfl (p + 2) s j hv
              refine ⟨rest, ?_, ?_⟩
              · rw [escL]
                unfold esc1
                rw [if_pos (by simpa using c1)]
                show 92 :: c :: r' = 92 :: c :: (escL true s ++ 34 :: rest)
                rw [← e1]
              · rw [escL]
                unfold esc1
                rw [if_pos (by simpa using c1)]
                simp only [List.length_append, List.length_cons, List.length_nil]
                show j = _
                omega
          · rw [if_neg c1] at h
            by_cases c2 : c.toNat = 110
            · rw [if_pos c2] at h
              have hc : c = 110 := UInt8.toNat_inj.1 c2
              subst hc
              cases hv : valR r' (p + 2) with
              | error e => rw [hv] at h; cases h
              | ok q =>
                obtain ⟨s, j⟩ := q
                rw [hv] at h
                cases h
                obtain ⟨rest, e1, e2⟩ := ih r'.length (by simp at hl; omega) r' rfl (p + 2) s j hv
                refine ⟨rest, ?_, ?_⟩
                · rw [escL]
                  show 92 :: 110 :: r' = 92 :: 110 :: (escL true s ++ 34 :: rest)
                  rw [← e1]
                · rw [escL]
                  show j = p + ([92, 110] ++ escL true s).length + 1
                  simp only [List.length_append, List.length_cons, List.length_nil]
                  omega
            · rw [if_neg c2] at h; cases h
      · rw [if_neg h92] at h
        cases hv : valR r (p + 1) with
        | error e => rw [hv] at h; cases h
        | ok q =>
          obtain ⟨s, j⟩ := q
          rw [hv] at h
          cases h
          obtain ⟨rest, e1, e2⟩ := ih r.length (by simp at hl; omega) r rfl (p + 1) s j hv
          have he : esc1 true b = [b] := by
            unfold esc1
            rw [if_neg (by simp [h92, h34]), if_neg h10]
          refine ⟨rest, ?_, ?_⟩
          · rw [escL, he]
            show b :: r = b :: (escL true s ++ 34 :: rest)
            rw [← e1]
          · rw [escL, he]
            simp only [List.length_append, List.length_cons, List.length_nil]
            show j = _
            omega
end Go.Proofs.Ytmphajfhilpgeab
