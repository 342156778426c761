/- THE ORDER OF SERIES. Own work of the verifier. -/
import Derived.Test.YtgkdggcpplmnaaaGreatZAD
namespace Go.Proofs.YtgkdggcpplmnaaaGreat.La

/-- What holds of the three comparisons of three things. -/
def T3 (x y z : Int) : Prop := x ≤ 0 → y ≤ 0 → z ≤ 0 ∧ (z = 0 ↔ x = 0 ∧ y = 0)
def lex (x u : Int) : Int := if x ≠ 0 then x else u
theorem T3.lex {x y z u v t : Int} (h1 : T3 x y z) (h2 : T3 u v t) : T3 (lex x u) (lex y v) (lex z t) := by
  intro a b
  have lz : ∀ p q : Int, p = 0 → Go.Proofs.YtgkdggcpplmnaaaGreat.La.lex p q = q := fun p q h => by unfold Go.Proofs.YtgkdggcpplmnaaaGreat.La.lex; rw [if_neg (fun k => k h)]
  have ln : ∀ p q : Int, p ≠ 0 → Go.Proofs.YtgkdggcpplmnaaaGreat.La.lex p q = p := fun p q h => by unfold Go.Proofs.YtgkdggcpplmnaaaGreat.La.lex; rw [if_pos h]
  have le : ∀ p q : Int, Go.Proofs.YtgkdggcpplmnaaaGreat.La.lex p q ≤ 0 → p ≤ 0 := fun p q h => by
    by_cases hp : p = 0
    · omega
    · rw [ln p q hp] at h; exact h
  have e0 : ∀ p q : Int, Go.Proofs.YtgkdggcpplmnaaaGreat.La.lex p q = 0 → p = 0 := fun p q h => by
    by_cases hp : p = 0
    · exact hp
    · rw [ln p q hp] at h; exact h
  obtain ⟨z0, zi⟩ := h1 (le _ _ a) (le _ _ b)
  by_cases hz : z = 0
  · obtain ⟨hx, hy⟩ := zi.1 hz
    rw [lz _ _ hx] at a ⊢
    rw [lz _ _ hy] at b ⊢
    rw [lz _ _ hz]
    exact h2 a b
  · rw [ln _ _ hz]
    exact ⟨z0, fun h => absurd h hz, fun h => zi.2 ⟨e0 _ _ h.1, e0 _ _ h.2⟩⟩
theorem T3.ordE (a b c : List UInt8) : T3 (ordE a b) (ordE b c) (ordE a c) := by
  have key : ∀ p q : List UInt8, Go.Proofs.YtgkdggcpplmnaaaGreat.La.ordE p q ≤ 0 ↔ p ≤ q := fun p q => by
    unfold Go.Proofs.YtgkdggcpplmnaaaGreat.La.ordE bltB
    show _ ↔ ¬ q < p
    by_cases h1 : p < q
    · have h2 : ¬ q < p := fun h => List.lt_irrefl _ (List.lt_trans h1 h)
      simp [h1, h2]
    · by_cases h2 : q < p
      · simp [h1, h2]
      · simp [h1, h2]
  have zero : ∀ p q : List UInt8, Go.Proofs.YtgkdggcpplmnaaaGreat.La.ordE p q = 0 ↔ p = q := fun p q => by
    constructor
    · intro h
      have h1 := (key p q).1 (by omega)
      have h2 : q ≤ p := fun hlt => by
        unfold Go.Proofs.YtgkdggcpplmnaaaGreat.La.ordE bltB at h
        rw [if_pos (decide_eq_true hlt)] at h
        exact absurd h (by decide)
      exact List.le_antisymm h1 h2
    · rintro rfl
      unfold Go.Proofs.YtgkdggcpplmnaaaGreat.La.ordE bltB
      simp [List.lt_irrefl]
  intro h1 h2
  have k1 := (key a b).1 h1
  have k2 := (key b c).1 h2
  refine ⟨(key a c).2 (List.le_trans k1 k2), ?_⟩
  rw [zero, zero, zero]
  constructor
  · intro e
    subst e
    have : a = b := List.le_antisymm k1 k2
    exact ⟨this, this.symm⟩
  · rintro ⟨e1, e2⟩
    exact e1.trans e2
theorem ordL_lex (a b : Lb) (A B : List Lb) : ordL (a :: A) (b :: B) = lex (ordE a.1 b.1) (lex (ordE a.2 b.2) (ordL A B)) := by
  rw [ordL]
  rfl
theorem T3.ordL : ∀ A B C : List Lb, T3 (ordL A B) (ordL B C) (ordL A C)
  | [], [], [] => by unfold T3; simp [Go.Proofs.YtgkdggcpplmnaaaGreat.La.ordL]
  | [], [], _ :: _ => by unfold T3; simp [Go.Proofs.YtgkdggcpplmnaaaGreat.La.ordL]
  | [], _ :: _, [] => by unfold T3; simp [Go.Proofs.YtgkdggcpplmnaaaGreat.La.ordL]
  | [], _ :: _, _ :: _ => by unfold T3; simp [Go.Proofs.YtgkdggcpplmnaaaGreat.La.ordL]
  | _ :: _, [], _ => by unfold T3; simp [Go.Proofs.YtgkdggcpplmnaaaGreat.La.ordL]
  | a :: A, b :: B, [] => by
    unfold T3
    intro _ h
    simp [Go.Proofs.YtgkdggcpplmnaaaGreat.La.ordL] at h
  | a :: A, b :: B, c :: C => by
    rw [ordL_lex, ordL_lex, ordL_lex]
    exact (T3.ordE a.1 b.1 c.1).lex ((T3.ordE a.2 b.2 c.2).lex (T3.ordL A B C))
theorem T3.ordD (d e f : Ds) : T3 (ordD d e) (ordD e f) (ordD d f) := (T3.ordE d.name e.name f.name).lex (T3.ordL d.labels e.labels f.labels)
theorem ordE_zero (p q : List UInt8) : ordE p q = 0 ↔ p = q := by
  unfold ordE bltB
  by_cases h1 : p < q
  · simp [h1]
    intro e
    subst e
    exact List.lt_irrefl _ h1
  · by_cases h2 : q < p
    · simp [h1, h2]
      intro e
      subst e
      exact List.lt_irrefl _ h2
    · simp [h1, h2]
      exact List.le_antisymm h2 h1
theorem ordL_zero : ∀ A B : List Lb, ordL A B = 0 ↔ A = B
  | [], [] => by simp [ordL]
  | [], _ :: _ => by simp [ordL]
  | _ :: _, [] => by simp [ordL]
  | a :: A, b :: B => by
    rw [ordL_lex, List.cons.injEq, ← ordL_zero A B]
    unfold lex
    have h1 := ordE_zero a.1 b.1
    have h2 := ordE_zero a.2 b.2
    have h3 : a = b ↔ a.1 = b.1 ∧ a.2 = b.2 := Prod.ext_iff
    rw [h3, ← h1, ← h2]
    by_cases e1 : ordE a.1 b.1 = 0
    · by_cases e2 : ordE a.2 b.2 = 0
      · simp [e1, e2]
      · simp [e1, e2]
    · simp [e1]
theorem ordD_zero (d e : Ds) : ordD d e = 0 ↔ d.name = e.name ∧ d.labels = e.labels := by
  unfold ordD
  rw [← ordE_zero, ← ordL_zero]
  by_cases e1 : ordE d.name e.name = 0
  · simp [e1]
  · simp [e1]
end Go.Proofs.YtgkdggcpplmnaaaGreat.La
