/- WHICH SNAPSHOTS ARE THE SAME: in numbers. Own work of the verifier. -/
import Derived.Test.YtkakanejiakbkaaGreatDoorVBR
namespace Go.Proofs.YtkakanejiakbkaaGreatDoor
open Go.RowKit Me

/-- Are two values the same in all? -/
def smV (x y : Vl) : Bool := decide (x.d = y.d) && (decide (x.t = y.t) && (decide (x.cs = y.cs) && (decide (x.n = y.n) && sf x y)))
theorem words_eq {s t : Int} (_hs : InR s) (ht : InR t) : (hiOf s == hiOf t && loOf s == loOf t) = decide (s = t) := by
  have h1 := val_hl s
  have h2 := val_hl t
  by_cases e : s = t
  · subst e; simp
  · rw [decide_eq_false e]
    by_cases e1 : hiOf s = hiOf t
    · have : loOf s ≠ loOf t := fun e2 => e (by rw [← h1, ← h2, e1, e2])
      rw [beq_eq_false_iff_ne.2 this, Bool.and_false]
    · rw [beq_eq_false_iff_ne.2 e1, Bool.false_and]
def smQ : List Vl → List Vl → Bool
  | [], [] => true
  | x :: A, y :: B => smV x y && smQ A B
  | _, _ => false
theorem smQ_len {A B : List Vl} (h : A.length ≠ B.length) : smQ A B = false := by
  induction A generalizing B with
  | nil => cases B with
    | nil => exact absurd rfl h
    | cons y B => rfl
  | cons x A ih => cases B with
    | nil => rfl
    | cons y B => rw [smQ, ih (by simpa using h), Bool.and_false]
theorem smQ_drop (A B : List Vl) (i : Nat) (h1 : i < A.length) (h2 : i < B.length) : smQ (A.drop i) (B.drop i) = (smV A[i] B[i] && smQ (A.drop (i + 1)) (B.drop (i + 1))) := by
  rw [List.drop_eq_getElem_cons h1, List.drop_eq_getElem_cons h2, smQ]
def smS (a b : Sn) : Bool := decide (a.p = b.p) && (decide (a.r = b.r) && smQ a.vs b.vs)
theorem hold_fn {p : Int} {x : Vl} (w : VW x) (h : holdB p x = true) : Fn x.sum ∧ Fn x.mn ∧ Fn x.mx := by
  have z : fz x = true → Fn x.sum ∧ Fn x.mn ∧ Fn x.mx := fun k => by
    obtain ⟨z1, z2, z3⟩ := fz_z k
    rw [z1, z2, z3]
    exact ⟨⟨by decide, by decide⟩, ⟨by decide, by decide⟩, ⟨by decide, by decide⟩⟩
  unfold holdB at h
  split at h
  · simp only [Bool.and_eq_true] at h
    exact z h.2
  · split at h
    · simp only [Bool.and_eq_true] at h
      exact z h.2
    · simp only [Bool.and_eq_true] at h
      have f := h.2
      unfold flB at f
      split at f
      · exact absurd f (by decide)
      · split at f
        · exact z f
        · simp only [Bool.and_eq_true] at f
          exact ⟨⟨w.sum, f.1.1.1⟩, ⟨w.mn, f.1.1.2⟩, ⟨w.mx, f.1.2⟩⟩
theorem smV_one {p q : Int} {x y : Vl} (wx : VW x) (wy : VW y) (hx : holdB p x = true) (hy : holdB q y = true) (h : smV x y = true) : x = y := by
  obtain ⟨a1, a2, a3⟩ := hold_fn wx hx
  obtain ⟨b1, b2, b3⟩ := hold_fn wy hy
  unfold smV sf at h
  simp only [Bool.and_eq_true, decide_eq_true_eq] at h
  obtain ⟨h1, h2, h3, h4, ⟨h5, h6⟩, h7⟩ := h
  exact vl_ext h1 h2 h3 h4 (rk_one a1 b1 h5) (rk_one a2 b2 h6) (rk_one a3 b3 h7)
theorem smQ_one {p q : Int} : ∀ (A B : List Vl), (∀ x ∈ A, VW x ∧ holdB p x = true) → (∀ x ∈ B, VW x ∧ holdB q x = true) → smQ A B = true → A = B
  | [], [], _, _, _ => rfl
  | [], _ :: _, _, _, h => by simp [smQ] at h
  | _ :: _, [], _, _, h => by simp [smQ] at h
  | x :: A, y :: B, hA, hB, h => by
    rw [smQ, Bool.and_eq_true] at h
    have h1 := hA x List.mem_cons_self
    have h2 := hB y List.mem_cons_self
    rw [smV_one h1.1 h2.1 h1.2 h2.2 h.1, smQ_one A B (fun z hz => hA z (List.mem_cons_of_mem _ hz)) (fun z hz => hB z (List.mem_cons_of_mem _ hz)) h.2]
theorem smV_same (x : Vl) : smV x x = true := by
  unfold smV sf
  rw [Re.sF_eq, Re.sF_eq, Re.sF_eq]
  simp
theorem smQ_same : ∀ L : List Vl, smQ L L = true
  | [] => rfl
  | x :: L => by rw [smQ, smV_same, smQ_same L]; rfl
theorem smS_same (s : Sn) : smS s s = true := by
  unfold smS
  rw [smQ_same]
  simp
/-- TWO SNAPSHOTS THAT MAY BE HAVE THE SAME TEXT JUST IF THEY ARE THE SAME. -/
theorem apart_eq {a b : Sn} (ha : SnW a) (hb : SnW b) (ca : (chkS a).1 = 0) (cb : (chkS b).1 = 0) : decide ((exL (vlL a.p.toNat) a).flatten = (exL (vlL b.p.toNat) b).flatten) = smS a b := by
  cases hs : smS a b
  · apply decide_eq_false
    intro e
    have := ex_inj txI ha hb ca cb e
    rw [this, smS_same] at hs
    cases hs
  · apply decide_eq_true
    unfold smS at hs
    simp only [Bool.and_eq_true, decide_eq_true_eq] at hs
    obtain ⟨h1, h2, h3⟩ := hs
    have := smQ_one (p := a.p) (q := b.p) a.vs b.vs (fun x hx => ⟨ha.vs x hx, (chkS_z ca x hx).2⟩) (fun x hx => ⟨hb.vs x hx, (chkS_z cb x hx).2⟩) h3
    rw [sn_ext h1 this h2]
end Go.Proofs.YtkakanejiakbkaaGreatDoor
