/- LabelKeeps: writing over the lists told, in memory. Own work of the verifier. -/
import Derived.Test.YtmphajfhilpgeabKF6
namespace Go.Proofs.Ytmphajfhilpgeab
open Go.RowKit
/-- The lists told, those ahead of the i-th written over. -/
structure TM (w : World) (A : List Lb) (i : Nat) (told : Value) (Vs : List Value) (W : World) : Prop where
  row : W.ownsRow w.heap.size 22 1 told Vs.length Vs
  own : ∀ j (h : j < Vs.length), j < i → OwnL w.heap.size Vs[j] (reps A.length (mkN j, [])) W
  own' : ∀ j (h : j < Vs.length), i ≤ j → OwnL w.heap.size Vs[j] A W
  apart : Vs.Pairwise (fun a b => a.ownBlock = none ∨ a.ownBlock ≠ b.ownBlock)
  bl : Below w.heap.size w W
theorem TM.of {w : World} {A : List Lb} {told : Value} {Vs : List Value} {W : World} (h : TD w A told Vs W) : TM w A 0 told Vs W :=
  ⟨h.row, fun j _ k => absurd k (by omega), fun _ hj _ => h.own _ (List.getElem_mem hj), h.apart, h.bl⟩
theorem TM.te {w : World} {A : List Lb} {told : Value} {Vs : List Value} {W : World} (h : TM w A Vs.length told Vs W) : TE w A.length told Vs W :=
  ⟨h.row, fun j hj => h.own j hj hj, h.bl⟩
/-- Blocks of two lists told are apart. -/
theorem TM.two {w : World} {A : List Lb} {i : Nat} {told : Value} {Vs : List Value} {W : World} (h : TM w A i told Vs W) {j k : Nat} (hj : j < Vs.length) (hk : k < Vs.length) (hne : j ≠ k) : Vs[j].ownBlock = none ∨ Vs[j].ownBlock ≠ Vs[k].ownBlock := by
  rcases Nat.lt_or_ge j k with c | c
  · exact List.pairwise_iff_getElem.1 h.apart j k hj hk c
  · have hl : k < j := by omega
    rcases List.pairwise_iff_getElem.1 h.apart k j hk hj hl with q | q
    · rw [q]
      cases e : Vs[j].ownBlock <;> simp
    · exact Or.inr (fun e => q e.symm)
/-- One list is written over: all else has grown by its block alone. -/
theorem TM.step {w : World} {A : List Lb} {i : Nat} {told : Value} {Vs : List Value} {W W1 : World} (h : TM w A i told Vs W) (hi : i < Vs.length) (hg : W.grownBy W1 (Vs[i].ownBlock)) (ho : OwnL w.heap.size Vs[i] (reps A.length (mkN i, [])) W1) : TM w A (i + 1) told Vs W1 := by
  have hoi := h.own' i hi (Nat.le_refl _)
  refine ⟨?_, fun j hj hji => ?_, fun j hj hji => ?_, h.apart, ?_⟩
  · refine World.ownsRow.kept h.row hg ?_
    rcases own_apart hoi h.row (by decide) with q | q
    · rw [q]
      cases e : told.ownBlock <;> simp
    · exact Or.inr (fun e => q e.symm)
  · by_cases e : j = i
    · subst e
      exact ho
    · exact World.ownsRow.kept (h.own j hj (by omega)) hg (h.two hj hi e)
  · exact World.ownsRow.kept (h.own' j hj (by omega)) hg (h.two hj hi (by omega))
  · refine ⟨hg.os.trans h.bl.os, hg.tape.trans h.bl.tape, hg.output.trans h.bl.output, Nat.le_trans h.bl.size hg.size, fun k hk => (hg.block k (Nat.lt_of_lt_of_le hk h.bl.size) (fun e => ?_)).trans (h.bl.block k hk)⟩
    rcases own_at hoi with q | ⟨g, q, q1, _⟩
    · rw [q] at e; cases e
    · rw [q] at e
      cases e
      omega
/-- While 18 more are appended: the list told stays as it is within its length. -/
structure AP (w W1 : World) (v l : Value) (n k : Nat) (m : Lb) (W : World) : Prop where
  own : OwnL w.heap.size v (reps n m) W
  cur : OwnL w.heap.size l (reps (n + k) m) W
  grown : W1.grownBy W v.ownBlock
  at_ : l.ownBlock = none ∨ l.ownBlock = v.ownBlock ∨ ∃ g, l.ownBlock = some g ∧ W1.heap.size ≤ g
theorem reps_len (n : Nat) (m : Lb) : (reps n m).length = n := by simp [reps]
theorem AP.push {w W1 : World} {v l l' : Value} {n k : Nat} {m : Lb} {W W2 W3 : World} (h : AP w W1 v l n k m W) (hsz : w.heap.size ≤ W1.heap.size) (ha : Below W.heap.size W W2)
    (hp : (∃ g cap, l = .slice (some ⟨g, 0, none⟩) (n + k) cap ∧ l' = .slice (some ⟨g, 0, none⟩) (n + k + 1) cap ∧ W3.ownsRow w.heap.size 41 2 l' (n + k + 1) (flL (reps (n + k) m) ++ [.string ⟨m.1.toArray⟩, .string ⟨m.2.toArray⟩]) ∧ W2.grownBy W3 (some g)) ∨ (W3.ownsRow W2.heap.size 41 2 l' (n + k + 1) (flL (reps (n + k) m) ++ [.string ⟨m.1.toArray⟩, .string ⟨m.2.toArray⟩]) ∧ Below W2.heap.size W2 W3)) :
    AP w W1 v l' n (k + 1) m W3 := by
  have h2 : OwnL w.heap.size v (reps n m) W2 := h.own.below ha
  have h2c : OwnL w.heap.size l (reps (n + k) m) W2 := h.cur.below ha
  have g2 : W1.grownBy W2 v.ownBlock := grown_trans h.grown (grown_bel ha)
  have hb2 : w.heap.size ≤ W2.heap.size := Nat.le_trans hsz g2.size
  rw [← reps_succ] at hp
  unfold OwnL at h2 h2c
  rw [reps_len] at h2 h2c
  rcases hp with ⟨g, cap, rfl, rfl, hr, hg⟩ | ⟨hr, hB⟩
  · refine ⟨?_, ?_, ?_, ?_⟩
    · unfold OwnL
      rw [reps_len]
      by_cases e : v.ownBlock = some g
      · rcases h2.2 with ⟨q, _⟩ | ⟨g', cap', cur, q, _⟩
        · rw [q] at e; cases e
        · subst q
          cases e
          have hc := own_cap h2 h2c
          subst hc
          have := own_take hr (n := n) (by omega)
          rw [show n + k + 1 = n + (k + 1) by omega, flL_reps_take] at this
          exact this
      · exact World.ownsRow.kept h2 hg (Or.inr e)
    · unfold OwnL
      rw [reps_len]
      exact hr
    · refine grown_new g2 hg ?_
      rcases h.at_ with q | q | ⟨g', q, q1⟩
      · cases q
      · exact Or.inl q.symm
      · cases q
        exact Or.inr q1
    · exact h.at_
  · refine ⟨?_, ?_, grown_trans g2 (grown_bel hB), ?_⟩
    · have : OwnL w.heap.size v (reps n m) W2 := h.own.below ha
      exact this.below hB
    · unfold OwnL
      rw [reps_len]
      refine ⟨hr.1, ?_⟩
      rcases hr.2 with q | ⟨g, cap, cur, q, q1, q2⟩
      · exact Or.inl q
      · exact Or.inr ⟨g, cap, cur, q, Nat.le_trans hb2 q1, q2⟩
    · rcases own_at hr with q | ⟨g, q, q1, _⟩
      · exact Or.inl q
      · exact Or.inr (Or.inr ⟨g, q, Nat.le_trans g2.size q1⟩)
end Go.Proofs.Ytmphajfhilpgeab
