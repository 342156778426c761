/- LISTS THAT ARE WRITTEN OVER AND APPENDED TO, in memory. Own work of the verifier. -/
import Derived.Test.YthghillefmppjaaP3
namespace Go.Proofs.Ythghillefmppjaa
open Go.RowKit

def rp (n : Nat) (m : Int) : List Int := List.replicate n m
theorem rp_len (n : Nat) (m : Int) : (rp n m).length = n := by simp [rp]
theorem rp_succ (n : Nat) (m : Int) : fli (rp (n + 1) m) = fli (rp n m) ++ [.int .i64 m] := by
  unfold rp
  rw [List.replicate_succ', fli_append]
  rfl
theorem rp_take (n k : Nat) (m : Int) : (fli (rp (n + k) m)).take (n * 1) = fli (rp n m) := by
  unfold rp
  rw [← List.replicate_append_replicate, fli_append, List.take_append_of_le_length (by rw [fli_len, List.length_replicate]; omega)]
  rw [List.take_of_length_le (by rw [fli_len, List.length_replicate]; omega)]
theorem rp_over (A : List Int) (m : Int) (q : Nat) (h : q < A.length) : (rp q m ++ A.drop q).set q m = rp (q + 1) m ++ A.drop (q + 1) := by
  unfold rp
  rw [List.set_append_right _ _ (by simp), List.replicate_succ', List.append_assoc, List.length_replicate, Nat.sub_self, List.drop_eq_getElem_cons h]
  rfl
/-- Two lists of the call's own, apart. -/
structure Tx (w : World) (x y : Value) (X Y : List Int) (W : World) : Prop where
  ox : OwnI w.heap.size x X W
  oy : OwnI w.heap.size y Y W
  ap : ∀ k, x.ownBlock = some k → y.ownBlock = some k → False
  bel : Below w.heap.size w W
theorem Tx.symm {w : World} {x y : Value} {X Y : List Int} {W : World} (h : Tx w x y X Y W) : Tx w y x Y X W := ⟨h.oy, h.ox, fun k a b => h.ap k b a, h.bel⟩
theorem Tx.bel' {w : World} {x y : Value} {X Y : List Int} {W W' : World} (h : Tx w x y X Y W) (hb : Below W.heap.size W W') : Tx w x y X Y W' := ⟨h.ox.bel hb, h.oy.bel hb, h.ap, bt h.bel hb⟩
theorem own_geI {B : Nat} {v : Value} {L : List Int} {W : World} (h : OwnI B v L W) (k : Nat) (hk : v.ownBlock = some k) : B ≤ k ∧ k < W.heap.size := World.ownsRow.lt h k hk
theorem Tx.set {w : World} {y : Value} {X Y : List Int} {W : World} {g n cap : Nat} (h : Tx w (.slice (some ⟨g, 0, none⟩) n cap) y X Y W) (q : Nat) (m : Int) (hn : X.length = n) : Tx w (.slice (some ⟨g, 0, none⟩) n cap) y (X.set q m) Y (W.setCell ⟨g, q, none⟩ (.int .i64 m)) := by
  subst hn
  have h1 : W.ownsRow w.heap.size 3 1 (.slice (some ⟨g, 0, none⟩) X.length cap) X.length (fli X) := h.ox
  obtain ⟨s1, g1⟩ := h1.stored q (.int .i64 m)
  have hg := own_geI h.ox g rfl
  refine ⟨?_, ?_, h.ap, ?_⟩
  · unfold OwnI
    rw [List.length_set]
    have e : fli (X.set q m) = (fli X).set q (.int .i64 m) := by unfold fli; rw [List.map_set]
    rw [e]
    exact s1
  · exact World.ownsRow.kept h.oy g1 (by
      rcases e : y.ownBlock with _ | k
      · left; rfl
      · right
        intro e2
        exact h.ap g rfl (by rw [e, e2]))
  · exact h.bel.trans ⟨g1.os, g1.tape, g1.output, g1.size, fun k hk => g1.block k (Nat.lt_of_lt_of_le hk h.bel.size) (fun e => by cases e; omega)⟩
/-- While both are appended to. -/
structure Tw (w : World) (x y u v : Value) (n m k : Nat) (a b : Int) (W : World) : Prop where
  ox : OwnI w.heap.size x (rp n a) W
  oy : OwnI w.heap.size y (rp n b) W
  ou : OwnI w.heap.size u (rp (n + m) a) W
  ov : OwnI w.heap.size v (rp (n + k) b) W
  ap : ∀ i, (x.ownBlock = some i ∨ u.ownBlock = some i) → (y.ownBlock = some i ∨ v.ownBlock = some i) → False
  bel : Below w.heap.size w W
theorem Tw.symm {w : World} {x y u v : Value} {n m k : Nat} {a b : Int} {W : World} (h : Tw w x y u v n m k a b W) : Tw w y x v u n k m b a W := ⟨h.oy, h.ox, h.ov, h.ou, fun i p q => h.ap i q p, h.bel⟩
theorem Tw.start {w : World} {x y : Value} {n : Nat} {a b : Int} {W : World} (h : Tx w x y (rp n a) (rp n b) W) : Tw w x y x y n 0 0 a b W := ⟨h.ox, h.oy, h.ox, h.oy, fun i p q => h.ap i (by rcases p with p | p <;> exact p) (by rcases q with q | q <;> exact q), h.bel⟩
theorem Tw.bel' {w : World} {x y u v : Value} {n m k : Nat} {a b : Int} {W W' : World} (h : Tw w x y u v n m k a b W) (hb : Below W.heap.size W W') : Tw w x y u v n m k a b W' := ⟨h.ox.bel hb, h.oy.bel hb, h.ou.bel hb, h.ov.bel hb, h.ap, bt h.bel hb⟩
theorem Tw.row {w : World} {x y u v : Value} {n m k : Nat} {a b : Int} {W W2 : World} (h : Tw w x y u v n m k a b W) (hb : Below W.heap.size W W2) : W2.ownsRow w.heap.size 3 1 u (n + m) (fli (rp (n + m) a)) := by
  have q : OwnI w.heap.size u (rp (n + m) a) W2 := h.ou.bel hb
  unfold OwnI at q
  rw [rp_len] at q
  exact q
theorem Tw.push {w : World} {x y u u' v : Value} {n m k : Nat} {a b : Int} {W W2 W3 : World} (h0 : Tw w x y u v n m k a b W) (ha : Below W.heap.size W W2)
    (hp : (∃ g cap, u = .slice (some ⟨g, 0, none⟩) (n + m) cap ∧ u' = .slice (some ⟨g, 0, none⟩) (n + m + 1) cap ∧ W3.ownsRow w.heap.size 3 1 u' (n + m + 1) (fli (rp (n + m) a) ++ [.int .i64 a]) ∧ W2.grownBy W3 (some g)) ∨ (W3.ownsRow W2.heap.size 3 1 u' (n + m + 1) (fli (rp (n + m) a) ++ [.int .i64 a]) ∧ Below W2.heap.size W2 W3)) :
    Tw w x y u' v n (m + 1) k a b W3 := by
  have h := h0.bel' ha
  clear h0
  rw [← rp_succ] at hp
  rcases hp with ⟨g, cap, rfl, rfl, hr, hg⟩ | ⟨hr, hB⟩
  · have hgB := own_geI h.ou g rfl
    have hy : y.ownBlock ≠ some g := fun e => h.ap g (Or.inr rfl) (Or.inl e)
    have hv : v.ownBlock ≠ some g := fun e => h.ap g (Or.inr rfl) (Or.inr e)
    refine ⟨?_, World.ownsRow.kept h.oy hg (Or.inr hy), ?_, World.ownsRow.kept h.ov hg (Or.inr hv), ?_, ?_⟩
    · by_cases e : x.ownBlock = some g
      · have hx : W2.ownsRow w.heap.size 3 1 x n (fli (rp n a)) := by have := h.ox; unfold OwnI at this; rw [rp_len] at this; exact this
        have hu : W2.ownsRow w.heap.size 3 1 (.slice (some ⟨g, 0, none⟩) (n + m) cap) (n + m) (fli (rp (n + m) a)) := by have := h.ou; unfold OwnI at this; rw [rp_len] at this; exact this
        unfold OwnI
        rw [rp_len]
        rcases hx.2 with ⟨q, _⟩ | ⟨g', cap', cur, q, _⟩
        · rw [q] at e; cases e
        · subst q
          cases e
          have hc := own_cap hx hu
          subst hc
          have := own_take hr (n := n) (by omega)
          rw [show n + m + 1 = n + (m + 1) by omega, rp_take] at this
          exact this
      · exact World.ownsRow.kept h.ox hg (Or.inr e)
    · unfold OwnI
      rw [rp_len]
      exact hr
    · intro i p q
      refine h.ap i ?_ q
      rcases p with p | p
      · exact Or.inl p
      · exact Or.inr p
    · exact h.bel.trans ⟨hg.os, hg.tape, hg.output, hg.size, fun k hk => hg.block k (Nat.lt_of_lt_of_le hk h.bel.size) (fun e => by cases e; omega)⟩
  · refine ⟨h.ox.bel hB, h.oy.bel hB, ?_, h.ov.bel hB, ?_, bt h.bel hB⟩
    · unfold OwnI
      rw [rp_len]
      exact own_leG hr h.bel.size
    · intro i p q
      rcases p with p | p
      · exact h.ap i (Or.inl p) q
      · have hi := (World.ownsRow.lt hr i p).1
        rcases q with q | q
        · have := (own_geI h.oy i q).2
          omega
        · have := (own_geI h.ov i q).2
          omega
theorem rp_cell {B g n cap : Nat} {m : Int} {W : World} (h : OwnI B (.slice (some ⟨g, 0, none⟩) n cap) (rp n m) W) (i : Nat) (hi : i < n) : W.cell? ⟨g, i, none⟩ = some (.int .i64 m) := by
  have h' : W.ownsRow B 3 1 (.slice (some ⟨g, 0, none⟩) n cap) n (fli (rp n m)) := by have := h; unfold OwnI at this; rw [rp_len] at this; exact this
  rw [h'.cellAt i (by omega)]
  unfold fli rp
  simp [hi]
theorem own_any {B g n cap : Nat} {L : List Int} {W : World} (h : OwnI B (.slice (some ⟨g, 0, none⟩) n cap) L W) (hL : L.length = n) (i : Nat) (hi : i < n) : (∃ u, W.cell? ⟨g, i, none⟩ = some u) ∧ W.frozen? ⟨g, i, none⟩ = false := by
  subst hL
  refine ⟨⟨_, OwnI.cell h i hi⟩, ?_⟩
  have h' : W.ownsRow B 3 1 (.slice (some ⟨g, 0, none⟩) L.length cap) L.length (fli L) := h
  exact h'.frozenAt _
end Go.Proofs.Ythghillefmppjaa
