/- LabelKeeps: the lists that were told, in memory. Own work of the verifier. -/
import Derived.Test.YtmphajfhilpgeabKF0
namespace Go.Proofs.Ytmphajfhilpgeab
open Go.RowKit
/-- The labels that Parse tells. -/
def labsOf (t : List UInt8) : List Lb :=
  match parR t with
  | .ok (_, L) => L
  | .error _ => []
theorem parse_one (t : List UInt8) (ht : t.length ≤ 140737488351232) (W : World) :
    Calls Try.prog 10 #[.string ⟨t.toArray⟩] W fun r w' => (∃ (n : List UInt8) (ao : Option Addr) (m cap : Nat) (z : Int) (k : Int), r = .returned (.tuple #[.string ⟨n.toArray⟩, .slice ao m cap, .int .i64 z, .int .i64 k]) ∧ OwnL W.heap.size (.slice ao m cap) (labsOf t) w') ∧ Below W.heap.size W w' := by
  refine (cparse_any t (by omega) W).mono ?_
  rintro r w' ⟨h, hb⟩
  refine ⟨?_, hb⟩
  rcases h with ⟨z, k, ho, _, rfl⟩ | ⟨n, A, v, ho, rfl, hown⟩
  · refine ⟨[], none, 0, 0, z, k, rfl, ?_⟩
    have e : labsOf t = [] := by unfold labsOf; rw [ho]
    rw [e]
    exact OwnL.nil _ _
  · obtain ⟨ao, b, cap, rfl, _⟩ := hown.open
    refine ⟨n, ao, A.length, cap, 0, 0, rfl, ?_⟩
    have e : labsOf t = A := by unfold labsOf; rw [ho]
    rw [e]
    exact hown
theorem own_at {W : World} {B : Nat} {e : TypeId} {s n : Nat} {v : Value} {xs : List Value} (h : W.ownsRow B e s v n xs) : v.ownBlock = none ∨ ∃ g, v.ownBlock = some g ∧ B ≤ g ∧ g < W.heap.size := by
  rcases h.2 with ⟨h1, _⟩ | ⟨g, cap, cur, hv, hg, hh, _⟩
  · left
    rw [h1]
    rfl
  · right
    refine ⟨g, by rw [hv]; rfl, hg, ?_⟩
    rcases Nat.lt_or_ge g W.heap.size with c | c
    · exact c
    · rw [Array.getElem?_eq_none c] at hh
      cases hh
/-- The lists that were told: a row of the call's own, each list its own, all apart. -/
structure TD (w : World) (A : List Lb) (told : Value) (Vs : List Value) (W : World) : Prop where
  row : W.ownsRow w.heap.size 22 1 told Vs.length Vs
  own : ∀ v ∈ Vs, OwnL w.heap.size v A W
  apart : Vs.Pairwise (fun a b => a.ownBlock = none ∨ a.ownBlock ≠ b.ownBlock)
  bl : Below w.heap.size w W
theorem TD.below {w : World} {A : List Lb} {told : Value} {Vs : List Value} {W W1 : World} (h : TD w A told Vs W) (hb : Below W.heap.size W W1) : TD w A told Vs W1 :=
  ⟨World.ownsRow.kept (row := none) h.row (grown_bel hb) (by cases e : told.ownBlock <;> simp), fun v hv => (h.own v hv).below hb, h.apart, h.bl.trans (hb.mono h.bl.size)⟩
theorem TD.push {w : World} {A : List Lb} {told told' v : Value} {Vs : List Value} {W W2 W3 W4 : World} (h : TD w A told Vs W) (hb : Below W.heap.size W W2) (hv : OwnL W.heap.size v A W2) (ha : Below W2.heap.size W2 W3)
    (hp : (∃ g cap, told = .slice (some ⟨g, 0, none⟩) Vs.length cap ∧ told' = .slice (some ⟨g, 0, none⟩) (Vs.length + 1) cap ∧ W4.ownsRow w.heap.size 22 1 told' (Vs.length + 1) (Vs ++ [v]) ∧ W3.grownBy W4 (some g)) ∨ (W4.ownsRow W3.heap.size 22 1 told' (Vs.length + 1) (Vs ++ [v]) ∧ Below W3.heap.size W3 W4)) :
    TD w A told' (Vs ++ [v]) W4 := by
  have h3 : TD w A told Vs W3 := (h.below hb).below ha
  have hv3 : OwnL W.heap.size v A W3 := hv.below ha
  have hvw : OwnL w.heap.size v A W3 := hv3.mono h.bl.size
  have hap : (Vs ++ [v]).Pairwise (fun a b => a.ownBlock = none ∨ a.ownBlock ≠ b.ownBlock) := by
    rw [List.pairwise_append]
    refine ⟨h.apart, List.pairwise_singleton _ _, ?_⟩
    intro a ha' b hb'
    rw [List.mem_singleton] at hb'
    subst hb'
    rcases own_at (h.own a ha') with q | ⟨g, q, _, q2⟩
    · exact Or.inl q
    · right
      rcases own_at hv3 with p | ⟨g', p, p1, _⟩
      · rw [q, p]; simp
      · rw [q, p]
        intro k
        cases k
        omega
  have hall : ∀ u ∈ Vs ++ [v], OwnL w.heap.size u A W3 := by
    intro u hu
    rw [List.mem_append, List.mem_singleton] at hu
    rcases hu with hu | rfl
    · exact h3.own u hu
    · exact hvw
  rcases hp with ⟨g, cap, e1, e2, hr, hg⟩ | ⟨hr, hB⟩
  · refine ⟨by rw [List.length_append]; exact hr, fun u hu => ?_, hap, ?_⟩
    · have q := hall u hu
      refine World.ownsRow.kept (row := some g) q hg ?_
      have := own_apart q h3.row (by decide)
      rw [e1] at this
      exact this
    · have hgB : w.heap.size ≤ g := by
        rcases own_at h3.row with q | ⟨g', q, q1, _⟩
        · rw [e1] at q; cases q
        · rw [e1] at q; cases q; exact q1
      exact ⟨hg.os.trans h3.bl.os, hg.tape.trans h3.bl.tape, hg.output.trans h3.bl.output, Nat.le_trans h3.bl.size hg.size, fun k hk => (hg.block k (Nat.lt_of_lt_of_le hk h3.bl.size) (fun e => by cases e; omega)).trans (h3.bl.block k hk)⟩
  · refine ⟨?_, fun u hu => (hall u hu).below hB, hap, h3.bl.trans (hB.mono h3.bl.size)⟩
    rw [List.length_append]
    refine ⟨hr.1, ?_⟩
    rcases hr.2 with q | ⟨g, cap, cur, q, q1, q2⟩
    · exact Or.inl q
    · exact Or.inr ⟨g, cap, cur, q, Nat.le_trans h3.bl.size q1, q2⟩
theorem TD.new (w W : World) (hb : Below w.heap.size w W) (A : List Lb) : TD w A (.slice (some ⟨W.heap.size, 0, none⟩) 0 0) [] (W.alloc (.cells #[] 22)) := by
  refine ⟨⟨rfl, Or.inr ⟨W.heap.size, 0, #[], rfl, hb.size, (by show (W.heap.push _)[W.heap.size]? = _; exact Array.getElem?_push_size), Nat.le_refl _, Nat.zero_le _, rfl, rfl⟩⟩, fun v hv => ?_, List.Pairwise.nil, hb.trans ((bel1 W _).mono hb.size)⟩
  simp at hv
end Go.Proofs.Ytmphajfhilpgeab
