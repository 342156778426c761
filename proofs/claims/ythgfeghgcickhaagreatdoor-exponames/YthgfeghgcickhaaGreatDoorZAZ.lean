/- COUNTED, the law's own. Own work of the verifier. -/
import Derived.Test.YthgfeghgcickhaaGreatDoorZAW
import Derived.Test.YthgfeghgcickhaaGreatDoorZAX
import Derived.Laws.OwnMore
namespace Go.Proofs.YthgfeghgcickhaaGreatDoor
open Go.RowKit

/-- Counts, value by value. -/
def ex (O : List Cn) : List Int := O.flatMap (fun c => List.replicate c.2 c.1)
/-- Counts that stand for a rising list of buckets. -/
structure CI (ks : List Int) (O : List Cn) : Prop where
  rise : Rise O
  pos : ∀ c ∈ O, 1 ≤ c.2
  all : ex O = ks
theorem ex_length (O : List Cn) : (ex O).length = (O.map (·.2)).sum := by
  induction O with
  | nil => rfl
  | cons c O ih =>
    show (List.replicate c.2 c.1 ++ ex O).length = _
    rw [List.length_append, List.length_replicate, ih, List.map_cons, List.sum_cons]
theorem CI.len {ks : List Int} {O : List Cn} (h : CI ks O) : O.length ≤ ks.length := by
  rw [← h.all, ex_length]
  have hp := h.pos
  clear h
  induction O with
  | nil => exact Nat.le_refl _
  | cons c O ih =>
    rw [List.map_cons, List.sum_cons, List.length_cons]
    have := hp c List.mem_cons_self
    have := ih (fun d hd => hp d (List.mem_cons_of_mem _ hd))
    omega
theorem fl_set (P : List Cn) (a : Int) (b c : Nat) : (fl (P ++ [(a, b)])).set (P.length * 2 + 1) (.int .u64 (c : Int)) = fl (P ++ [(a, c)]) := by
  induction P with
  | nil => rfl
  | cons d P ih =>
    rw [List.length_cons, show (P.length + 1) * 2 + 1 = P.length * 2 + 1 + 1 + 1 by omega, List.cons_append, List.cons_append]
    simp only [fl, List.set_cons_succ]
    rw [ih]
theorem GC.last {B : Nat} {W0 w : World} {g cap m : Nat} {P : List Cn} {a : Int} {b : Nat} (h : GC B W0 (.slice (some ⟨g, 0, none⟩) m cap) (P ++ [(a, b)]) w) : w.cell? ⟨g, P.length * 2, none⟩ = some (.int .i64 a) ∧ w.cell? ⟨g, P.length * 2 + 1, none⟩ = some (.int .u64 (b : Int)) ∧ (∀ o, w.frozen? ⟨g, o, none⟩ = false) ∧ B ≤ g := by
  obtain ⟨ao, b', o, cap', hv, hao, hr⟩ := h.sc
  have hne : P ++ [(a, b)] ≠ [] := by simp
  obtain rfl := hao hne
  cases hv
  have hi : P.length < (P ++ [(a, b)]).length := by simp
  have h1 := hr P.length hi
  have hg : (P ++ [(a, b)])[P.length] = (a, b) := by simp
  rw [hg, Nat.zero_add] at h1
  refine ⟨h1.1, h1.2, ?_, ?_⟩
  · rcases h.own.2 with ⟨k, _⟩ | ⟨g2, cap2, cur, hv2, hB, hh, _⟩
    · cases k
    · cases hv2
      intro o
      unfold World.frozen?
      rw [hh]
      simp
  · rcases h.own.2 with ⟨k, _⟩ | ⟨g2, cap2, cur, hv2, hB, hh, _⟩
    · cases k
    · cases hv2
      exact hB
theorem GC.put {B : Nat} {W0 w : World} {g cap m : Nat} {P : List Cn} {a : Int} {b : Nat} (h : GC B W0 (.slice (some ⟨g, 0, none⟩) m cap) (P ++ [(a, b)]) w) (c : Nat) : GC B W0 (.slice (some ⟨g, 0, none⟩) m cap) (P ++ [(a, c)]) (w.setCell ⟨g, P.length * 2 + 1, none⟩ (.int .u64 (c : Int))) := by
  obtain ⟨ao, b', o, cap', hv, hao, hr⟩ := h.sc
  cases hv
  have hs := h.own.stored (P.length * 2 + 1) (.int .u64 (c : Int))
  rw [fl_set] at hs
  refine ⟨?_, h.below.setCell h.last.2.2.2 _, ?_⟩
  · have := hs.1
    have e1 : (P ++ [(a, c)]).length = (P ++ [(a, b)]).length := by rw [List.length_append, List.length_append]; rfl
    rw [e1]
    exact this
  · have := hs.2.size
    have := h.size
    omega
end Go.Proofs.YthgfeghgcickhaaGreatDoor
/- WHAT COUNTED COUNTS COME TO: ranks, quantiles. Own work of the verifier. -/
namespace Go.Proofs.YthgfeghgcickhaaGreatDoor
open Go.RowKit

theorem ex_cons (c : Cn) (O : List Cn) : ex (c :: O) = List.replicate c.2 c.1 ++ ex O := List.flatMap_cons
theorem atF_ex : ∀ (O : List Cn) (r : Nat) (_ : 1 ≤ r) (h : r - 1 < (ex O).length), atF O r = ((ex O)[r - 1], 0)
  | [], r, _, h => by simp [ex] at h
  | c :: O, r, h1, h => by
    simp only [atF]
    rw [if_neg (by omega)]
    have e := ex_cons c O
    by_cases k : r ≤ c.2
    · rw [if_pos k]
      have g : (ex (c :: O))[r - 1] = c.1 := by
        rw [List.getElem_of_eq e, List.getElem_append_left (by rw [List.length_replicate]; omega), List.getElem_replicate]
      rw [g]
    · rw [if_neg k]
      have hl : (ex (c :: O)).length = c.2 + (ex O).length := by rw [e, List.length_append, List.length_replicate]
      rw [atF_ex O (r - c.2) (by omega) (by omega)]
      have g : (ex (c :: O))[r - 1] = (ex O)[r - c.2 - 1]'(by omega) := by
        rw [List.getElem_of_eq e, List.getElem_append_right (by rw [List.length_replicate]; omega)]
        congr 1
        rw [List.length_replicate]
        omega
      rw [g]
theorem CI.sum {ks : List Int} {O : List Cn} (h : CI ks O) : sumN O = ks.length := by rw [← h.all, ex_length]; rfl
theorem CI.at {ks : List Int} {O : List Cn} (h : CI ks O) {r : Nat} (h1 : 1 ≤ r) (h2 : r - 1 < ks.length) : atF O r = (ks[r - 1], 0) := by
  have e := h.all
  subst e
  exact atF_ex O r h1 h2
end Go.Proofs.YthgfeghgcickhaaGreatDoor
/- WITHIN, the law's own, for whatever AtMost does. Own work of the verifier. -/
namespace Go.Proofs.YthgfeghgcickhaaGreatDoor
open Go.RowKit

end Go.Proofs.YthgfeghgcickhaaGreatDoor
