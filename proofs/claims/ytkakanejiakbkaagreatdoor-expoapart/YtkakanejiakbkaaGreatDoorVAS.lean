/- COUNTED, the law's own. Own work of the verifier. -/
import Derived.Test.YtkakanejiakbkaaGreatDoorVAP
import Derived.Test.YtkakanejiakbkaaGreatDoorVAQ
import Derived.Laws.OwnMore
namespace Go.Proofs.YtkakanejiakbkaaGreatDoor
open Go.RowKit

/-- Counts, value by value. -/
def ex (O : List Cn) : List Int := O.flatMap (fun c => List.replicate c.2 c.1)
/-- Counts that stand for a rising list of buckets. -/
structure CI (ks : List Int) (O : List Cn) : Prop where
  rise : Rise O
  pos : ∀ c ∈ O, 1 ≤ c.2
  all : ex O = ks
theorem ex_append (A B : List Cn) : ex (A ++ B) = ex A ++ ex B := List.flatMap_append
theorem ex_one (c : Cn) : ex [c] = List.replicate c.2 c.1 := by unfold ex; simp
theorem CI.mem {ks : List Int} {O : List Cn} (h : CI ks O) {c : Cn} (hc : c ∈ O) : c.1 ∈ ks := by
  rw [← h.all]
  exact List.mem_flatMap.2 ⟨c, hc, List.mem_replicate.2 ⟨by have := h.pos c hc; omega, rfl⟩⟩
theorem ex_length (O : List Cn) : (ex O).length = (O.map (·.2)).sum := by
  induction O with
  | nil => rfl
  | cons c O ih =>
    show (List.replicate c.2 c.1 ++ ex O).length = _
    rw [List.length_append, List.length_replicate, ih, List.map_cons, List.sum_cons]
theorem CI.len {ks : List Int} {O : List Cn} (h : CI ks O) : O.length ≤ ks.length := by
  rw [← h.all, ex_length]
  have hp := h.pos
  clear h
  induction O with
  | nil => exact Nat.le_refl _
  | cons c O ih =>
    rw [List.map_cons, List.sum_cons, List.length_cons]
    have := hp c List.mem_cons_self
    have := ih (fun d hd => hp d (List.mem_cons_of_mem _ hd))
    omega
/-- A bucket that is new. -/
theorem CI.fresh {ks : List Int} {O : List Cn} {k : Int} (h : CI ks O) (hk : ∀ x ∈ ks, x ≤ k) (hne : ∀ P c, O = P ++ [c] → c.1 ≠ k) : CI (ks ++ [k]) (O ++ [(k, 1)]) := by
  refine ⟨List.pairwise_append.2 ⟨h.rise, List.pairwise_singleton _ _, fun a ha b hb => ?_⟩, fun c hc => ?_, by rw [ex_append, h.all, ex_one]; rfl⟩
  · rw [List.mem_singleton.1 hb]
    show a.1 < k
    have hle := hk _ (h.mem ha)
    rcases Int.lt_or_eq_of_le hle with l | e
    · exact l
    · exfalso
      obtain ⟨P, c, hPc⟩ : ∃ P c, O = P ++ [c] := by
        rcases List.eq_nil_or_concat O with k0 | ⟨P, c, k1⟩
        · rw [k0] at ha; cases ha
        · exact ⟨P, c, by rw [k1]; simp⟩
      have hc := hne P c hPc
      have hle2 := hk _ (h.mem (c := c) (by rw [hPc]; simp))
      rw [hPc] at ha
      rcases List.mem_append.1 ha with m | m
      · have hr := h.rise
        rw [hPc] at hr
        have := (List.pairwise_append.1 hr).2.2 a m c (List.mem_singleton.2 rfl)
        omega
      · rw [List.mem_singleton.1 m] at e
        exact hc e
  · rcases List.mem_append.1 hc with m | m
    · exact h.pos c m
    · rw [List.mem_singleton.1 m]; exact Nat.le_refl _
/-- The bucket of a value. -/
def IxIs (p : Nat) (v k : Int) : Prop := ∃ x q : Nat, v = (x : Int) ∧ IsK (2 ^ p) x q ∧ k = (idx (2 ^ p) x q : Nat)
/-- The buckets of values. -/
def KsOf (p : Nat) (S ks : List Int) : Prop := ks.length = S.length ∧ ∀ i (a : i < ks.length) (b : i < S.length), IxIs p S[i] ks[i]
theorem fl_set (P : List Cn) (a : Int) (b c : Nat) : (fl (P ++ [(a, b)])).set (P.length * 2 + 1) (.int .u64 (c : Int)) = fl (P ++ [(a, c)]) := by
  induction P with
  | nil => rfl
  | cons d P ih =>
    rw [List.length_cons, show (P.length + 1) * 2 + 1 = P.length * 2 + 1 + 1 + 1 by omega, List.cons_append, List.cons_append]
    simp only [fl, List.set_cons_succ]
    rw [ih]
theorem GC.last {B : Nat} {W0 w : World} {g cap m : Nat} {P : List Cn} {a : Int} {b : Nat} (h : GC B W0 (.slice (some ⟨g, 0, none⟩) m cap) (P ++ [(a, b)]) w) : w.cell? ⟨g, P.length * 2, none⟩ = some (.int .i64 a) ∧ w.cell? ⟨g, P.length * 2 + 1, none⟩ = some (.int .u64 (b : Int)) ∧ (∀ o, w.frozen? ⟨g, o, none⟩ = false) ∧ B ≤ g := by
  obtain ⟨ao, b', o, cap', hv, hao, hr⟩ := h.sc
  have hne : P ++ [(a, b)] ≠ [] := by simp
  obtain rfl := hao hne
  cases hv
  have hi : P.length < (P ++ [(a, b)]).length := by simp
  have h1 := hr P.length hi
  have hg : (P ++ [(a, b)])[P.length] = (a, b) := by simp
  rw [hg, Nat.zero_add] at h1
  refine ⟨h1.1, h1.2, ?_, ?_⟩
  · rcases h.own.2 with ⟨k, _⟩ | ⟨g2, cap2, cur, hv2, hB, hh, _⟩
    · cases k
    · cases hv2
      intro o
      unfold World.frozen?
      rw [hh]
      simp
  · rcases h.own.2 with ⟨k, _⟩ | ⟨g2, cap2, cur, hv2, hB, hh, _⟩
    · cases k
    · cases hv2
      exact hB
theorem GC.put {B : Nat} {W0 w : World} {g cap m : Nat} {P : List Cn} {a : Int} {b : Nat} (h : GC B W0 (.slice (some ⟨g, 0, none⟩) m cap) (P ++ [(a, b)]) w) (c : Nat) : GC B W0 (.slice (some ⟨g, 0, none⟩) m cap) (P ++ [(a, c)]) (w.setCell ⟨g, P.length * 2 + 1, none⟩ (.int .u64 (c : Int))) := by
  obtain ⟨ao, b', o, cap', hv, hao, hr⟩ := h.sc
  cases hv
  have hs := h.own.stored (P.length * 2 + 1) (.int .u64 (c : Int))
  rw [fl_set] at hs
  refine ⟨?_, h.below.setCell h.last.2.2.2 _, ?_⟩
  · have := hs.1
    have e1 : (P ++ [(a, c)]).length = (P ++ [(a, b)]).length := by rw [List.length_append, List.length_append]; rfl
    rw [e1]
    exact this
  · have := hs.2.size
    have := h.size
    omega
theorem KsOf.mem {p : Nat} {S ks : List Int} (h : KsOf p S ks) {k : Int} (hk : k ∈ ks) : ∃ v ∈ S, IxIs p v k := by
  obtain ⟨i, hi, rfl⟩ := List.mem_iff_getElem.1 hk
  have hi' : i < S.length := by rw [← h.1]; exact hi
  exact ⟨_, List.getElem_mem hi', h.2 i hi hi'⟩
end Go.Proofs.YtkakanejiakbkaaGreatDoor
/- WHAT COUNTED COUNTS COME TO: ranks, quantiles. Own work of the verifier. -/
namespace Go.Proofs.YtkakanejiakbkaaGreatDoor
open Go.RowKit

theorem ex_cons (c : Cn) (O : List Cn) : ex (c :: O) = List.replicate c.2 c.1 ++ ex O := List.flatMap_cons
theorem atF_ex : ∀ (O : List Cn) (r : Nat) (_ : 1 ≤ r) (h : r - 1 < (ex O).length), atF O r = ((ex O)[r - 1], 0)
  | [], r, _, h => by simp [ex] at h
  | c :: O, r, h1, h => by
    simp only [atF]
    rw [if_neg (by omega)]
    have e := ex_cons c O
    by_cases k : r ≤ c.2
    · rw [if_pos k]
      have g : (ex (c :: O))[r - 1] = c.1 := by
        rw [List.getElem_of_eq e, List.getElem_append_left (by rw [List.length_replicate]; omega), List.getElem_replicate]
      rw [g]
    · rw [if_neg k]
      have hl : (ex (c :: O)).length = c.2 + (ex O).length := by rw [e, List.length_append, List.length_replicate]
      rw [atF_ex O (r - c.2) (by omega) (by omega)]
      have g : (ex (c :: O))[r - 1] = (ex O)[r - c.2 - 1]'(by omega) := by
        rw [List.getElem_of_eq e, List.getElem_append_right (by rw [List.length_replicate]; omega)]
        congr 1
        rw [List.length_replicate]
        omega
      rw [g]
theorem CI.sum {ks : List Int} {O : List Cn} (h : CI ks O) : sumN O = ks.length := by rw [← h.all, ex_length]; rfl
theorem CI.at {ks : List Int} {O : List Cn} (h : CI ks O) {r : Nat} (h1 : 1 ≤ r) (h2 : r - 1 < ks.length) : atF O r = (ks[r - 1], 0) := by
  have e := h.all
  subst e
  exact atF_ex O r h1 h2
end Go.Proofs.YtkakanejiakbkaaGreatDoor
/- WITHIN, the law's own, for whatever AtMost does. Own work of the verifier. -/
namespace Go.Proofs.YtkakanejiakbkaaGreatDoor
open Go.RowKit

end Go.Proofs.YtkakanejiakbkaaGreatDoor
/- THE WALK OF THE QUANTILES' LAW, for whatever keeps the document's answers. Own work of the verifier. -/
namespace Go.Proofs.YtkakanejiakbkaaGreatDoor
open Go.RowKit

/-- A row of counts behind an address. -/
def RowA (w : World) (a : Addr) (L : List Cn) : Prop := ∀ j u, (fl L)[j]? = some u → w.cell? (a.add j) = some u
theorem RowA.below {w w1 : World} {a : Addr} {L : List Cn} (h : RowA w a L) (hb : Below w.heap.size w w1) : RowA w1 a L := fun j u hu => (hb.cell (lt_of_cell (h j u hu))).trans (h j u hu)
theorem RowA.nil (w : World) (a : Addr) : RowA w a [] := fun j u hu => by simp [fl] at hu
theorem RowA.row {w : World} {a : Addr} {L : List Cn} (h : RowA w a L) (hne : L ≠ []) : ∃ b o, a = ⟨b, o, none⟩ ∧ RowC w b o L := by
  have h0 : 0 < L.length := List.length_pos_iff.2 hne
  obtain ⟨b, o, s⟩ := a
  have hs : s = none := by
    have := World.cell?_spot (h (0 * 2) _ (fl_get L 0 h0).1)
    simpa [Addr.add] using this
  subst hs
  refine ⟨b, o, rfl, fun i hi => ?_⟩
  obtain ⟨g1, g2⟩ := fl_get L i hi
  have r1 := h _ _ g1
  have r2 := h _ _ g2
  rw [Addr.add_lit] at r1 r2
  exact ⟨r1, by rw [← Nat.add_assoc] at r2; exact r2⟩
/-- A slice of counts, as it is handed in. -/
def SN (w : World) (v : Value) (L : List Cn) : Prop := (v = .slice none 0 0 ∧ L = []) ∨ ∃ a cap, v = .slice (some a) L.length cap ∧ L.length ≤ cap ∧ RowA w a L
theorem SN.sc2 {w : World} {v : Value} {L : List Cn} (h : SN w v L) : ∃ ao b o cap, v = .slice ao L.length cap ∧ (L ≠ [] → ao = some ⟨b, o, none⟩) ∧ RowC w b o L ∧ L.length ≤ cap := by
  rcases h with ⟨rfl, rfl⟩ | ⟨a, cap, rfl, hc, hr⟩
  · exact ⟨none, 0, 0, 0, rfl, fun k => absurd rfl k, (fun i hi => by simp at hi), Nat.zero_le _⟩
  · by_cases hne : L = []
    · subst hne
      exact ⟨some a, 0, 0, cap, rfl, fun k => absurd rfl k, (fun i hi => by simp at hi), hc⟩
    · obtain ⟨b, o, e, hr2⟩ := hr.row hne
      exact ⟨_, b, o, cap, rfl, fun _ => by rw [e], hr2, hc⟩
theorem SN.sc {w : World} {v : Value} {L : List Cn} (h : SN w v L) : SC w v L := by
  obtain ⟨ao, b, o, cap, h1, h2, h3, _⟩ := h.sc2
  exact ⟨ao, b, o, cap, h1, h2, h3⟩
theorem SN.below {w w1 : World} {v : Value} {L : List Cn} (h : SN w v L) (hb : Below w.heap.size w w1) : SN w1 v L := by
  rcases h with h | ⟨a, cap, h1, h2, hr⟩
  · exact Or.inl h
  · exact Or.inr ⟨a, cap, h1, h2, hr.below hb⟩
end Go.Proofs.YtkakanejiakbkaaGreatDoor
