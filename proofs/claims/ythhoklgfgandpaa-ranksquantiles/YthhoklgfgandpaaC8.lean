/- ROWS OF COUNTS that grow. Own work of the verifier. -/
import Derived.Test.YthhoklgfgandpaaC7
import Derived.Maps.AppendAt
import Derived.Deep.AppendLies
namespace Go.Proofs.Ythhoklgfgandpaa
open Go.RowKit

/-- The cells of counts. -/
def fl : List Cn → List Value
  | [] => []
  | c :: L => .int .i64 c.1 :: .int .u64 (c.2 : Int) :: fl L
theorem fl_length (L : List Cn) : (fl L).length = L.length * 2 := by
  induction L with
  | nil => rfl
  | cons c L ih => simp only [fl, List.length_cons, ih]; omega
theorem fl_append (A B : List Cn) : fl (A ++ B) = fl A ++ fl B := by
  induction A with
  | nil => rfl
  | cons c A ih => simp only [List.cons_append, fl, ih]
theorem fl_get (L : List Cn) (i : Nat) (h : i < L.length) : (fl L)[i * 2]? = some (.int .i64 L[i].1) ∧ (fl L)[i * 2 + 1]? = some (.int .u64 (L[i].2 : Int)) := by
  induction L generalizing i with
  | nil => simp at h
  | cons c L ih =>
    cases i with
    | zero => exact ⟨rfl, rfl⟩
    | succ i =>
      have := ih i (by simpa using h)
      rw [show (i + 1) * 2 = i * 2 + 2 by omega]
      simpa [fl] using this
theorem fl_one (L : List Cn) : ∀ u ∈ fl L, u.oneCell' = true := by
  induction L with
  | nil => intro u hu; cases hu
  | cons c L ih =>
    intro u hu
    simp only [fl, List.mem_cons] at hu
    rcases hu with rfl | rfl | h
    · rfl
    · rfl
    · exact ih u h
/-- What a row holds, cell by cell. -/
theorem RowC.cells {w : World} {b o : Nat} {L : List Cn} (h : RowC w b o L) (j : Nat) (u : Value) (hu : (fl L)[j]? = some u) : w.cell? ((⟨b, o, none⟩ : Addr).add j) = some u := by
  have hj : j < (fl L).length := by
    rcases Nat.lt_or_ge j (fl L).length with c | c
    · exact c
    · rw [List.getElem?_eq_none c] at hu; cases hu
  rw [fl_length] at hj
  rw [Addr.add_lit]
  have hi : j / 2 < L.length := by omega
  obtain ⟨g1, g2⟩ := fl_get L (j / 2) hi
  obtain ⟨r1, r2⟩ := h (j / 2) hi
  rcases Nat.mod_two_eq_zero_or_one j with e | e
  · rw [show j / 2 * 2 = j by omega] at g1 r1
    rw [g1] at hu
    rw [← hu]
    exact r1
  · rw [show j / 2 * 2 + 1 = j by omega] at g2
    rw [show o + j / 2 * 2 + 1 = o + j by omega] at r2
    rw [g2] at hu
    rw [← hu]
    exact r2
/-- A row of counts of the call's own that grows. -/
structure GC (B : Nat) (W0 : World) (v : Value) (xs : List Cn) (w : World) : Prop where
  own : w.ownsRow B 49 2 v xs.length (fl xs)
  below : Below B W0 w
  size : B ≤ w.heap.size
theorem infoC : (Try.prog.info? 49).map (fun i => (i.zero, i.size, i.bytes)) = some (some (.agg #[.int .i64 0, .int .u64 0]), 2, 16) := by kernel_rfl
/-- A slice that holds counts. -/
def SC (w : World) (v : Value) (L : List Cn) : Prop := ∃ ao b o cap, v = .slice ao L.length cap ∧ (L ≠ [] → ao = some ⟨b, o, none⟩) ∧ RowC w b o L
theorem GC.sc {B : Nat} {W0 w : World} {v : Value} {xs : List Cn} (h : GC B W0 v xs w) : SC w v xs := by
  obtain ⟨hl, h2⟩ := h.own
  rcases h2 with ⟨rfl, hn⟩ | ⟨g, cap, cur, rfl, hg, hh, hc, hm, hs, ht⟩
  · have : xs = [] := List.length_eq_zero_iff.1 hn
    subst this
    exact ⟨none, 0, 0, 0, rfl, fun k => absurd rfl k, fun i hi => by simp at hi⟩
  · refine ⟨some ⟨g, 0, none⟩, g, 0, cap, rfl, fun _ => rfl, fun i hi => ?_⟩
    obtain ⟨g1, g2⟩ := fl_get xs i hi
    have key : ∀ j u, (fl xs)[j]? = some u → w.cell? ⟨g, 0 + j, none⟩ = some u := fun j u hu => by
      rw [← ht] at hu
      rw [List.getElem?_take] at hu
      unfold World.cell?
      rw [hh]
      split at hu
      · simpa using hu
      · cases hu
    exact ⟨key _ _ g1, by have := key _ _ g2; rw [← Nat.add_assoc] at this; exact this⟩
theorem SC.below {w w1 : World} {v : Value} {L : List Cn} (h : SC w v L) (hb : Below w.heap.size w w1) : SC w1 v L := by
  obtain ⟨ao, b, o, cap, h1, h2, h3⟩ := h
  exact ⟨ao, b, o, cap, h1, h2, h3.below hb (fun k => h3.lt k)⟩
end Go.Proofs.Ythhoklgfgandpaa
