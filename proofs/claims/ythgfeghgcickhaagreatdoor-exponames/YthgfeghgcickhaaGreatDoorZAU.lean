/- exact and less: the law's own. Own work of the verifier. -/
import Derived.Test.YthgfeghgcickhaaGreatDoorZAT
import Derived.Maps.AppendAt
import Derived.Deep.AppendLies
namespace Go.Proofs.YthgfeghgcickhaaGreatDoor
open Go.RowKit

end Go.Proofs.YthgfeghgcickhaaGreatDoor
/- exact: the law's own. Own work of the verifier. -/
namespace Go.Proofs.YthgfeghgcickhaaGreatDoor
open Go.RowKit

end Go.Proofs.YthgfeghgcickhaaGreatDoor
/- AtMost, Quantile, the document's. Own work of the verifier. -/
namespace Go.Proofs.YthgfeghgcickhaaGreatDoor
open Go.RowKit

/-- The greatest value of a bucket. -/
def hiV (p i : Nat) : Nat := lo (2 ^ p) i + 2 ^ kk (2 ^ p) i - 1
/-- Counts that may be. -/
theorem may_ok {p : Int} {L : List Cn} (h : MayIs p L 0) : (1 ≤ p ∧ p ≤ 14) ∧ sumN L ≤ 9223372036854775807 ∧ ∀ i (hi : i < L.length), 0 ≤ L[i].1 ∧ L[i].1 < (((64 - p.toNat) * 2 ^ p.toNat : Nat) : Int) ∧ L[i].2 ≠ 0 := by
  rcases h with ⟨_, h⟩ | ⟨hp, h⟩
  · exact absurd h (by decide)
  · rcases h with ⟨i, _, _, h3, h4⟩ | ⟨h1, h2⟩
    · exact absurd h4.symm h3
    · refine ⟨hp, ?_, fun i hi => ?_⟩
      · by_cases c : 9223372036854775807 < sumN L
        · rw [if_pos c] at h2; exact absurd h2 (by decide)
        · omega
      · have hb := h1 i hi
        unfold bad at hb
        rw [show L.getD i (0, 1) = L[i] from by simp [List.getD, hi]] at hb
        by_cases c1 : L[i].1 < 0 ∨ (((64 - p.toNat) * 2 ^ p.toNat : Nat) : Int) ≤ L[i].1
        · rw [if_pos c1] at hb; exact absurd hb (by decide)
        · rw [if_neg c1] at hb
          by_cases c2 : 0 < i ∧ L[i].1 ≤ (L.getD (i - 1) (0, 1)).1
          · rw [if_pos c2] at hb; exact absurd hb (by decide)
          · rw [if_neg c2] at hb
            by_cases c3 : L[i].2 = 0
            · rw [if_pos c3] at hb; exact absurd hb (by decide)
            · exact ⟨by omega, by omega, c3⟩
end Go.Proofs.YthgfeghgcickhaaGreatDoor
/- Quantile, the document's. Own work of the verifier. -/
namespace Go.Proofs.YthgfeghgcickhaaGreatDoor
open Go.RowKit

theorem bt {w W W1 : World} (h : Below w.heap.size w W) (k : Below W.heap.size W W1) : Below w.heap.size w W1 := h.trans (k.mono h.size)
end Go.Proofs.YthgfeghgcickhaaGreatDoor
/- ROWS OF COUNTS that grow. Own work of the verifier. -/
namespace Go.Proofs.YthgfeghgcickhaaGreatDoor
open Go.RowKit

/-- The cells of counts. -/
def fl : List Cn → List Value
  | [] => []
  | c :: L => .int .i64 c.1 :: .int .u64 (c.2 : Int) :: fl L
theorem fl_length (L : List Cn) : (fl L).length = L.length * 2 := by
  induction L with
  | nil => rfl
  | cons c L ih => simp only [fl, List.length_cons, ih]; omega
theorem fl_append (A B : List Cn) : fl (A ++ B) = fl A ++ fl B := by
  induction A with
  | nil => rfl
  | cons c A ih => simp only [List.cons_append, fl, ih]
theorem fl_get (L : List Cn) (i : Nat) (h : i < L.length) : (fl L)[i * 2]? = some (.int .i64 L[i].1) ∧ (fl L)[i * 2 + 1]? = some (.int .u64 (L[i].2 : Int)) := by
  induction L generalizing i with
  | nil => simp at h
  | cons c L ih =>
    cases i with
    | zero => exact ⟨rfl, rfl⟩
    | succ i =>
      have := ih i (by simpa using h)
      rw [show (i + 1) * 2 = i * 2 + 2 by omega]
      simpa [fl] using this
/-- What a row holds, cell by cell. -/
theorem RowC.cells {w : World} {b o : Nat} {L : List Cn} (h : RowC w b o L) (j : Nat) (u : Value) (hu : (fl L)[j]? = some u) : w.cell? ((⟨b, o, none⟩ : Addr).add j) = some u := by
  have hj : j < (fl L).length := by
    rcases Nat.lt_or_ge j (fl L).length with c | c
    · exact c
    · rw [List.getElem?_eq_none c] at hu; cases hu
  rw [fl_length] at hj
  rw [Addr.add_lit]
  have hi : j / 2 < L.length := by omega
  obtain ⟨g1, g2⟩ := fl_get L (j / 2) hi
  obtain ⟨r1, r2⟩ := h (j / 2) hi
  rcases Nat.mod_two_eq_zero_or_one j with e | e
  · rw [show j / 2 * 2 = j by omega] at g1 r1
    rw [g1] at hu
    rw [← hu]
    exact r1
  · rw [show j / 2 * 2 + 1 = j by omega] at g2
    rw [show o + j / 2 * 2 + 1 = o + j by omega] at r2
    rw [g2] at hu
    rw [← hu]
    exact r2
/-- A row of counts of the call's own that grows. -/
structure GC (B : Nat) (W0 : World) (v : Value) (xs : List Cn) (w : World) : Prop where
  own : w.ownsRow B 90 2 v xs.length (fl xs)
  below : Below B W0 w
  size : B ≤ w.heap.size
/-- A slice that holds counts. -/
def SC (w : World) (v : Value) (L : List Cn) : Prop := ∃ ao b o cap, v = .slice ao L.length cap ∧ (L ≠ [] → ao = some ⟨b, o, none⟩) ∧ RowC w b o L
theorem GC.sc {B : Nat} {W0 w : World} {v : Value} {xs : List Cn} (h : GC B W0 v xs w) : SC w v xs := by
  obtain ⟨hl, h2⟩ := h.own
  rcases h2 with ⟨rfl, hn⟩ | ⟨g, cap, cur, rfl, hg, hh, hc, hm, hs, ht⟩
  · have : xs = [] := List.length_eq_zero_iff.1 hn
    subst this
    exact ⟨none, 0, 0, 0, rfl, fun k => absurd rfl k, fun i hi => by simp at hi⟩
  · refine ⟨some ⟨g, 0, none⟩, g, 0, cap, rfl, fun _ => rfl, fun i hi => ?_⟩
    obtain ⟨g1, g2⟩ := fl_get xs i hi
    have key : ∀ j u, (fl xs)[j]? = some u → w.cell? ⟨g, 0 + j, none⟩ = some u := fun j u hu => by
      rw [← ht] at hu
      rw [List.getElem?_take] at hu
      unfold World.cell?
      rw [hh]
      split at hu
      · simpa using hu
      · cases hu
    exact ⟨key _ _ g1, by have := key _ _ g2; rw [← Nat.add_assoc] at this; exact this⟩
theorem SC.below {w w1 : World} {v : Value} {L : List Cn} (h : SC w v L) (hb : Below w.heap.size w w1) : SC w1 v L := by
  obtain ⟨ao, b, o, cap, h1, h2, h3⟩ := h
  exact ⟨ao, b, o, cap, h1, h2, h3.below hb (fun k => h3.lt k)⟩
end Go.Proofs.YthgfeghgcickhaaGreatDoor
