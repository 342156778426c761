/- Same, Compare, the document's. Own work of the verifier. -/
import Derived.Test.YtmphajfhilpgeabLA9
namespace Go.Proofs.Ytmphajfhilpgeab
open Go.RowKit

/-- A description. -/
structure Ds where
  kind : Int
  name : List UInt8
  help : List UInt8
  labels : List Lb
  deriving DecidableEq
/-- A description as it is handed in. -/
structure DsAt (W : World) (d : Ds) (v : Value) : Prop where
  ex : ∃ (ao : Option Addr) (b o cap : Nat), v = .agg #[.int .i64 d.kind, .string ⟨d.name.toArray⟩, .string ⟨d.help.toArray⟩, .slice ao d.labels.length cap] ∧ (d.labels ≠ [] → ao = some ⟨b, o, none⟩) ∧ d.labels.length ≤ 9223372036854775807 ∧ RowL W b o d.labels
theorem DsAt.below {W W1 : World} {d : Ds} {v : Value} (h : DsAt W d v) (hb : Below W.heap.size W W1) : DsAt W1 d v := by
  obtain ⟨ao, b, o, cap, e, h1, h2, h3⟩ := h.ex
  exact ⟨ao, b, o, cap, e, h1, h2, h3.below hb⟩
theorem bel2 (w : World) (o1 o2 : Obj) : Below w.heap.size w ((w.alloc o1).alloc o2) :=
  ((Below.refl _ _).alloc (Nat.le_refl _) _).alloc (by simp) _
/-- How two lists of labels stand. -/
def ordL : List Lb → List Lb → Int
  | [], [] => 0
  | [], _ :: _ => -1
  | _ :: _, [] => 1
  | a :: A, b :: B => if ordE a.1 b.1 ≠ 0 then ordE a.1 b.1 else if ordE a.2 b.2 ≠ 0 then ordE a.2 b.2 else ordL A B
/-- How two series stand. -/
def ordD (d e : Ds) : Int := if ordE d.name e.name ≠ 0 then ordE d.name e.name else ordL d.labels e.labels
theorem ordL_drop (A B : List Lb) (i : Nat) (h1 : i < A.length) (h2 : i < B.length) : ordL (A.drop i) (B.drop i) = if ordE A[i].1 B[i].1 ≠ 0 then ordE A[i].1 B[i].1 else if ordE A[i].2 B[i].2 ≠ 0 then ordE A[i].2 B[i].2 else ordL (A.drop (i + 1)) (B.drop (i + 1)) := by
  rw [List.drop_eq_getElem_cons h1, List.drop_eq_getElem_cons h2, ordL]
theorem ordL_end (A B : List Lb) (i : Nat) (h : ¬ (i < A.length ∧ i < B.length)) (h1 : i ≤ A.length) (h2 : i ≤ B.length) : ordL (A.drop i) (B.drop i) = if A.length < B.length then -1 else if B.length < A.length then 1 else 0 := by
  rcases Nat.lt_or_ge i A.length with g | g
  · have g2 : B.length = i := by omega
    rw [List.drop_eq_getElem_cons g, List.drop_eq_nil_of_le (by omega : B.length ≤ i), ordL, if_neg (by omega), if_pos (by omega)]
  · rw [List.drop_eq_nil_of_le g]
    rcases Nat.lt_or_ge i B.length with k | k
    · rw [List.drop_eq_getElem_cons k, ordL, if_pos (by omega)]
    · rw [List.drop_eq_nil_of_le k, ordL, if_neg (by omega), if_neg (by omega)]
end Go.Proofs.Ytmphajfhilpgeab
