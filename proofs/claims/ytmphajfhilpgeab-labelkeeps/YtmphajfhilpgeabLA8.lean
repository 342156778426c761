/- Unhelp, the document's. Own work of the verifier. -/
import Derived.Test.YtmphajfhilpgeabLA7
namespace Go.Proofs.Ytmphajfhilpgeab
open Go.RowKit

/-- How far the loop has come. -/
def UnI (l : List UInt8) (i : Nat) (xs : List Nat) : Prop := unL l = (unL (l.drop i)).map (txs xs ++ ·) ∧ (∀ x ∈ xs, x < 256)
theorem UnI.step {l : List UInt8} {i j : Nat} {xs : List Nat} {x : Nat} {b : UInt8} (h : UnI l i xs) (hx : x < 256) (hb : UInt8.ofNat x = b) (hd : unL (l.drop i) = (unL (l.drop j)).map (b :: ·)) : UnI l j (xs ++ [x]) := by
  obtain ⟨h1, h2⟩ := h
  refine ⟨?_, fun y hy => ?_⟩
  · rw [h1, hd, Option.map_map]
    congr 1
    funext z
    show txs xs ++ b :: z = txs (xs ++ [x]) ++ z
    rw [txs_app, ← hb, List.append_assoc]
    rfl
  · rcases List.mem_append.1 hy with g | g
    · exact h2 y g
    · rw [List.mem_singleton.1 g]; exact hx
theorem UnI.none {l : List UInt8} {i : Nat} {xs : List Nat} (h : UnI l i xs) (hd : unL (l.drop i) = none) : unL l = none := by
  rw [h.1, hd]; rfl
theorem un_low (l : List UInt8) (i : Nat) (h : i < l.length) (h1 : l[i].toNat ≠ 10) (h2 : l[i].toNat ≠ 92) : unL (l.drop i) = (unL (l.drop (i + 1))).map (l[i] :: ·) := by
  rw [List.drop_eq_getElem_cons h, unL.eq_def]
  simp only
  rw [if_neg h1, if_neg h2]
theorem un_ten (l : List UInt8) (i : Nat) (h : i < l.length) (h1 : l[i].toNat = 10) : unL (l.drop i) = none := by
  rw [List.drop_eq_getElem_cons h, unL.eq_def]
  simp only
  rw [if_pos h1]
theorem un_end (l : List UInt8) (i : Nat) (h : i < l.length) (h1 : l[i].toNat = 92) (h2 : ¬ i + 1 < l.length) : unL (l.drop i) = none := by
  rw [List.drop_eq_getElem_cons h, unL.eq_def]
  simp only
  rw [if_neg (by omega), if_pos h1, List.drop_eq_nil_of_le (by omega)]
theorem un_two (l : List UInt8) (i : Nat) (h : i + 1 < l.length) (h1 : l[i].toNat = 92) : unL (l.drop i) = if l[i + 1].toNat = 92 then (unL (l.drop (i + 2))).map (92 :: ·) else if l[i + 1].toNat = 110 then (unL (l.drop (i + 2))).map (10 :: ·) else none := by
  rw [List.drop_eq_getElem_cons (by omega : i < l.length), unL.eq_def]
  simp only
  rw [if_neg (by omega), if_pos h1, List.drop_eq_getElem_cons h]
def TellsU (l : List UInt8) (e : Ending) : Prop := (∃ t, unL l = some t ∧ e = .returned (.tuple #[.string ⟨t.toArray⟩, .bool true])) ∨ (unL l = none ∧ e = .returned (.tuple #[.string ⟨#[]⟩, .bool false]))
end Go.Proofs.Ytmphajfhilpgeab
