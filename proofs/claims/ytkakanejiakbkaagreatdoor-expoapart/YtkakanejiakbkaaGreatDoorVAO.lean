/- Quantile, the document's. Own work of the verifier. -/
import Derived.Test.YtkakanejiakbkaaGreatDoorVAN
import Derived.Maps.AppendAt
import Derived.Deep.AppendLies
namespace Go.Proofs.YtkakanejiakbkaaGreatDoor
open Go.RowKit

theorem bt {w W W1 : World} (h : Below w.heap.size w W) (k : Below W.heap.size W W1) : Below w.heap.size w W1 := h.trans (k.mono h.size)
end Go.Proofs.YtkakanejiakbkaaGreatDoor
/- ROWS OF COUNTS that grow. Own work of the verifier. -/
namespace Go.Proofs.YtkakanejiakbkaaGreatDoor
open Go.RowKit

/-- The cells of counts. -/
def fl : List Cn → List Value
  | [] => []
  | c :: L => .int .i64 c.1 :: .int .u64 (c.2 : Int) :: fl L
theorem fl_length (L : List Cn) : (fl L).length = L.length * 2 := by
  induction L with
  | nil => rfl
  | cons c L ih => simp only [fl, List.length_cons, ih]; omega
theorem fl_append (A B : List Cn) : fl (A ++ B) = fl A ++ fl B := by
  induction A with
  | nil => rfl
  | cons c A ih => simp only [List.cons_append, fl, ih]
theorem fl_get (L : List Cn) (i : Nat) (h : i < L.length) : (fl L)[i * 2]? = some (.int .i64 L[i].1) ∧ (fl L)[i * 2 + 1]? = some (.int .u64 (L[i].2 : Int)) := by
  induction L generalizing i with
  | nil => simp at h
  | cons c L ih =>
    cases i with
    | zero => exact ⟨rfl, rfl⟩
    | succ i =>
      have := ih i (by simpa using h)
      rw [show (i + 1) * 2 = i * 2 + 2 by omega]
      simpa [fl] using this
/-- What a row holds, cell by cell. -/
theorem RowC.cells {w : World} {b o : Nat} {L : List Cn} (h : RowC w b o L) (j : Nat) (u : Value) (hu : (fl L)[j]? = some u) : w.cell? ((⟨b, o, none⟩ : Addr).add j) = some u := by
  have hj : j < (fl L).length := by
    rcases Nat.lt_or_ge j (fl L).length with c | c
    · exact c
    · rw [List.getElem?_eq_none c] at hu; cases hu
  rw [fl_length] at hj
  rw [Addr.add_lit]
  have hi : j / 2 < L.length := by omega
  obtain ⟨g1, g2⟩ := fl_get L (j / 2) hi
  obtain ⟨r1, r2⟩ := h (j / 2) hi
  rcases Nat.mod_two_eq_zero_or_one j with e | e
  · rw [show j / 2 * 2 = j by omega] at g1 r1
    rw [g1] at hu
    rw [← hu]
    exact r1
  · rw [show j / 2 * 2 + 1 = j by omega] at g2
    rw [show o + j / 2 * 2 + 1 = o + j by omega] at r2
    rw [g2] at hu
    rw [← hu]
    exact r2
/-- A row of counts of the call's own that grows. -/
structure GC (B : Nat) (W0 : World) (v : Value) (xs : List Cn) (w : World) : Prop where
  own : w.ownsRow B 69 2 v xs.length (fl xs)
  below : Below B W0 w
  size : B ≤ w.heap.size
/-- A slice that holds counts. -/
def SC (w : World) (v : Value) (L : List Cn) : Prop := ∃ ao b o cap, v = .slice ao L.length cap ∧ (L ≠ [] → ao = some ⟨b, o, none⟩) ∧ RowC w b o L
theorem GC.sc {B : Nat} {W0 w : World} {v : Value} {xs : List Cn} (h : GC B W0 v xs w) : SC w v xs := by
  obtain ⟨hl, h2⟩ := h.own
  rcases h2 with ⟨rfl, hn⟩ | ⟨g, cap, cur, rfl, hg, hh, hc, hm, hs, ht⟩
  · have : xs = [] := List.length_eq_zero_iff.1 hn
    subst this
    exact ⟨none, 0, 0, 0, rfl, fun k => absurd rfl k, fun i hi => by simp at hi⟩
  · refine ⟨some ⟨g, 0, none⟩, g, 0, cap, rfl, fun _ => rfl, fun i hi => ?_⟩
    obtain ⟨g1, g2⟩ := fl_get xs i hi
    have key : ∀ j u, (fl xs)[j]? = some u → w.cell? ⟨g, 0 + j, none⟩ = some u := fun j u hu => by
      rw [← ht] at hu
      rw [List.getElem?_take] at hu
      unfold World.cell?
      rw [hh]
      split at hu
      · simpa using hu
      · cases hu
    exact ⟨key _ _ g1, by have := key _ _ g2; rw [← Nat.add_assoc] at this; exact this⟩
theorem SC.below {w w1 : World} {v : Value} {L : List Cn} (h : SC w v L) (hb : Below w.heap.size w w1) : SC w1 v L := by
  obtain ⟨ao, b, o, cap, h1, h2, h3⟩ := h
  exact ⟨ao, b, o, cap, h1, h2, h3.below hb (fun k => h3.lt k)⟩
end Go.Proofs.YtkakanejiakbkaaGreatDoor
/- sorted, the document's. Own work of the verifier. -/
namespace Go.Proofs.YtkakanejiakbkaaGreatDoor
open Go.RowKit

theorem RowC.take {w : World} {b o : Nat} {L : List Cn} (h : RowC w b o L) (k : Nat) : RowC w b o (L.take k) := fun i hi => by
  rw [List.length_take] at hi
  rw [List.getElem_take]
  exact h i (by omega)
theorem RowC.drop {w : World} {b o : Nat} {L : List Cn} (h : RowC w b o L) (k : Nat) : RowC w b (o + k * 2) (L.drop k) := fun i hi => by
  rw [List.length_drop] at hi
  rw [List.getElem_drop]
  have := h (k + i) (by omega)
  rw [show o + (k + i) * 2 = o + k * 2 + i * 2 by omega] at this
  exact this
/-- What the merging of two rising lists keeps. -/
structure MI (A B : List Cn) (i j : Nat) (O : List Cn) : Prop where
  srt : Srt O
  la : ∀ c ∈ O, ∀ d ∈ A.drop i, c.1 ≤ d.1
  lb : ∀ c ∈ O, ∀ d ∈ B.drop j, c.1 ≤ d.1
  perm : (O ++ (A.drop i ++ B.drop j)).Perm (A ++ B)
  len : O.length = i + j
theorem srt_snoc {O : List Cn} {x : Cn} (h : Srt O) (hx : ∀ c ∈ O, c.1 ≤ x.1) : Srt (O ++ [x]) := List.pairwise_append.2 ⟨h, List.pairwise_singleton _ _, fun a ha b hb => by rw [List.mem_singleton.1 hb]; exact hx a ha⟩
theorem srt_drop_le {A : List Cn} (h : Srt A) {i : Nat} (hi : i < A.length) : ∀ d ∈ A.drop i, A[i].1 ≤ d.1 := by
  rw [List.drop_eq_getElem_cons hi]
  intro d hd
  rcases List.mem_cons.1 hd with rfl | hd
  · exact Int.le_refl _
  · have hp : Srt (A.drop i) := List.Pairwise.sublist (List.drop_sublist _ _) h
    rw [List.drop_eq_getElem_cons hi] at hp
    exact (List.pairwise_cons.1 hp).1 d hd
theorem MI.left {A B O : List Cn} {i j : Nat} (h : MI A B i j O) (hA : Srt A) (hB : Srt B) (hi : i < A.length) (hj : j < B.length) (hle : A[i].1 ≤ B[j].1) : MI A B (i + 1) j (O ++ [A[i]]) := by
  have hm : A[i] ∈ A.drop i := by rw [List.drop_eq_getElem_cons hi]; exact List.mem_cons_self
  refine ⟨srt_snoc h.srt (fun c hc => h.la c hc _ hm), ?_, ?_, ?_, by rw [List.length_append, h.len, List.length_singleton]; omega⟩
  · intro c hc d hd
    have hd' : d ∈ A.drop i := by rw [List.drop_eq_getElem_cons hi]; exact List.mem_cons_of_mem _ hd
    rcases List.mem_append.1 hc with k | k
    · exact h.la c k d hd'
    · rw [List.mem_singleton.1 k]; exact srt_drop_le hA hi d hd'
  · intro c hc d hd
    rcases List.mem_append.1 hc with k | k
    · exact h.lb c k d hd
    · rw [List.mem_singleton.1 k]
      have := srt_drop_le hB hj d hd
      omega
  · have e : O ++ [A[i]] ++ (A.drop (i + 1) ++ B.drop j) = O ++ (A.drop i ++ B.drop j) := by rw [List.drop_eq_getElem_cons hi, List.append_assoc]; rfl
    rw [e]
    exact h.perm
theorem MI.right {A B O : List Cn} {i j : Nat} (h : MI A B i j O) (hA : Srt A) (hB : Srt B) (hi : i < A.length) (hj : j < B.length) (hle : ¬ A[i].1 ≤ B[j].1) : MI A B i (j + 1) (O ++ [B[j]]) := by
  have hm : B[j] ∈ B.drop j := by rw [List.drop_eq_getElem_cons hj]; exact List.mem_cons_self
  refine ⟨srt_snoc h.srt (fun c hc => h.lb c hc _ hm), ?_, ?_, ?_, by rw [List.length_append, h.len, List.length_singleton]; omega⟩
  · intro c hc d hd
    rcases List.mem_append.1 hc with k | k
    · exact h.la c k d hd
    · rw [List.mem_singleton.1 k]
      have := srt_drop_le hA hi d hd
      omega
  · intro c hc d hd
    have hd' : d ∈ B.drop j := by rw [List.drop_eq_getElem_cons hj]; exact List.mem_cons_of_mem _ hd
    rcases List.mem_append.1 hc with k | k
    · exact h.lb c k d hd'
    · rw [List.mem_singleton.1 k]; exact srt_drop_le hB hj d hd'
  · refine List.Perm.trans ?_ h.perm
    rw [List.drop_eq_getElem_cons hj, List.append_assoc]
    refine List.Perm.append_left _ ?_
    rw [List.singleton_append]
    exact List.perm_middle.symm
/-- At the end. -/
theorem MI.fin {A B O : List Cn} {i j : Nat} (h : MI A B i j O) (hA : Srt A) (hB : Srt B) (he : A.drop i = [] ∨ B.drop j = []) : Srt (O ++ A.drop i ++ B.drop j) ∧ (O ++ A.drop i ++ B.drop j).Perm (A ++ B) := by
  refine ⟨?_, by rw [List.append_assoc]; exact h.perm⟩
  have a1 : Srt (A.drop i) := List.Pairwise.sublist (List.drop_sublist _ _) hA
  have b1 : Srt (B.drop j) := List.Pairwise.sublist (List.drop_sublist _ _) hB
  rcases he with e | e
  · rw [e, List.append_nil]
    exact List.pairwise_append.2 ⟨h.srt, b1, h.lb⟩
  · rw [e, List.append_nil]
    exact List.pairwise_append.2 ⟨h.srt, a1, h.la⟩
theorem cell_two_new (w : World) (x y : Value) (t : TypeId) : ∀ j u, [x, y][j]? = some u → (w.alloc (.cells #[x, y] t)).cell? ((⟨w.heap.size, 0, none⟩ : Addr).add j) = some u := by
  intro j u hu
  rw [Addr.add_lit]
  unfold World.cell?
  have hh : (w.alloc (.cells #[x, y] t)).heap[w.heap.size]? = some (.cells #[x, y] t) := by
    show (w.heap.push _)[w.heap.size]? = _
    simp
  rw [hh]
  match j, hu with
  | 0, hu => simpa using hu
  | 1, hu => simpa using hu
  | j + 2, hu => simp at hu
theorem GC.drew {B : Nat} {W0 w : World} {v : Value} {xs : List Cn} (h : GC B W0 v xs w) : GC B W0 v xs w.drew := ⟨h.own, h.below.drew, h.size⟩
theorem GC.grow {B : Nat} {W0 w w1 w' : World} {v v' : Value} {xs ys : List Cn} (h : GC B W0 v xs w) (hb : Below B W0 w1) (hs : B ≤ w1.heap.size) (hown : w'.ownsRow B 69 2 v' (xs.length + ys.length) (fl xs ++ fl ys)) (hg : w1.grownBy w' v.ownBlock) : GC B W0 v' (xs ++ ys) w' := by
  refine ⟨by rw [List.length_append, fl_append]; exact hown, ?_, by have := hg.size; omega⟩
  refine hb.grown hg hs (fun k e => ?_)
  rcases h.own.2 with ⟨rfl, _⟩ | ⟨g, cap, cur, rfl, hB, _⟩
  · cases e
  · cases e; exact hB
theorem GC.push {B : Nat} {W0 w w' : World} {v v' : Value} {xs : List Cn} (h : GC B W0 v xs w) (x : Cn) (ob : Obj) (hown : w'.ownsRow B 69 2 v' (xs.length + 1) (fl xs ++ [.int .i64 x.1, .int .u64 (x.2 : Int)])) (hg : (w.alloc ob).grownBy w' v.ownBlock) : GC B W0 v' (xs ++ [x]) w' :=
  h.grow (ys := [x]) (h.below.alloc h.size _) (by simp; have := h.size; omega) hown hg
end Go.Proofs.YtkakanejiakbkaaGreatDoor
