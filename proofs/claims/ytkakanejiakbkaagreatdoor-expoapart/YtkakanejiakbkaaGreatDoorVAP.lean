/- SORTED, the law's own, of whole numbers. Own work of the verifier. -/
import Derived.Test.YtkakanejiakbkaaGreatDoorVAN
import Derived.Test.YtkakanejiakbkaaGreatDoorVAO
namespace Go.Proofs.YtkakanejiakbkaaGreatDoor
open Go.RowKit

/-- A row of numbers of 64 bits. -/
def RowI (W : World) (b o : Nat) (L : List Int) : Prop := ∀ i (h : i < L.length), W.cell? ⟨b, o + i, none⟩ = some (.int .i64 L[i])
theorem RowI.lt {W : World} {b o : Nat} {L : List Int} (h : RowI W b o L) (hL : L ≠ []) : b < W.heap.size := lt_of_cell (h 0 (List.length_pos_iff.2 hL))
theorem RowI.below {W W1 : World} {b o : Nat} {L : List Int} {B : Nat} (h : RowI W b o L) (hb : Below B W W1) (hB : L ≠ [] → b < B) : RowI W1 b o L := fun i hi => by
  have hne : L ≠ [] := fun e => by rw [e] at hi; simp at hi
  rw [hb.cell (p := ⟨b, o + i, none⟩) (hB hne)]
  exact h i hi
def SrtI (L : List Int) : Prop := L.Pairwise (· ≤ ·)
def fli (L : List Int) : List Value := L.map (Value.int .i64)
theorem fl_append_i (A B : List Int) : fli (A ++ B) = fli A ++ fli B := List.map_append ..
theorem RowI.cells {w : World} {b o : Nat} {L : List Int} (h : RowI w b o L) (j : Nat) (u : Value) (hu : (fli L)[j]? = some u) : w.cell? ((⟨b, o, none⟩ : Addr).add j) = some u := by
  unfold fli at hu
  rw [List.getElem?_map] at hu
  rcases Nat.lt_or_ge j L.length with c | c
  · rw [List.getElem?_eq_getElem c] at hu
    rw [Addr.add_lit, h j c]
    exact hu
  · rw [List.getElem?_eq_none c] at hu; cases hu
structure GI (B : Nat) (W0 : World) (v : Value) (xs : List Int) (w : World) : Prop where
  own : w.ownsRow B 2 1 v xs.length (fli xs)
  below : Below B W0 w
  size : B ≤ w.heap.size
def SI (w : World) (v : Value) (L : List Int) : Prop := ∃ ao b o cap, v = .slice ao L.length cap ∧ (L ≠ [] → ao = some ⟨b, o, none⟩) ∧ RowI w b o L
theorem GI.sc {B : Nat} {W0 w : World} {v : Value} {xs : List Int} (h : GI B W0 v xs w) : SI w v xs := by
  obtain ⟨hl, h2⟩ := h.own
  rcases h2 with ⟨rfl, hn⟩ | ⟨g, cap, cur, rfl, hg, hh, hc, hm, hs, ht⟩
  · have : xs = [] := List.length_eq_zero_iff.1 hn
    subst this
    exact ⟨none, 0, 0, 0, rfl, fun k => absurd rfl k, fun i hi => by simp at hi⟩
  · refine ⟨some ⟨g, 0, none⟩, g, 0, cap, rfl, fun _ => rfl, fun i hi => ?_⟩
    have g1 : (fli xs)[i]? = some (.int .i64 xs[i]) := by unfold fli; rw [List.getElem?_map, List.getElem?_eq_getElem hi]; rfl
    rw [← ht] at g1
    rw [List.getElem?_take] at g1
    unfold World.cell?
    rw [hh]
    split at g1
    · simpa using g1
    · cases g1
theorem RowI.take {w : World} {b o : Nat} {L : List Int} (h : RowI w b o L) (k : Nat) : RowI w b o (L.take k) := fun i hi => by
  rw [List.length_take] at hi
  rw [List.getElem_take]
  exact h i (by omega)
theorem RowI.drop {w : World} {b o : Nat} {L : List Int} (h : RowI w b o L) (k : Nat) : RowI w b (o + k) (L.drop k) := fun i hi => by
  rw [List.length_drop] at hi
  rw [List.getElem_drop]
  have := h (k + i) (by omega)
  rw [show o + (k + i) = o + k + i by omega] at this
  exact this
/-- What the merging of two rising lists keeps. -/
structure MII (A B : List Int) (i j : Nat) (O : List Int) : Prop where
  srt : SrtI O
  la : ∀ c ∈ O, ∀ d ∈ A.drop i, c ≤ d
  lb : ∀ c ∈ O, ∀ d ∈ B.drop j, c ≤ d
  perm : (O ++ (A.drop i ++ B.drop j)).Perm (A ++ B)
  len : O.length = i + j
theorem srt_snoc_i {O : List Int} {x : Int} (h : SrtI O) (hx : ∀ c ∈ O, c ≤ x) : SrtI (O ++ [x]) := List.pairwise_append.2 ⟨h, List.pairwise_singleton _ _, fun a ha b hb => by rw [List.mem_singleton.1 hb]; exact hx a ha⟩
theorem srt_drop_le_i {A : List Int} (h : SrtI A) {i : Nat} (hi : i < A.length) : ∀ d ∈ A.drop i, A[i] ≤ d := by
  rw [List.drop_eq_getElem_cons hi]
  intro d hd
  rcases List.mem_cons.1 hd with rfl | hd
  · exact Int.le_refl _
  · have hp : SrtI (A.drop i) := List.Pairwise.sublist (List.drop_sublist _ _) h
    rw [List.drop_eq_getElem_cons hi] at hp
    exact (List.pairwise_cons.1 hp).1 d hd
theorem MII.left {A B O : List Int} {i j : Nat} (h : MII A B i j O) (hA : SrtI A) (hB : SrtI B) (hi : i < A.length) (hj : j < B.length) (hle : A[i] ≤ B[j]) : MII A B (i + 1) j (O ++ [A[i]]) := by
  have hm : A[i] ∈ A.drop i := by rw [List.drop_eq_getElem_cons hi]; exact List.mem_cons_self
  refine ⟨srt_snoc_i h.srt (fun c hc => h.la c hc _ hm), ?_, ?_, ?_, by rw [List.length_append, h.len, List.length_singleton]; omega⟩
  · intro c hc d hd
    have hd' : d ∈ A.drop i := by rw [List.drop_eq_getElem_cons hi]; exact List.mem_cons_of_mem _ hd
    rcases List.mem_append.1 hc with k | k
    · exact h.la c k d hd'
    · rw [List.mem_singleton.1 k]; exact srt_drop_le_i hA hi d hd'
  · intro c hc d hd
    rcases List.mem_append.1 hc with k | k
    · exact h.lb c k d hd
    · rw [List.mem_singleton.1 k]
      have := srt_drop_le_i hB hj d hd
      omega
  · have e : O ++ [A[i]] ++ (A.drop (i + 1) ++ B.drop j) = O ++ (A.drop i ++ B.drop j) := by rw [List.drop_eq_getElem_cons hi, List.append_assoc]; rfl
    rw [e]
    exact h.perm
theorem MII.right {A B O : List Int} {i j : Nat} (h : MII A B i j O) (hA : SrtI A) (hB : SrtI B) (hi : i < A.length) (hj : j < B.length) (hle : ¬ A[i] ≤ B[j]) : MII A B i (j + 1) (O ++ [B[j]]) := by
  have hm : B[j] ∈ B.drop j := by rw [List.drop_eq_getElem_cons hj]; exact List.mem_cons_self
  refine ⟨srt_snoc_i h.srt (fun c hc => h.lb c hc _ hm), ?_, ?_, ?_, by rw [List.length_append, h.len, List.length_singleton]; omega⟩
  · intro c hc d hd
    rcases List.mem_append.1 hc with k | k
    · exact h.la c k d hd
    · rw [List.mem_singleton.1 k]
      have := srt_drop_le_i hA hi d hd
      omega
  · intro c hc d hd
    have hd' : d ∈ B.drop j := by rw [List.drop_eq_getElem_cons hj]; exact List.mem_cons_of_mem _ hd
    rcases List.mem_append.1 hc with k | k
    · exact h.lb c k d hd'
    · rw [List.mem_singleton.1 k]; exact srt_drop_le_i hB hj d hd'
  · refine List.Perm.trans ?_ h.perm
    rw [List.drop_eq_getElem_cons hj, List.append_assoc]
    refine List.Perm.append_left _ ?_
    rw [List.singleton_append]
    exact List.perm_middle.symm
/-- At the end. -/
theorem MII.fin {A B O : List Int} {i j : Nat} (h : MII A B i j O) (hA : SrtI A) (hB : SrtI B) (he : A.drop i = [] ∨ B.drop j = []) : SrtI (O ++ A.drop i ++ B.drop j) ∧ (O ++ A.drop i ++ B.drop j).Perm (A ++ B) := by
  refine ⟨?_, by rw [List.append_assoc]; exact h.perm⟩
  have a1 : SrtI (A.drop i) := List.Pairwise.sublist (List.drop_sublist _ _) hA
  have b1 : SrtI (B.drop j) := List.Pairwise.sublist (List.drop_sublist _ _) hB
  rcases he with e | e
  · rw [e, List.append_nil]
    exact List.pairwise_append.2 ⟨h.srt, b1, h.lb⟩
  · rw [e, List.append_nil]
    exact List.pairwise_append.2 ⟨h.srt, a1, h.la⟩
theorem cell_one_new (w : World) (x : Value) (t : TypeId) : ∀ j u, [x][j]? = some u → (w.alloc (.cells #[x] t)).cell? ((⟨w.heap.size, 0, none⟩ : Addr).add j) = some u := by
  intro j u hu
  rw [Addr.add_lit]
  unfold World.cell?
  have hh : (w.alloc (.cells #[x] t)).heap[w.heap.size]? = some (.cells #[x] t) := by
    show (w.heap.push _)[w.heap.size]? = _
    simp
  rw [hh]
  match j, hu with
  | 0, hu => simpa using hu
  | j + 1, hu => simp at hu
theorem GI.drew {B : Nat} {W0 w : World} {v : Value} {xs : List Int} (h : GI B W0 v xs w) : GI B W0 v xs w.drew := ⟨h.own, h.below.drew, h.size⟩
theorem GI.grow {B : Nat} {W0 w w1 w' : World} {v v' : Value} {xs ys : List Int} (h : GI B W0 v xs w) (hb : Below B W0 w1) (hs : B ≤ w1.heap.size) (hown : w'.ownsRow B 2 1 v' (xs.length + ys.length) (fli xs ++ fli ys)) (hg : w1.grownBy w' v.ownBlock) : GI B W0 v' (xs ++ ys) w' := by
  refine ⟨by rw [List.length_append, fl_append_i]; exact hown, ?_, by have := hg.size; omega⟩
  refine hb.grown hg hs (fun k e => ?_)
  rcases h.own.2 with ⟨rfl, _⟩ | ⟨g, cap, cur, rfl, hB, _⟩
  · cases e
  · cases e; exact hB
theorem GI.push {B : Nat} {W0 w w' : World} {v v' : Value} {xs : List Int} (h : GI B W0 v xs w) (x : Int) (ob : Obj) (hown : w'.ownsRow B 2 1 v' (xs.length + 1) (fli xs ++ [.int .i64 x])) (hg : (w.alloc ob).grownBy w' v.ownBlock) : GI B W0 v' (xs ++ [x]) w' :=
  h.grow (ys := [x]) (h.below.alloc h.size _) (by simp; have := h.size; omega) hown hg
end Go.Proofs.YtkakanejiakbkaaGreatDoor
