/- LabelKeeps: what its walk keeps. Own work of the verifier. -/
import Derived.Test.YtmphajfhilpgeabKE1
namespace Go.Proofs.Ytmphajfhilpgeab
open Go.RowKit

/-- The description that was handed in, and its box. -/
structure KB (w : World) (kd : Int) (nm hp : List UInt8) (ao : Option Addr) (b o cap : Nat) (L : List Lb) (W : World) : Prop where
  c0 : W.cell? ⟨w.heap.size, 0, none⟩ = some (.int .i64 kd)
  c1 : W.cell? ⟨w.heap.size, 1, none⟩ = some (.string ⟨nm.toArray⟩)
  c2 : W.cell? ⟨w.heap.size, 2, none⟩ = some (.string ⟨hp.toArray⟩)
  c3 : W.cell? ⟨w.heap.size, 3, none⟩ = some (.slice ao L.length cap)
  r : RowL W b o L
  bl : Below w.heap.size w W
theorem KB.below {w : World} {kd : Int} {nm hp : List UInt8} {ao : Option Addr} {b o cap : Nat} {L : List Lb} {W W1 : World} (h : KB w kd nm hp ao b o cap L W) (hb : Below W.heap.size W W1) : KB w kd nm hp ao b o cap L W1 :=
  ⟨(hb.cell (lt_of_cell h.c0)).trans h.c0, (hb.cell (lt_of_cell h.c1)).trans h.c1, (hb.cell (lt_of_cell h.c2)).trans h.c2, (hb.cell (lt_of_cell h.c3)).trans h.c3, h.r.below hb, h.bl.trans (hb.mono h.bl.size)⟩
theorem KB.grown {w : World} {kd : Int} {nm hp : List UInt8} {ao : Option Addr} {b o cap : Nat} {L : List Lb} {W W1 : World} (h : KB w kd nm hp ao b o cap L W) {g : Nat} (hg : W.grownBy W1 (some g)) (hw : w.heap.size < g) (hb : L ≠ [] → b < w.heap.size) : KB w kd nm hp ao b o cap L W1 := by
  have hB : Below (w.heap.size + 1) W W1 := ⟨hg.os, hg.tape, hg.output, hg.size, fun k hk => hg.block k (by have := lt_of_cell h.c0; simp at this; omega) (fun e => by cases e; omega)⟩
  refine ⟨(hB.cell (p := ⟨w.heap.size, 0, none⟩) (Nat.lt_succ_self _)).trans h.c0, (hB.cell (p := ⟨w.heap.size, 1, none⟩) (Nat.lt_succ_self _)).trans h.c1, (hB.cell (p := ⟨w.heap.size, 2, none⟩) (Nat.lt_succ_self _)).trans h.c2, (hB.cell (p := ⟨w.heap.size, 3, none⟩) (Nat.lt_succ_self _)).trans h.c3, fun i hi => ?_, h.bl.trans (hB.mono (by omega))⟩
  have hbb := hb (fun e => by rw [e] at hi; simp at hi)
  obtain ⟨h1, h2⟩ := h.r i hi
  exact ⟨(hB.cell (p := ⟨b, o + i * 2, none⟩) (by show b < _; omega)).trans h1, (hB.cell (p := ⟨b, o + i * 2 + 1, none⟩) (by show b < _; omega)).trans h2⟩
theorem RowL.news {W : World} {b o : Nat} {L : List Lb} (h : RowL W b o L) (j : Nat) (u : Value) (hu : (flL L)[j]? = some u) : W.cell? ((⟨b, o, none⟩ : Addr).add j) = some u := by
  have hj : j < (flL L).length := by
    rcases Nat.lt_or_ge j (flL L).length with c | c
    · exact c
    · rw [List.getElem?_eq_none c] at hu; cases hu
  rw [flL_length] at hj
  rw [Addr.add_lit]
  have hi : j / 2 < L.length := by omega
  obtain ⟨g1, g2⟩ := flL_get L (j / 2) hi
  obtain ⟨r1, r2⟩ := h (j / 2) hi
  rcases Nat.mod_two_eq_zero_or_one j with e | e
  · rw [show j / 2 * 2 = j by omega] at g1 r1
    rw [g1] at hu
    rw [← hu]
    exact r1
  · rw [show j / 2 * 2 + 1 = j by omega] at g2
    rw [show o + j / 2 * 2 + 1 = o + j by omega] at r2
    rw [g2] at hu
    rw [← hu]
    exact r2
theorem flL_one (L : List Lb) : ∀ u ∈ flL L, u.oneCell' = true := by
  induction L with
  | nil => intro u hu; cases hu
  | cons c L ih =>
    intro u hu
    simp only [flL, List.mem_cons] at hu
    rcases hu with rfl | rfl | h
    · rfl
    · rfl
    · exact ih u h
theorem cell_four_new (w : World) (x y z u : Value) (t : TypeId) : ∀ j s, [x, y, z, u][j]? = some s → (w.alloc (.cells #[x, y, z, u] t)).cell? ((⟨w.heap.size, 0, none⟩ : Addr).add j) = some s := by
  intro j s hj
  match j, hj with
  | 0, hj => simp at hj; subst hj; simp [go_sem]
  | 1, hj => simp at hj; subst hj; simp [go_sem]
  | 2, hj => simp at hj; subst hj; simp [go_sem]
  | 3, hj => simp at hj; subst hj; simp [go_sem]
  | k + 4, hj => simp at hj
theorem wgt_len (L : List Lb) : L.length * 8 ≤ wgt L := by
  induction L with
  | nil => simp [wgt]
  | cons a r ih => rw [wgt, List.length_cons]; omega
theorem infoDesc : Try.prog.cellsOf 24 = 4 := by kernel_rfl
theorem four_one (a b c d : ByteArray) : ∀ u ∈ [Value.string a, .string b, .string c, .string d], u.oneCell' = true := by
  intro u hu
  simp at hu
  rcases hu with rfl | rfl | rfl | rfl <;> rfl
/-- The own list, its two spare places filled. -/
structure KS (w : World) (kd : Int) (nm hp : List UInt8) (ao : Option Addr) (b o cap : Nat) (L : List Lb) (g N : Nat) (W : World) : Prop where
  kb : KB w kd nm hp ao b o cap L W
  own : W.ownsRow (w.heap.size + 1) 41 2 (.slice (some ⟨g, 0, none⟩) (L.length + 2) N) (L.length + 2) (flL L ++ [.string ⟨#[115, 112, 97, 114, 101]⟩, .string ⟨#[]⟩, .string ⟨#[114, 111, 111, 109]⟩, .string ⟨#[]⟩])
theorem KS.below {w : World} {kd : Int} {nm hp : List UInt8} {ao : Option Addr} {b o cap : Nat} {L : List Lb} {g N : Nat} {W W1 : World} (h : KS w kd nm hp ao b o cap L g N W) (hb : Below W.heap.size W W1) : KS w kd nm hp ao b o cap L g N W1 :=
  ⟨h.kb.below hb, World.ownsRow.kept (row := none) h.own ⟨hb.os, hb.tape, hb.output, hb.size, fun k hk _ => hb.block k hk⟩ (by right; simp [Value.ownBlock])⟩
theorem KS.row {w : World} {kd : Int} {nm hp : List UInt8} {ao : Option Addr} {b o cap : Nat} {L : List Lb} {g N : Nat} {W : World} (h : KS w kd nm hp ao b o cap L g N W) : RowL W g 0 L ∧ L.length + 2 ≤ N ∧ N ≤ 9223372036854775807 := by
  have h1 := own_take h.own (n := L.length) (by omega)
  rw [List.take_append_of_le_length (by rw [flL_length]; omega), List.take_of_length_le (by rw [flL_length]; omega)] at h1
  obtain ⟨ao', b', cap', e, hao, hr, hc, hm⟩ := OwnL.open (B := w.heap.size + 1) (L := L) h1
  cases e
  rcases h.own.2 with ⟨k, _⟩ | ⟨g', c', cur, k, _, _, h3, h4, _, _⟩
  · cases k
  · cases k
    refine ⟨?_, h3, by unfold maxLen at h4; omega⟩
    intro i hi
    have hne : L ≠ [] := fun e => by rw [e] at hi; simp at hi
    have := hao hne
    cases this
    exact hr i hi
theorem KS.spare {w : World} {kd : Int} {nm hp : List UInt8} {ao : Option Addr} {b o cap : Nat} {L : List Lb} {g N : Nat} {W : World} (h : KS w kd nm hp ao b o cap L g N W) : W.cell? ⟨g, L.length * 2, none⟩ = some (.string ⟨#[115, 112, 97, 114, 101]⟩) ∧ W.cell? ⟨g, (L.length + 1) * 2, none⟩ = some (.string ⟨#[114, 111, 111, 109]⟩) := by
  constructor
  · rw [h.own.cellAt (L.length * 2) (by omega), List.getElem?_append_right (by rw [flL_length]; omega), flL_length]
    simp
  · rw [h.own.cellAt ((L.length + 1) * 2) (by omega), List.getElem?_append_right (by rw [flL_length]; omega), flL_length]
    rw [show (L.length + 1) * 2 - L.length * 2 = 2 by omega]
    rfl
end Go.Proofs.Ytmphajfhilpgeab
