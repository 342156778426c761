/- RanksKeeps: memory. Own work of the verifier. -/
import Derived.Test.YthhoklgfgandpaaX6
import Derived.Test.YthhoklgfgandpaaMM
import Derived.Deep.AppendLies
import Derived.Lib.AppendZeros
namespace Go.Proofs.Ythhoklgfgandpaa
open Go.RowKit

/-- append(nil, v...) of counts: a copy. -/
theorem run_copy {w : World} {v : Value} {L : List Cn} (h : SN w v L) (hl : L.length ≤ 1048576) (B : Nat) (hB : B ≤ w.heap.size) (ty : TypeId) :
    ∃ v' w', (Builtin.append_ #[23, 23] ty #[.slice none 0 0, v]).run Try.prog w = .ok v' w' ∧ w'.ownsRow B 49 2 v' L.length (fl L) ∧ Below w.heap.size w w' := by
  obtain ⟨i0, hi, hz0, hz1, hz2⟩ := info_parts infoC
  rcases h with ⟨rfl, rfl⟩ | ⟨b, o, cap, rfl, _, hr⟩
  · refine ⟨.slice none 0 0, w, ?_, own_nil _ _, Below.refl _ _⟩
    simp [Builtin.append_, run_underlying Try.underlying23, sizeOf, typeInfo, zeroValue, hi, hz0, Builtin.lenOf, run_firstCells_none]
  · obtain ⟨v', w', k1, k2, k3, _⟩ := run_append_own (P := Try.prog) w B 23 ty 49 i0 (.agg #[.int .i64 0, .int .u64 0]) 2 16 Try.underlying23 hi hz0 hz1 hz2 rfl (by decide) (.slice none 0 0) 0 [] (own_nil _ _) ⟨b, o, none⟩ L.length cap (fl L) (fl_length L) hr.cells (fl_one L) (by unfold maxLen; omega) (by omega) hB
    refine ⟨v', w', k1, by simpa using k2, ⟨k3.os, k3.tape, k3.output, k3.size, fun k hk => k3.block k hk (by simp [Value.ownBlock])⟩⟩
/-- The mark's cells, and all that was there at w1. -/
def St (p : Nat) (w1 W : World) : Prop := W.cell? ⟨p, 0, none⟩ = some (.int .i64 (-7)) ∧ W.cell? ⟨p, 1, none⟩ = some (.int .u64 7) ∧ Below w1.heap.size w1 W
theorem St.keep {p : Nat} {w1 W W' : World} (h : St p w1 W) (hp : p < w1.heap.size) (hb : Below w1.heap.size W W') : St p w1 W' :=
  ⟨(hb.cell (p := ⟨p, 0, none⟩) hp).trans h.1, (hb.cell (p := ⟨p, 1, none⟩) hp).trans h.2.1, h.2.2.trans hb⟩
theorem St.kept {p : Nat} {w1 W W' : World} (h : St p w1 W) (hp : p < w1.heap.size) (hb : Below W.heap.size W W') : St p w1 W' := h.keep hp (hb.mono h.2.2.size)
theorem St.drew {p : Nat} {w1 W : World} (h : St p w1 W) (hp : p < w1.heap.size) : St p w1 W.drew := h.kept hp (Below.refl _ _).drew
theorem St.alloc {p : Nat} {w1 W : World} (h : St p w1 W) (hp : p < w1.heap.size) (o : Obj) : St p w1 (W.alloc o) := h.kept hp ((Below.refl _ _).alloc (Nat.le_refl _) _)
/-- That copy, at a step of a region that draws. -/
theorem step_copy {w : World} {ops : Array Oper} {o : Oper} {a : Act} {K : Act → World → Prop} {Q : Exit → Act → World → Prop} {E : Prop} (hgd : o.guard = none) (s x : Operand)
    (ho : o.op = .call { callee := .builtin .append, args := #[s, x], argTypes := #[23, 23] }) (hs : a.eval s = .slice none 0 0) {v : Value} (hx : a.eval x = v) {L : List Cn} {p : Nat} {w1 : World} (hst : St p w1 w) (h : ∀ W, St p w1 W → SN W v L) (hl : L.length ≤ 1048576)
    (k : ∀ v' w', w'.ownsRow w1.heap.size 49 2 v' L.length (fl L) → Below w.heap.size w w' → K (a.put o.dst v') w') :
    if Region.wanted o (yielded ops a.tmps) = true then Oper.wp Try.prog o a w K Q else E := by
  have hw : Region.wanted o (yielded ops a.tmps) = true := by simp [Region.wanted, hgd]
  rw [if_pos hw]
  obtain ⟨v', w', hr, k1, k2⟩ := run_copy (h w hst) hl w1.heap.size hst.2.2.size o.type
  exact Lib.wp_append_run w s x _ _ ho _ _ hs hx v' w' hr (k v' w' k1 k2)
/-- The mark, twice, appended to what the call owns: at a step of a region that draws. -/
theorem step_two {w : World} {ops : Array Oper} {o : Oper} {a : Act} {K : Act → World → Prop} {Q : Exit → Act → World → Prop} {E : Prop} (hgd : o.guard = none) (s x : Operand)
    (ho : o.op = .call { callee := .builtin .append, args := #[s, x], argTypes := #[23, 23] }) {p : Nat} {w1 : World} (hst : St p w1 w) {v : Value} {L : List Cn} (hs : a.eval s = v) (hown : w.ownsRow w1.heap.size 49 2 v L.length (fl L)) (hl : L.length ≤ 1048576) (k : Nat) (hx : a.eval x = .slice (some ⟨k, 0, none⟩) 2 2)
    (hk : w.heap[k]? = some (.cells #[.int .i64 (-7), .int .u64 7, .int .i64 (-7), .int .u64 7] 49 (0, 0)))
    (hh : ∀ g cap w', w'.ownsRow w1.heap.size 49 2 (.slice (some ⟨g, 0, none⟩) (L.length + 2) cap) (L.length + 2) (fl (L ++ [(-7, 7), (-7, 7)])) → St p w1 w → Below w1.heap.size w w' → K (a.put o.dst (.slice (some ⟨g, 0, none⟩) (L.length + 2) cap)) w') :
    if Region.wanted o (yielded ops a.tmps) = true then Oper.wp Try.prog o a w K Q else E := by
  obtain ⟨i0, hi, hz0, hz1, hz2⟩ := info_parts infoC
  refine step_append_lies w hgd s x _ ho w1.heap.size 49 i0 (.agg #[.int .i64 0, .int .u64 0]) 2 16 Try.underlying23 hi hz0 hz1 hz2 rfl (by decide) v L.length (fl L) hs hown ⟨k, 0, none⟩ 2 2 [.int .i64 (-7), .int .u64 7, .int .i64 (-7), .int .u64 7] hx rfl (World.news_of_block hk) (by simp [Value.oneCell']) (by decide) (by unfold maxLen; omega) (by omega) hst.2.2.size _ rfl ?_
  intro g cap w' h1 h2 h3 h4
  have hB := hst.2.2.size
  refine hh g cap w' (by rw [fl_append]; exact h1) hst ⟨h2.os, h2.tape, h2.output, h2.size, fun j hj => h2.block j (by omega) (fun e => ?_)⟩
  have := (hown.lt j e.symm).1
  omega
theorem new_at {n : Nat} {W w' : World} {o : Obj} (hb : Below n (W.alloc o) w') (hn : W.heap.size < n) : w'.heap[W.heap.size]? = some o := (hb.block _ hn).trans (new_1 W o)
theorem new_atd {W w' : World} {o : Obj} (hb : Below (W.alloc o).drew.heap.size (W.alloc o).drew w') : w'.heap[W.heap.size]? = some o := (hb.block _ (by show W.heap.size < (W.alloc o).heap.size; simp)).trans (new_1 W o)
theorem gc_marks {B : Nat} {w : World} {g n cap : Nat} {L : List Cn} (h : w.ownsRow B 49 2 (.slice (some ⟨g, 0, none⟩) n cap) n (fl L)) (hl : L.length = n) : RowC w g 0 L ∧ n ≤ cap ∧ cap ≤ maxLen ∧ B ≤ g ∧ g < w.heap.size ∧ (∀ o, w.frozen? ⟨g, o, none⟩ = false) := by
  subst hl
  have hR : RowC w g 0 L := fun i hi => by
    obtain ⟨g1, g2⟩ := fl_get L i hi
    have k1 := h.cellAt (i * 2) (by omega)
    have k2 := h.cellAt (i * 2 + 1) (by omega)
    rw [Nat.zero_add, k1, k2]
    exact ⟨g1, g2⟩
  have hlt := h.lt g rfl
  have hf : ∀ o, w.frozen? ⟨g, o, none⟩ = false := fun o => h.frozenAt o
  rcases h.2 with ⟨k, _⟩ | ⟨g2, cap2, cur, hv, hB, hh, hc, hm, _⟩
  · cases k
  · cases hv
    exact ⟨hR, hc, hm, hB, hlt.2, hf⟩
theorem own_keep {B n : Nat} {w w' : World} {v : Value} {xs : List Value} (h : w.ownsRow B 49 2 v n xs) (hb : Below w.heap.size w w') : w'.ownsRow B 49 2 v n xs := by
  refine ⟨h.1, ?_⟩
  rcases h.2 with k | ⟨g, cap, cur, hv, hB, hh, hrest⟩
  · exact Or.inl k
  · exact Or.inr ⟨g, cap, cur, hv, hB, (hb.block g (Array.getElem?_eq_some_iff.1 hh).1).trans hh, hrest⟩
theorem own_le {B B' n : Nat} {w : World} {v : Value} {xs : List Value} (h : w.ownsRow B 49 2 v n xs) (hb : B' ≤ B) : w.ownsRow B' 49 2 v n xs := by
  refine ⟨h.1, ?_⟩
  rcases h.2 with k | ⟨g, cap, cur, hv, hB, hrest⟩
  · exact Or.inl k
  · exact Or.inr ⟨g, cap, cur, hv, by omega, hrest⟩
theorem own_mid {n0 B n : Nat} {w w' : World} {v : Value} {xs : List Value} (h : w.ownsRow B 49 2 v n xs) (hm : Mid n0 B w w') : w'.ownsRow B 49 2 v n xs := by
  refine ⟨h.1, ?_⟩
  rcases h.2 with k | ⟨g, cap, cur, hv, hB, hh, hrest⟩
  · exact Or.inl k
  · exact Or.inr ⟨g, cap, cur, hv, hB, (hm.block g (Array.getElem?_eq_some_iff.1 hh).1 (by omega)).trans hh, hrest⟩
theorem own_sn {B : Nat} {w : World} {v : Value} {L : List Cn} (h : w.ownsRow B 49 2 v L.length (fl L)) (hB : B ≤ w.heap.size) : SN w v L := GC.sn (B := B) (W0 := w) ⟨h, Below.refl _ _, hB⟩
theorem row_mid {n0 B : Nat} {W W1 : World} {b o : Nat} {L : List Cn} (h : RowC W b o L) (hm : Mid n0 B W W1) (hB : L ≠ [] → ¬ (n0 ≤ b ∧ b < B)) : RowC W1 b o L := fun i hi => by
  have hL : L ≠ [] := fun e => by rw [e] at hi; simp at hi
  have hb := hm.block b (h.lt hL) (hB hL)
  rw [World.cell?_of_block (a := ⟨b, o + i * 2, none⟩) hb, World.cell?_of_block (a := ⟨b, o + i * 2 + 1, none⟩) hb]
  exact h i hi
/-- What Merge told, as it is written over and appended to: nothing else turns. -/
structure CO (n0 Bd : Nat) (W0 : World) (v : Value) (n : Nat) (w : World) : Prop where
  mid : Mid n0 Bd W0 w
  own : ∃ xs, w.ownsRow n0 49 2 v n xs
  blk : ∀ g, v.ownBlock = some g → (n0 ≤ g ∧ g < Bd) ∨ W0.heap.size ≤ g
theorem CO.start {w5 w6 W0 : World} {v : Value} {O : List Cn} (h : GC w5.heap.size w5 v O w6) (hb : Below w6.heap.size w6 W0) : CO w5.heap.size w6.heap.size W0 v O.length W0 :=
  ⟨Mid.refl _ _ _, ⟨_, own_keep h.own hb⟩, fun g hg => Or.inl (h.own.lt g hg)⟩
theorem CO.set {n0 Bd : Nat} {W0 w : World} {g n cap : Nat} (h : CO n0 Bd W0 (.slice (some ⟨g, 0, none⟩) n cap) n w) (j : Nat) (u : Value) : CO n0 Bd W0 (.slice (some ⟨g, 0, none⟩) n cap) n (w.setCell ⟨g, j, none⟩ u) := by
  obtain ⟨xs, hx⟩ := h.own
  exact ⟨h.mid.setCell (h.blk g rfl) u, ⟨_, (hx.stored j u).1⟩, h.blk⟩
theorem CO.cells {n0 Bd : Nat} {W0 w : World} {g n cap : Nat} (h : CO n0 Bd W0 (.slice (some ⟨g, 0, none⟩) n cap) n w) (j : Nat) (hj : j < n) : (∃ u, w.cell? ⟨g, j * 2, none⟩ = some u) ∧ (∃ u, w.cell? ⟨g, j * 2 + 1, none⟩ = some u) ∧ (∀ o, w.frozen? ⟨g, o, none⟩ = false) := by
  obtain ⟨xs, hx⟩ := h.own
  have hl := hx.1
  refine ⟨⟨xs[j * 2], ?_⟩, ⟨xs[j * 2 + 1], ?_⟩, fun o => hx.frozenAt o⟩
  · rw [hx.cellAt (j * 2) (by omega)]
    exact List.getElem?_eq_getElem _
  · rw [hx.cellAt (j * 2 + 1) (by omega)]
    exact List.getElem?_eq_getElem _
theorem CO.push {n0 Bd : Nat} {W0 w w' : World} {v v' : Value} {n : Nat} {xs : List Value} (h : CO n0 Bd W0 v n w) (ob : Obj) (hown : w'.ownsRow n0 49 2 v' (n + 1) xs) (hg : (w.alloc ob).grownBy w' v.ownBlock) (hat : v'.ownBlock = v.ownBlock ∨ v'.ownBlock = some (w.alloc ob).heap.size) : CO n0 Bd W0 v' (n + 1) w' := by
  have hs := h.mid.size
  have hs2 : (w.alloc ob).heap.size = w.heap.size + 1 := by simp
  refine ⟨?_, ⟨_, hown⟩, fun g hv => ?_⟩
  · have ha := h.mid.alloc ob
    refine ⟨hg.os.trans ha.os, hg.tape.trans ha.tape, hg.output.trans ha.output, Nat.le_trans ha.size hg.size, fun k hk hn => ?_⟩
    refine (hg.block k (by omega) (fun e => ?_)).trans (ha.block k hk hn)
    rcases h.blk k e.symm with c | c
    · exact hn c
    · omega
  · rcases hat with c | c
    · exact h.blk g (by rw [← c]; exact hv)
    · rw [c] at hv
      have : (w.alloc ob).heap.size = g := by simpa using hv
      exact Or.inr (by omega)
/-- The counts that are asked, one of them written over. -/
theorem row_set {w : World} {g i : Nat} {L : List Cn} (h : RowC w g 0 L) (hi : i < L.length) (n : Nat) : RowC (w.setCell ⟨g, i * 2 + 1, none⟩ (.int .u64 (n : Int))) g 0 (L.set i (L[i].1, n)) := by
  intro j hj
  rw [List.length_set] at hj
  rw [Nat.zero_add, List.getElem_set]
  have h0 := h j hj
  rw [Nat.zero_add] at h0
  by_cases e : i = j
  · subst e
    rw [if_pos rfl]
    refine ⟨?_, World.cell?_setCell_same w _ _ h0.2⟩
    rw [World.cell?_setCell_other w ⟨g, i * 2 + 1, none⟩ ⟨g, i * 2, none⟩ _ (fun c => by injection c; omega)]
    exact h0.1
  · rw [if_neg e, World.cell?_setCell_other w ⟨g, i * 2 + 1, none⟩ ⟨g, j * 2, none⟩ _ (fun c => by injection c; omega), World.cell?_setCell_other w ⟨g, i * 2 + 1, none⟩ ⟨g, j * 2 + 1, none⟩ _ (fun c => by injection c; omega)]
    exact h0
theorem wc_set {L : List Cn} (h : Wc L) {i : Nat} (hi : i < L.length) {n : Nat} (hn : n < 18446744073709551616) : Wc (L.set i (L[i].1, n)) := fun c hc => by
  rcases List.mem_or_eq_of_mem_set hc with k | k
  · exact h c k
  · subst k
    have := h L[i] (List.getElem_mem hi)
    exact ⟨this.1, this.2.1, hn⟩
/-- The marks behind a list, cell by cell. -/
theorem marks_cells {w : World} {g : Nat} {L : List Cn} (h : RowC w g 0 (L ++ [(-7, 7), (-7, 7)])) : (w.cell? ⟨g, L.length * 2, none⟩ = some (.int .i64 (-7)) ∧ w.cell? ⟨g, L.length * 2 + 1, none⟩ = some (.int .u64 7)) ∧ (w.cell? ⟨g, (L.length + 1) * 2, none⟩ = some (.int .i64 (-7)) ∧ w.cell? ⟨g, (L.length + 1) * 2 + 1, none⟩ = some (.int .u64 7)) := by
  have h0 := h L.length (by simp)
  have h1 := h (L.length + 1) (by simp)
  rw [Nat.zero_add] at h0 h1
  have e0 : (L ++ [((-7 : Int), 7), ((-7 : Int), 7)])[L.length]'(by simp) = (-7, 7) := by simp
  have e1 : (L ++ [((-7 : Int), 7), ((-7 : Int), 7)])[L.length + 1]'(by simp) = (-7, 7) := by simp
  rw [e0] at h0
  rw [e1] at h1
  exact ⟨h0, h1⟩
theorem row_left {w : World} {g : Nat} {L M : List Cn} (h : RowC w g 0 (L ++ M)) : RowC w g 0 L := by
  have := h.take L.length
  rwa [List.take_left'] at this
  rfl
/-- The marks, all of them, and all that was there at w9. -/
abbrev MK (p gA i j gB k l : Nat) (w9 W : World) : Prop := W.cell? ⟨p, 0, none⟩ = some (.int .i64 (-7)) ∧ W.cell? ⟨p, 1, none⟩ = some (.int .u64 7) ∧ W.cell? ⟨gA, i * 2, none⟩ = some (.int .i64 (-7)) ∧ W.cell? ⟨gA, i * 2 + 1, none⟩ = some (.int .u64 7) ∧ W.cell? ⟨gA, j * 2, none⟩ = some (.int .i64 (-7)) ∧ W.cell? ⟨gA, j * 2 + 1, none⟩ = some (.int .u64 7) ∧ W.cell? ⟨gB, k * 2, none⟩ = some (.int .i64 (-7)) ∧ W.cell? ⟨gB, k * 2 + 1, none⟩ = some (.int .u64 7) ∧ W.cell? ⟨gB, l * 2, none⟩ = some (.int .i64 (-7)) ∧ W.cell? ⟨gB, l * 2 + 1, none⟩ = some (.int .u64 7) ∧ Below w9.heap.size w9 W
theorem cell_kept {W W' : World} {a : Addr} {u : Value} (hb : Below W.heap.size W W') (h : W.cell? a = some u) : W'.cell? a = some u := (hb.cell (p := a) (lt_of_cell h)).trans h
theorem MK.kept {p gA i j gB k l : Nat} {w9 W W' : World} (h : MK p gA i j gB k l w9 W) (hb : Below W.heap.size W W') : MK p gA i j gB k l w9 W' := by
  obtain ⟨h1, h2, h3, h4, h5, h6, h7, h8, h9, h10, h11⟩ := h
  exact ⟨cell_kept hb h1, cell_kept hb h2, cell_kept hb h3, cell_kept hb h4, cell_kept hb h5, cell_kept hb h6, cell_kept hb h7, cell_kept hb h8, cell_kept hb h9, cell_kept hb h10, bt h11 hb⟩
theorem MK.b {p gA i j gB k l : Nat} {w9 W : World} (h : MK p gA i j gB k l w9 W) : Below w9.heap.size w9 W := h.2.2.2.2.2.2.2.2.2.2
/-- One mark, and all that was there at w9 but what Merge told. -/
abbrev MN (p gA i n0 Bd : Nat) (w9 W : World) : Prop := W.cell? ⟨p, 0, none⟩ = some (.int .i64 (-7)) ∧ W.cell? ⟨p, 1, none⟩ = some (.int .u64 7) ∧ W.cell? ⟨gA, i * 2, none⟩ = some (.int .i64 (-7)) ∧ W.cell? ⟨gA, i * 2 + 1, none⟩ = some (.int .u64 7) ∧ Mid n0 Bd w9 W
theorem MN.kept {p gA i n0 Bd : Nat} {w9 W W' : World} (h : MN p gA i n0 Bd w9 W) (hb : Below W.heap.size W W') : MN p gA i n0 Bd w9 W' := by
  obtain ⟨h1, h2, h3, h4, h5⟩ := h
  exact ⟨cell_kept hb h1, cell_kept hb h2, cell_kept hb h3, cell_kept hb h4, h5.below hb⟩
theorem MN.m {p gA i n0 Bd : Nat} {w9 W : World} (h : MN p gA i n0 Bd w9 W) : Mid n0 Bd w9 W := h.2.2.2.2
theorem cell_mid {n0 B : Nat} {W W' : World} {a : Addr} {u : Value} (hm : Mid n0 B W W') (h : W.cell? a = some u) (ha : a.block < n0) : W'.cell? a = some u := (World.cell?_of_block (hm.block a.block (lt_of_cell h) (by omega))).trans h
theorem same_true {W : World} {v v' : Value} {L : List Cn} (h : SN W v L) (h' : SN W v' L) (hl : L.length ≤ 2097152) : Calls Try.prog 15 #[v, v'] W fun e w' => e = .returned (.bool true) ∧ Below W.heap.size W w' := by
  have := same_sn h h' (by omega) (by omega)
  rwa [decide_eq_true rfl] at this
end Go.Proofs.Ythhoklgfgandpaa
