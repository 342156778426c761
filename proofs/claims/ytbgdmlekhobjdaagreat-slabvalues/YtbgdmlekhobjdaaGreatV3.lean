/- PARTS: the document's Merge. Own work of the verifier. -/
import Derived.Test.YtbgdmlekhobjdaaGreatV2
namespace Go.Proofs.YtbgdmlekhobjdaaGreat
open Go.RowKit

/-- Both parts, the document's, and all that was there. -/
abbrev MT (B : Nat) (ah al bh bl : Int) (a1 a2 : Option Addr) (m1 c1 m2 c2 n n' s c u d mn mx mn' mx' : Nat) (w3 W : World) : Prop := W.cell? ⟨B, 0, none⟩ = some (.int .i64 ah) ∧ W.cell? ⟨B, 1, none⟩ = some (.int .u64 al) ∧ W.cell? ⟨B, 2, none⟩ = some (.slice a1 m1 c1) ∧ W.cell? ⟨B, 3, none⟩ = some (.int .u64 (n : Int)) ∧ W.cell? ⟨B, 4, none⟩ = some (.int .u64 (s : Int)) ∧ W.cell? ⟨B, 5, none⟩ = some (.int .u64 (c : Int)) ∧ W.cell? ⟨B, 6, none⟩ = some (.int .u64 (mn : Int)) ∧ W.cell? ⟨B, 7, none⟩ = some (.int .u64 (mx : Int)) ∧ W.cell? ⟨B + 1, 0, none⟩ = some (.int .i64 bh) ∧ W.cell? ⟨B + 1, 1, none⟩ = some (.int .u64 bl) ∧ W.cell? ⟨B + 1, 2, none⟩ = some (.slice a2 m2 c2) ∧ W.cell? ⟨B + 1, 3, none⟩ = some (.int .u64 (n' : Int)) ∧ W.cell? ⟨B + 1, 4, none⟩ = some (.int .u64 (u : Int)) ∧ W.cell? ⟨B + 1, 5, none⟩ = some (.int .u64 (d : Int)) ∧ W.cell? ⟨B + 1, 6, none⟩ = some (.int .u64 (mn' : Int)) ∧ W.cell? ⟨B + 1, 7, none⟩ = some (.int .u64 (mx' : Int)) ∧ Below w3.heap.size w3 W
theorem mt_of {B : Nat} {ah al bh bl : Int} {a1 a2 : Option Addr} {m1 c1 m2 c2 n n' s c u d mn mx mn' mx' : Nat} {w3 W : World} (h0 : w3.heap[B]? = some (.cells #[.int .i64 ah, .int .u64 al, .slice a1 m1 c1, .int .u64 (n : Int), .int .u64 (s : Int), .int .u64 (c : Int), .int .u64 (mn : Int), .int .u64 (mx : Int)] 37 (0, 0))) (h1 : w3.heap[B + 1]? = some (.cells #[.int .i64 bh, .int .u64 bl, .slice a2 m2 c2, .int .u64 (n' : Int), .int .u64 (u : Int), .int .u64 (d : Int), .int .u64 (mn' : Int), .int .u64 (mx' : Int)] 37 (0, 0))) (hb : Below w3.heap.size w3 W) : MT B ah al bh bl a1 a2 m1 c1 m2 c2 n n' s c u d mn mx mn' mx' w3 W := by
  have k0 : Hid (W.heap[B]? = some _) := hid_below h0 hb (Array.getElem?_eq_some_iff.1 h0).1
  have k1 : Hid (W.heap[B + 1]? = some _) := hid_below h1 hb (Array.getElem?_eq_some_iff.1 h1).1
  obtain ⟨a10, a11, a12, a13, a14, a15, a16, a17⟩ := eight_cells k0
  obtain ⟨b10, b11, b12, b13, b14, b15, b16, b17⟩ := eight_cells k1
  exact ⟨a10, a11, a12, a13, a14, a15, a16, a17, b10, b11, b12, b13, b14, b15, b16, b17, hb⟩
theorem MT.b {B : Nat} {ah al bh bl : Int} {a1 a2 : Option Addr} {m1 c1 m2 c2 n n' s c u d mn mx mn' mx' : Nat} {w3 W : World} (h : MT B ah al bh bl a1 a2 m1 c1 m2 c2 n n' s c u d mn mx mn' mx' w3 W) : Below w3.heap.size w3 W := by
  obtain ⟨a10, a11, a12, a13, a14, a15, a16, a17, b10, b11, b12, b13, b14, b15, b16, b17, hb⟩ := h
  exact hb
theorem MT.kept {B : Nat} {ah al bh bl : Int} {a1 a2 : Option Addr} {m1 c1 m2 c2 n n' s c u d mn mx mn' mx' : Nat} {w3 W : World} {W' : World} (h : MT B ah al bh bl a1 a2 m1 c1 m2 c2 n n' s c u d mn mx mn' mx' w3 W) (k : Below W.heap.size W W') : MT B ah al bh bl a1 a2 m1 c1 m2 c2 n n' s c u d mn mx mn' mx' w3 W' := by
  obtain ⟨a10, a11, a12, a13, a14, a15, a16, a17, b10, b11, b12, b13, b14, b15, b16, b17, hb⟩ := h
  exact ⟨cell_kept k a10, cell_kept k a11, cell_kept k a12, cell_kept k a13, cell_kept k a14, cell_kept k a15, cell_kept k a16, cell_kept k a17, cell_kept k b10, cell_kept k b11, cell_kept k b12, cell_kept k b13, cell_kept k b14, cell_kept k b15, cell_kept k b16, cell_kept k b17, bt hb k⟩
theorem MT.drew {B : Nat} {ah al bh bl : Int} {a1 a2 : Option Addr} {m1 c1 m2 c2 n n' s c u d mn mx mn' mx' : Nat} {w3 W : World} (h : MT B ah al bh bl a1 a2 m1 c1 m2 c2 n n' s c u d mn mx mn' mx' w3 W) : MT B ah al bh bl a1 a2 m1 c1 m2 c2 n n' s c u d mn mx mn' mx' w3 W.drew := h.kept (Below.refl _ _).drew
theorem sg_lt {a b : Nat} : Pr.sg a b < 0 ↔ a < b := by unfold Pr.sg; split <;> (try split) <;> omega
theorem sg_neg1 {a b : Nat} : Pr.sg a b = -1 ↔ a < b := by unfold Pr.sg; split <;> (try split) <;> omega
theorem sg_one {a b : Nat} : Pr.sg a b = 1 ↔ b < a := by unfold Pr.sg; split <;> (try split) <;> omega
/-- Where the document lays its sum out. -/
def PZ (w3 : World) (k : Nat) (W : World) : Prop := W.heap[k]? = some (.cells #[.int .i64 0, .int .u64 0, .slice none 0 0, .int .u64 0, .int .u64 0, .int .u64 0, .int .u64 0, .int .u64 0] 37 (0, 0)) ∧ w3.heap.size ≤ k
theorem pz_step {w3 W W' : World} {k : Nat} (h : Hid (PZ w3 k W)) (hb : Below W.heap.size W W') : Hid (PZ w3 k W') := ⟨by rw [hb.block k (Array.getElem?_eq_some_iff.1 h.out.1).1]; exact h.out.1, h.out.2⟩
theorem pz_new {w3 V W' : World} (hs : w3.heap.size ≤ V.heap.size) (hb : Below (V.alloc (.cells #[.int .i64 0, .int .u64 0, .slice none 0 0, .int .u64 0, .int .u64 0, .int .u64 0, .int .u64 0, .int .u64 0] 37)).heap.size (V.alloc (.cells #[.int .i64 0, .int .u64 0, .slice none 0 0, .int .u64 0, .int .u64 0, .int .u64 0, .int .u64 0, .int .u64 0] 37)) W') : Hid (PZ w3 V.heap.size W') := ⟨by rw [hb.block V.heap.size (by simp)]; exact new_1 V _, hs⟩
theorem below_undrew {X W' : World} (hb : Below X.drew.heap.size X.drew W') : Below X.heap.size X W' := ⟨hb.os, hb.tape, hb.output, hb.size, hb.block⟩
theorem pz_newd {w3 V W' : World} (hs : w3.heap.size ≤ V.heap.size) (hb : Below (V.alloc (.cells #[.int .i64 0, .int .u64 0, .slice none 0 0, .int .u64 0, .int .u64 0, .int .u64 0, .int .u64 0, .int .u64 0] 37)).drew.heap.size (V.alloc (.cells #[.int .i64 0, .int .u64 0, .slice none 0 0, .int .u64 0, .int .u64 0, .int .u64 0, .int .u64 0, .int .u64 0] 37)).drew W') : Hid (PZ w3 V.heap.size W') := pz_new hs (below_undrew hb)
theorem pz_h {w3 W : World} {k : Nat} (h : Hid (PZ w3 k W)) : Hid (W.heap[k]? = some (.cells #[.int .i64 0, .int .u64 0, .slice none 0 0, .int .u64 0, .int .u64 0, .int .u64 0, .int .u64 0, .int .u64 0] 37 (0, 0))) := h.out.1
theorem pz_c0 {w3 W : World} {k : Nat} (h : Hid (PZ w3 k W)) : W.cell? ⟨k, 0, none⟩ = some (.int .i64 0) := (eight_cells (pz_h h)).1
theorem pz_c1 {w3 W : World} {k : Nat} (h : Hid (PZ w3 k W)) : W.cell? ⟨k, 1, none⟩ = some (.int .u64 0) := (eight_cells (pz_h h)).2.1
theorem pz_c2 {w3 W : World} {k : Nat} (h : Hid (PZ w3 k W)) : W.cell? ⟨k, 2, none⟩ = some (.slice none 0 0) := (eight_cells (pz_h h)).2.2.1
theorem pz_c3 {w3 W : World} {k : Nat} (h : Hid (PZ w3 k W)) : W.cell? ⟨k, 3, none⟩ = some (.int .u64 0) := (eight_cells (pz_h h)).2.2.2.1
theorem pz_c4 {w3 W : World} {k : Nat} (h : Hid (PZ w3 k W)) : W.cell? ⟨k, 4, none⟩ = some (.int .u64 0) := (eight_cells (pz_h h)).2.2.2.2.1
theorem pz_c5 {w3 W : World} {k : Nat} (h : Hid (PZ w3 k W)) : W.cell? ⟨k, 5, none⟩ = some (.int .u64 0) := (eight_cells (pz_h h)).2.2.2.2.2.1
theorem pz_c6 {w3 W : World} {k : Nat} (h : Hid (PZ w3 k W)) : W.cell? ⟨k, 6, none⟩ = some (.int .u64 0) := (eight_cells (pz_h h)).2.2.2.2.2.2.1
theorem pz_c7 {w3 W : World} {k : Nat} (h : Hid (PZ w3 k W)) : W.cell? ⟨k, 7, none⟩ = some (.int .u64 0) := (eight_cells (pz_h h)).2.2.2.2.2.2.2
theorem pz_f0 {w3 W : World} {k : Nat} (h : Hid (PZ w3 k W)) : W.frozen? ⟨k, 0, none⟩ = false := hid_fr (pz_h h) 0
theorem pz_f1 {w3 W : World} {k : Nat} (h : Hid (PZ w3 k W)) : W.frozen? ⟨k, 1, none⟩ = false := hid_fr (pz_h h) 1
theorem pz_f2 {w3 W : World} {k : Nat} (h : Hid (PZ w3 k W)) : W.frozen? ⟨k, 2, none⟩ = false := hid_fr (pz_h h) 2
theorem pz_f3 {w3 W : World} {k : Nat} (h : Hid (PZ w3 k W)) : W.frozen? ⟨k, 3, none⟩ = false := hid_fr (pz_h h) 3
theorem pz_f4 {w3 W : World} {k : Nat} (h : Hid (PZ w3 k W)) : W.frozen? ⟨k, 4, none⟩ = false := hid_fr (pz_h h) 4
theorem pz_f5 {w3 W : World} {k : Nat} (h : Hid (PZ w3 k W)) : W.frozen? ⟨k, 5, none⟩ = false := hid_fr (pz_h h) 5
theorem pz_f6 {w3 W : World} {k : Nat} (h : Hid (PZ w3 k W)) : W.frozen? ⟨k, 6, none⟩ = false := hid_fr (pz_h h) 6
theorem pz_f7 {w3 W : World} {k : Nat} (h : Hid (PZ w3 k W)) : W.frozen? ⟨k, 7, none⟩ = false := hid_fr (pz_h h) 7
theorem MT.sput {B : Nat} {ah al bh bl : Int} {a1 a2 : Option Addr} {m1 c1 m2 c2 n n' s c u d mn mx mn' mx' : Nat} {w3 W : World} {k : Nat} (h : MT B ah al bh bl a1 a2 m1 c1 m2 c2 n n' s c u d mn mx mn' mx' w3 W) (hi3 : B + 1 + 1 < w3.heap.size) (hk : w3.heap.size ≤ k) (v0 v1 v2 v3 v4 v5 v6 v7 : Value) : MT B ah al bh bl a1 a2 m1 c1 m2 c2 n n' s c u d mn mx mn' mx' w3 (put8 W k v0 v1 v2 v3 v4 v5 v6 v7) := by
  obtain ⟨a10, a11, a12, a13, a14, a15, a16, a17, b10, b11, b12, b13, b14, b15, b16, b17, hb⟩ := h
  have hm := mid_put8 W k v0 v1 v2 v3 v4 v5 v6 v7
  have kc : ∀ (a : Addr) (x : Value), a.block < w3.heap.size → W.cell? a = some x → (put8 W k v0 v1 v2 v3 v4 v5 v6 v7).cell? a = some x := fun a x ha hx => (World.cell?_of_block (hm.block a.block (lt_of_cell hx) (by omega))).trans hx
  have l0 : B < w3.heap.size := by omega
  have l1 : B + 1 < w3.heap.size := by omega
  exact ⟨kc _ _ l0 a10, kc _ _ l0 a11, kc _ _ l0 a12, kc _ _ l0 a13, kc _ _ l0 a14, kc _ _ l0 a15, kc _ _ l0 a16, kc _ _ l0 a17, kc _ _ l1 b10, kc _ _ l1 b11, kc _ _ l1 b12, kc _ _ l1 b13, kc _ _ l1 b14, kc _ _ l1 b15, kc _ _ l1 b16, kc _ _ l1 b17, ⟨hm.os.trans hb.os, hm.tape.trans hb.tape, hm.output.trans hb.output, Nat.le_trans hb.size hm.size, fun j hj => (hm.block j (Nat.lt_of_lt_of_le hj hb.size) (by omega)).trans (hb.block j hj)⟩⟩
theorem MT.allocd {B : Nat} {ah al bh bl : Int} {a1 a2 : Option Addr} {m1 c1 m2 c2 n n' s c u d mn mx mn' mx' : Nat} {w3 W : World} (h : MT B ah al bh bl a1 a2 m1 c1 m2 c2 n n' s c u d mn mx mn' mx' w3 W) (o : Obj) : MT B ah al bh bl a1 a2 m1 c1 m2 c2 n n' s c u d mn mx mn' mx' w3 (W.alloc o).drew := (h.kept (bel1 _ _)).drew
theorem MT.chain {B : Nat} {ah al bh bl : Int} {a1 a2 : Option Addr} {m1 c1 m2 c2 n n' s c u d mn mx mn' mx' : Nat} {w3 W : World} {k : Nat} (h : MT B ah al bh bl a1 a2 m1 c1 m2 c2 n n' s c u d mn mx mn' mx' w3 W) (hi3 : B + 1 + 1 < w3.heap.size) (hp : Hid (PZ w3 k W)) (v0 v1 v2 v3 v4 v5 v6 v7 : Value) : MT B ah al bh bl a1 a2 m1 c1 m2 c2 n n' s c u d mn mx mn' mx' w3 ((((((((W.setCell ⟨k, 0, none⟩ v0).setCell ⟨k, 1, none⟩ v1).setCell ⟨k, 2, none⟩ v2).setCell ⟨k, 3, none⟩ v3).setCell ⟨k, 4, none⟩ v4).setCell ⟨k, 5, none⟩ v5).setCell ⟨k, 6, none⟩ v6).setCell ⟨k, 7, none⟩ v7) :=
  MT.sput h hi3 hp.out.2 v0 v1 v2 v3 v4 v5 v6 v7
/-- What stands behind the document's first sums. -/
structure RQ (B : Nat) (w w3 : World) (pk : Nat) (cs : Array Value) (v : Value) (O : List Cn) (W : World) : Prop where
  prt : W.heap[pk]? = some (.cells cs 37 (0, 0))
  res : W.heap[B + 1 + 1]? = some (.cells #[.int .i64 0, .int .u64 0, .slice none 0 0, .int .u64 0, .int .u64 0, .int .u64 0, .int .u64 0, .int .u64 0] 37 (0, 0))
  ge : w3.heap.size ≤ pk
  bel : Below w3.heap.size w3 W
  own : W.ownsRow w3.heap.size 45 2 v O.length (fl O)
  ne : v.ownBlock ≠ some pk
theorem own_ne {B n pk : Nat} {w w' : World} {v : Value} {xs : List Value} (h : w.ownsRow B 45 2 v n xs) (hm : Mid pk (pk + 1) w w') (hne : v.ownBlock ≠ some pk) : w'.ownsRow B 45 2 v n xs := by
  refine ⟨h.1, ?_⟩
  rcases h.2 with k | ⟨g, cap, cur, hv, hg, hh, hrest⟩
  · exact Or.inl k
  · refine Or.inr ⟨g, cap, cur, hv, hg, (hm.block g (Array.getElem?_eq_some_iff.1 hh).1 (fun c => hne ?_)).trans hh, hrest⟩
    rw [hv]
    show some g = some pk
    rw [show g = pk by omega]
/-- The sum's block was made last. -/
theorem rq_last {B : Nat} {w w3 V w5 w6 : World} {cs : Array Value} {v : Value} {O : List Cn} (hg2 : w3.heap[B + 1 + 1]? = some (.cells #[.int .i64 0, .int .u64 0, .slice none 0 0, .int .u64 0, .int .u64 0, .int .u64 0, .int .u64 0, .int .u64 0] 37 (0, 0))) (hb : Below w3.heap.size w3 w6) (hG : GC V.heap.size V v O w5 ∧ w3.heap.size ≤ V.heap.size) (h6 : Below w5.heap.size w5 w6) : RQ B w w3 w6.heap.size cs v O (w6.alloc (.cells cs 37)) := by
  have hl := (Array.getElem?_eq_some_iff.1 hg2).1
  have ho := own_le (own_keep hG.1.own h6) hG.2
  refine ⟨new_1 w6 _, ?_, hb.size, hb.trans ((bel1 w6 _).mono hb.size), own_keep ho (bel1 w6 _), fun e => ?_⟩
  · rw [(bel1 w6 _).block _ (Nat.lt_of_lt_of_le hl hb.size), hb.block _ hl]; exact hg2
  · have := (ho.lt _ e).2; omega
/-- .. ahead of the counts' merge, or between. -/
theorem rq_put {B : Nat} {w w3 w6 : World} {pk : Nat} {v0 v1 v2 v3 v4 v5 v6 v7 : Value} {v : Value} {O : List Cn} (hg2 : w3.heap[B + 1 + 1]? = some (.cells #[.int .i64 0, .int .u64 0, .slice none 0 0, .int .u64 0, .int .u64 0, .int .u64 0, .int .u64 0, .int .u64 0] 37 (0, 0))) (hb : Below w3.heap.size w3 w6) (hp : Hid (PZ w3 pk w6)) (ho : w6.ownsRow w3.heap.size 45 2 v O.length (fl O)) (hne : v.ownBlock ≠ some pk) : RQ B w w3 pk #[v0, v1, v2, v3, v4, v5, v6, v7] v O (put8 w6 pk v0 v1 v2 v3 v4 v5 v6 v7) := by
  have hl := (Array.getElem?_eq_some_iff.1 hg2).1
  have hm := mid_put8 w6 pk v0 v1 v2 v3 v4 v5 v6 v7
  have hk := hp.out.2
  refine ⟨set_eight hp.out.1, ?_, hk, ⟨hm.os.trans hb.os, hm.tape.trans hb.tape, hm.output.trans hb.output, Nat.le_trans hb.size hm.size, fun j hj => (hm.block j (Nat.lt_of_lt_of_le hj hb.size) (by omega)).trans (hb.block j hj)⟩, own_ne ho hm hne, hne⟩
  rw [hm.block _ (Nat.lt_of_lt_of_le hl hb.size) (by omega), hb.block _ hl]; exact hg2
theorem rq_before {B : Nat} {w w3 V w5 w6 : World} {pk : Nat} {v0 v1 v2 v3 v4 v5 v6 v7 : Value} {v : Value} {O : List Cn} (hg2 : w3.heap[B + 1 + 1]? = some (.cells #[.int .i64 0, .int .u64 0, .slice none 0 0, .int .u64 0, .int .u64 0, .int .u64 0, .int .u64 0, .int .u64 0] 37 (0, 0))) (hb : Below w3.heap.size w3 w6) (hp : Hid (PZ w3 pk w6)) (hG : GC V.heap.size V v O w5 ∧ w3.heap.size ≤ V.heap.size) (h6 : Below w5.heap.size w5 w6) (hV : pk < V.heap.size) : RQ B w w3 pk #[v0, v1, v2, v3, v4, v5, v6, v7] v O (put8 w6 pk v0 v1 v2 v3 v4 v5 v6 v7) :=
  rq_put hg2 hb hp (own_le (own_keep hG.1.own h6) hG.2) (fun e => by have := (hG.1.own.lt _ e).1; omega)
theorem rq_between {B : Nat} {w w3 V w5 w6 : World} {pk : Nat} {v0 v1 v2 v3 v4 v5 v6 v7 : Value} {v : Value} {O : List Cn} (hg2 : w3.heap[B + 1 + 1]? = some (.cells #[.int .i64 0, .int .u64 0, .slice none 0 0, .int .u64 0, .int .u64 0, .int .u64 0, .int .u64 0, .int .u64 0] 37 (0, 0))) (hb : Below w3.heap.size w3 w6) (hp : Hid (PZ w3 pk w6)) (hG : GC V.heap.size V v O w5 ∧ w3.heap.size ≤ V.heap.size) (h6 : Below w5.heap.size w5 w6) (hV : w5.heap.size ≤ pk) : RQ B w w3 pk #[v0, v1, v2, v3, v4, v5, v6, v7] v O (put8 w6 pk v0 v1 v2 v3 v4 v5 v6 v7) :=
  rq_put hg2 hb hp (own_le (own_keep hG.1.own h6) hG.2) (fun e => by have := (hG.1.own.lt _ e).2; omega)
theorem pz_lt {w3 W : World} {k : Nat} (h : Hid (PZ w3 k W)) : k < W.heap.size := (Array.getElem?_eq_some_iff.1 h.out.1).1
theorem rq_set6 {B : Nat} {w w3 W : World} {pk : Nat} {v0 v1 v2 v3 v4 v5 v6 v7 x : Value} {v : Value} {O : List Cn} (hi3 : B + 1 + 1 < w3.heap.size) (h : Hid (RQ B w w3 pk #[v0, v1, v2, v3, v4, v5, v6, v7] v O W)) : Hid (RQ B w w3 pk #[v0, v1, v2, v3, v4, v5, x, v7] v O (W.setCell ⟨pk, 6, none⟩ x)) := by
  have hm : Mid pk (pk + 1) W (W.setCell ⟨pk, 6, none⟩ x) := (Mid.refl pk (pk + 1) W).setCell (p := ⟨pk, 6, none⟩) (Or.inl ⟨Nat.le_refl _, Nat.lt_succ_self _⟩) _
  have hk := h.out.ge
  have hb := h.out.bel
  refine ⟨by rw [heap_setCell_same _ pk 6 _ _ _ h.out.prt]; rfl, ?_, hk, ⟨hm.os.trans hb.os, hm.tape.trans hb.tape, hm.output.trans hb.output, Nat.le_trans hb.size hm.size, fun j hj => (hm.block j (Nat.lt_of_lt_of_le hj hb.size) (by omega)).trans (hb.block j hj)⟩, own_ne h.out.own hm h.out.ne, h.out.ne⟩
  rw [hm.block _ (Nat.lt_of_lt_of_le hi3 hb.size) (by omega)]; exact h.out.res
theorem rq_set7 {B : Nat} {w w3 W : World} {pk : Nat} {v0 v1 v2 v3 v4 v5 v6 v7 x : Value} {v : Value} {O : List Cn} (hi3 : B + 1 + 1 < w3.heap.size) (h : Hid (RQ B w w3 pk #[v0, v1, v2, v3, v4, v5, v6, v7] v O W)) : Hid (RQ B w w3 pk #[v0, v1, v2, v3, v4, v5, v6, x] v O (W.setCell ⟨pk, 7, none⟩ x)) := by
  have hm : Mid pk (pk + 1) W (W.setCell ⟨pk, 7, none⟩ x) := (Mid.refl pk (pk + 1) W).setCell (p := ⟨pk, 7, none⟩) (Or.inl ⟨Nat.le_refl _, Nat.lt_succ_self _⟩) _
  have hk := h.out.ge
  have hb := h.out.bel
  refine ⟨by rw [heap_setCell_same _ pk 7 _ _ _ h.out.prt]; rfl, ?_, hk, ⟨hm.os.trans hb.os, hm.tape.trans hb.tape, hm.output.trans hb.output, Nat.le_trans hb.size hm.size, fun j hj => (hm.block j (Nat.lt_of_lt_of_le hj hb.size) (by omega)).trans (hb.block j hj)⟩, own_ne h.out.own hm h.out.ne, h.out.ne⟩
  rw [hm.block _ (Nat.lt_of_lt_of_le hi3 hb.size) (by omega)]; exact h.out.res
theorem rq_done {B : Nat} {w w3 W : World} {pk : Nat} {cs : Array Value} {v : Value} {O : List Cn} (hi3 : B + 1 + 1 < w3.heap.size) (hB : Hid (w.heap.size = B)) (hb3 : Hid (Below B w w3)) (h : Hid (RQ B w w3 pk cs v O W)) (v0 v1 v2 v3 v4 v5 v6 v7 : Value) : Hid (GC w.heap.size w v O (put8 W (B + 1 + 1) v0 v1 v2 v3 v4 v5 v6 v7)) := by
  have hm := mid_put8 W (B + 1 + 1) v0 v1 v2 v3 v4 v5 v6 v7
  have hb := h.out.bel
  have h3 := hb3.out
  have e := hB.out
  refine ⟨own_le (own_ne h.out.own hm (fun e' => by have := (h.out.own.lt _ e').1; omega)) (by omega), ?_, by have := hm.size; have := hb.size; omega⟩
  rw [e]
  exact ⟨(hm.os.trans hb.os).trans h3.os, (hm.tape.trans hb.tape).trans h3.tape, (hm.output.trans hb.output).trans h3.output, by have := hm.size; have := hb.size; have := h3.size; omega, fun j hj => (hm.block j (by have := hb.size; omega) (by omega)).trans ((hb.block j (by omega)).trans (h3.block j hj))⟩
theorem ends_t {n n' a b x y : Nat} (h : (decide (n = 0) || (!decide (n' = 0) && decide (a < b))) = true) : (if n = 0 then x else if n' = 0 then y else if a < b then x else y) = x := by
  simp only [Bool.or_eq_true, Bool.and_eq_true, Bool.not_eq_true', decide_eq_true_eq, decide_eq_false_iff_not] at h
  split
  · rfl
  · split
    · omega
    · split
      · rfl
      · omega
theorem ends_f {n n' a b x y : Nat} (h : (decide (n = 0) || (!decide (n' = 0) && decide (a < b))) = false) : (if n = 0 then x else if n' = 0 then y else if a < b then x else y) = y := by
  rw [← Bool.not_eq_true] at h
  simp only [Bool.or_eq_true, Bool.and_eq_true, Bool.not_eq_true', decide_eq_true_eq, decide_eq_false_iff_not] at h
  split
  · omega
  · split
    · rfl
    · split
      · omega
      · rfl
/-- What is told. -/
def MdR (W : World) (T1 T0 : Int) (N E0 E1 r q : Nat) (L : List Cn) (e : Ending) (w' : World) : Prop := ∃ v'' O, e = .returned (rpart T1 T0 v'' N r q E0 E1) ∧ IsMerge O L ∧ GC W.heap.size W v'' O w'
set_option maxRecDepth 10000 in
set_option maxHeartbeats 60000000 in
theorem rpmerge_any (ah al bh bl : Int) (a1 a2 : Option Addr) (m1 c1 m2 c2 n n' s c u d mn mx mn' mx' : Nat) (A C : List Cn) (w : World) (wa : Wf ah al) (wb : Wf bh bl) (hA : SN w (.slice a1 m1 c1) A) (hC : SN w (.slice a2 m2 c2) C) (hW : Wc (A ++ C)) (hlA : A.length ≤ 1048576) (hlC : C.length ≤ 1048576)
    (hs : s < 18446744073709551616) (hc : c < 18446744073709551616) (hu : u < 18446744073709551616) (hd : d < 18446744073709551616) (h1 : mn < 18446744073709551616) (h2 : mx < 18446744073709551616) (h3 : mn' < 18446744073709551616) (h4 : mx' < 18446744073709551616) :
    Calls Tryz.prog 7 #[rpart ah al (.slice a1 m1 c1) n s c mn mx, rpart bh bl (.slice a2 m2 c2) n' u d mn' mx'] w fun e w' => MdR w (hiOf (rnd (val ah al + val bh bl))) (loOf (rnd (val ah al + val bh bl))) ((n + n') % 18446744073709551616) (endF n n' mn mn' (-1)) (endF n n' mx mx' 1) (Soft.fa s u) (Soft.fa (Soft.fa c d) (Soft.fl s u)) (A ++ C) e w' := by
  obtain ⟨w3, hw3⟩ : ∃ w3, ((w.alloc (.cells #[.int .i64 ah, .int .u64 al, .slice a1 m1 c1, .int .u64 (n : Int), .int .u64 (s : Int), .int .u64 (c : Int), .int .u64 (mn : Int), .int .u64 (mx : Int)] 37)).alloc (.cells #[.int .i64 bh, .int .u64 bl, .slice a2 m2 c2, .int .u64 (n' : Int), .int .u64 (u : Int), .int .u64 (d : Int), .int .u64 (mn' : Int), .int .u64 (mx' : Int)] 37)).alloc (.cells #[.int .i64 0, .int .u64 0, .slice none 0 0, .int .u64 0, .int .u64 0, .int .u64 0, .int .u64 0, .int .u64 0] 37) = w3 := ⟨_, rfl⟩
  have hb3 : Below w.heap.size w w3 := by rw [← hw3]; exact bel3 _ _ _ _
  have g0 : w3.heap[w.heap.size]? = some (.cells #[.int .i64 ah, .int .u64 al, .slice a1 m1 c1, .int .u64 (n : Int), .int .u64 (s : Int), .int .u64 (c : Int), .int .u64 (mn : Int), .int .u64 (mx : Int)] 37 (0, 0)) := by rw [← hw3]; exact new3_0 _ _ _ _
  have g1 : w3.heap[w.heap.size + 1]? = some (.cells #[.int .i64 bh, .int .u64 bl, .slice a2 m2 c2, .int .u64 (n' : Int), .int .u64 (u : Int), .int .u64 (d : Int), .int .u64 (mn' : Int), .int .u64 (mx' : Int)] 37 (0, 0)) := by rw [← hw3]; exact new3_1 _ _ _ _
  have g2 : w3.heap[w.heap.size + 1 + 1]? = some (.cells #[.int .i64 0, .int .u64 0, .slice none 0 0, .int .u64 0, .int .u64 0, .int .u64 0, .int .u64 0, .int .u64 0] 37 (0, 0)) := by rw [← hw3]; exact new3_2 _ _ _ _
  have HMS : Hid (MT w.heap.size ah al bh bl a1 a2 m1 c1 m2 c2 n n' s c u d mn mx mn' mx' w3 w3) := mt_of g0 g1 (Below.refl _ _)
  have HG : Hid (w3.heap[w.heap.size + 1 + 1]? = some (.cells #[.int .i64 0, .int .u64 0, .slice none 0 0, .int .u64 0, .int .u64 0, .int .u64 0, .int .u64 0, .int .u64 0] 37 (0, 0))) := g2
  have HMC : Hid (∀ W, MT w.heap.size ah al bh bl a1 a2 m1 c1 m2 c2 n n' s c u d mn mx mn' mx' w3 W → Calls Tryz.prog 26 #[.slice a1 m1 c1, .slice a2 m2 c2] W fun e w' => ∃ ao k cap O, e = .returned (.slice ao k cap) ∧ Hid (IsMerge O (A ++ C)) ∧ Hid (GC W.heap.size W (.slice ao k cap) O w' ∧ w3.heap.size ≤ W.heap.size) ∧ Below W.heap.size W w') := fun W hW' => (rmerge_sn W _ _ A C (hA.below (bt hb3 hW'.b)) (hC.below (bt hb3 hW'.b)) hW hlA hlC).mono fun e w' ⟨v'', O, e1, e2, e3⟩ => by
    obtain ⟨ao, k, cap, rfl⟩ := gc_form e3
    exact ⟨ao, k, cap, O, e1, e2, ⟨e3, hW'.b.size⟩, e3.below⟩
  have HAD : Hid (∀ W, Calls Tryz.prog 25 #[.agg #[.int .i64 ah, .int .u64 al], .agg #[.int .i64 bh, .int .u64 bl]] W fun e w' => e = .returned (.agg #[.int .i64 (hiOf (rnd (val ah al + val bh bl))), .int .u64 (loOf (rnd (val ah al + val bh bl)))]) ∧ Below W.heap.size W w') := fun W => zadd ah al bh bl wa wb W
  have HPM : Hid (∀ W, Calls Tryz.prog 27 #[.agg #[.int .u64 (s : Int), .int .u64 (c : Int)], .agg #[.int .u64 (u : Int), .int .u64 (d : Int)]] W fun e w' => e = .returned (.agg #[.int .u64 ((Soft.fa s u : Nat) : Int), .int .u64 ((Soft.fa (Soft.fa c d) (Soft.fl s u) : Nat) : Int)]) ∧ Below W.heap.size W w') := fun W => Pr.zmerge s c u d hs hc hu hd W
  have HE0 : Hid (∀ W, Calls Tryz.prog 28 #[.int .u64 (mn' : Int), .int .u64 (mn : Int)] W fun e w' => e = .returned (.bool (decide (Pr.rk mn' < Pr.rk mn))) ∧ w' = W) := fun W => by
    have := ahead_any mn' mn h3 h1 W
    simp only [sg_lt] at this
    exact this
  have HE1 : Hid (∀ W, Calls Tryz.prog 28 #[.int .u64 (mx : Int), .int .u64 (mx' : Int)] W fun e w' => e = .returned (.bool (decide (Pr.rk mx < Pr.rk mx'))) ∧ w' = W) := fun W => by
    have := ahead_any mx mx' h2 h4 W
    simp only [sg_lt] at this
    exact this
  have HN : Hid (IntKind.u64.wrap ((n : Int) + (n' : Int)) = (((n + n') % 18446744073709551616 : Nat) : Int)) := by unfold Hid; rw [IntKind.wrap_u64]; omega
  have HB3 : Hid (Below w.heap.size w w3) := hb3
  have hi3 : w.heap.size + 1 + 1 < w3.heap.size := (Array.getElem?_eq_some_iff.1 g2).1
  have HF0 : Hid (endF n n' mn mn' (-1) = if n = 0 then mn' else if n' = 0 then mn else if Pr.rk mn' < Pr.rk mn then mn' else mn) := by unfold Hid endF; simp only [sg_neg1]
  have HF1 : Hid (endF n n' mx mx' 1 = if n = 0 then mx' else if n' = 0 then mx else if Pr.rk mx < Pr.rk mx' then mx' else mx) := by unfold Hid endF; simp only [sg_one]
  clear g0 g1 g2 hA hC hb3 hW
  generalize endF n n' mn mn' (-1) = E0 at *
  generalize endF n n' mx mx' 1 = E1 at *
  generalize hiOf (rnd (val ah al + val bh bl)) = T1 at *
  generalize loOf (rnd (val ah al + val bh bl)) = T0 at *
  generalize Soft.fa s u = r at *
  generalize Soft.fa (Soft.fa c d) (Soft.fl s u) = q at *
  generalize Pr.rk mn' = r1 at *
  generalize Pr.rk mn = r2 at *
  generalize Pr.rk mx = r3 at *
  generalize Pr.rk mx' = r4 at *
  go_enter Tryz.func7, Tryz.ntmps7
  go_upto_region 1 with fail
  clear hw3
  generalize hB : w.heap.size = B at *
  have HBB : Hid (w.heap.size = B) := hB
  clear hB
  have HPzn : Hid (w3.heap.size ≤ w3.heap.size) := Nat.le_refl _
  have hmsd := MT.drew HMS.out
  have HMSd := hid_of hmsd
  clear hmsd
  go_cut [5] from 8 (fun x W => ∃ pk ao k cap O, x = .pointer (some ⟨pk, 0, none⟩) ∧ Hid (RQ B w w3 pk #[.int .i64 T1, .int .u64 T0, .slice ao k cap, .int .u64 (IntKind.u64.wrap ((n : Int) + (n' : Int))), .int .u64 (r : Int), .int .u64 (q : Int), .int .u64 (mn : Int), .int .u64 (mx : Int)] (.slice ao k cap) O W) ∧ Hid (IsMerge O (A ++ C)))
  case first =>
      go_region_held3 (fun W => MT B ah al bh bl a1 a2 m1 c1 m2 c2 n n' s c u d mn mx mn' mx' w3 W)
        (first | with_reducible assumption | with_reducible exact MT.chain hk6 hi3 HP6 _ _ _ _ _ _ _ _ | with_reducible exact HMS.out | with_reducible exact HMSd.out | with_reducible exact MT.allocd HMS.out _ | with_reducible exact MT.kept (by assumption) (bel1 _ _))
        (first
          | (go_at_call 25; with_reducible refine Calls.mono (HAD.out _) ?_; rintro e w4 ⟨rfl, hb4⟩; have hk4 := MT.kept (by assumption) hb4; (first | with_reducible (have HP4 := pz_newd HPzn.out hb4) | skip))
          | (go_at_call 26; with_reducible refine Calls.mono (HMC.out _ (by assumption)) ?_; rintro e w5 ⟨ao, k, cap, O, rfl, HI, HGC, hb5⟩; have hk5 := MT.kept (by assumption) hb5; (first | with_reducible (have HP5 := pz_step HP4 hb5) | with_reducible (have HP5 := pz_new (MT.b hk4).size hb5) | skip))
          | (go_at_call 27; with_reducible refine Calls.mono (HPM.out _) ?_; rintro e w6 ⟨rfl, hb6⟩; have hk6 := MT.kept (by assumption) hb6; (first | with_reducible (have HP6 := pz_step HP5 hb6) | with_reducible (have HP6 := pz_new (MT.b hk5).size hb6) | skip); (first | (have x0 := pz_c0 HP6; have f0 := pz_f0 HP6; have x1 := pz_c1 HP6; have f1 := pz_f1 HP6; have x2 := pz_c2 HP6; have f2 := pz_f2 HP6; have x3 := pz_c3 HP6; have f3 := pz_f3 HP6; have x4 := pz_c4 HP6; have f4 := pz_f4 HP6; have x5 := pz_c5 HP6; have f5 := pz_f5 HP6; have x6 := pz_c6 HP6; have f6 := pz_f6 HP6; have x7 := pz_c7 HP6; have f7 := pz_f7 HP6) | skip)))
      · rename_i hHeld
        clear hHeld
        go_wp2_with fail
        go_meet
        have hE := rq_last (w := w) (cs := #[.int .i64 T1, .int .u64 T0, .slice ao k cap, .int .u64 (IntKind.u64.wrap ((n : Int) + (n' : Int))), .int .u64 (r : Int), .int .u64 (q : Int), .int .u64 (mn : Int), .int .u64 (mx : Int)]) HG.out (MT.b hk6) HGC.out hb6
        exact ⟨_, ao, k, cap, O, rfl, hE, HI⟩
      · rename_i hHeld
        clear hHeld
        go_wp2_with fail
        go_meet
        have hE := rq_between (w := w) (v0 := .int .i64 T1) (v1 := .int .u64 T0) (v2 := .slice ao k cap) (v3 := .int .u64 (IntKind.u64.wrap ((n : Int) + (n' : Int)))) (v4 := .int .u64 (r : Int)) (v5 := .int .u64 (q : Int)) (v6 := .int .u64 (mn : Int)) (v7 := .int .u64 (mx : Int)) HG.out (MT.b hk6) HP6 HGC.out (bt (bel1 _ _) hb6) (Nat.le_refl _)
        exact ⟨_, ao, k, cap, O, rfl, hE, HI⟩
      · rename_i hHeld
        clear hHeld
        go_wp2_with fail
        go_meet
        have hE := rq_before (w := w) (v0 := .int .i64 T1) (v1 := .int .u64 T0) (v2 := .slice ao k cap) (v3 := .int .u64 (IntKind.u64.wrap ((n : Int) + (n' : Int)))) (v4 := .int .u64 (r : Int)) (v5 := .int .u64 (q : Int)) (v6 := .int .u64 (mn : Int)) (v7 := .int .u64 (mx : Int)) HG.out (MT.b hk6) HP6 HGC.out hb6 (by simp)
        exact ⟨_, ao, k, cap, O, rfl, hE, HI⟩
      · rename_i hHeld
        clear hHeld
        go_wp2_with fail
        go_meet
        have hE := rq_before (w := w) (v0 := .int .i64 T1) (v1 := .int .u64 T0) (v2 := .slice ao k cap) (v3 := .int .u64 (IntKind.u64.wrap ((n : Int) + (n' : Int)))) (v4 := .int .u64 (r : Int)) (v5 := .int .u64 (q : Int)) (v6 := .int .u64 (mn : Int)) (v7 := .int .u64 (mx : Int)) HG.out (MT.b hk6) HP6 HGC.out hb6 (pz_lt HP4)
        exact ⟨_, ao, k, cap, O, rfl, hE, HI⟩
  case rest =>
    obtain ⟨pk, ao, k, cap, O, rfl, HR, HI⟩ := hcut
    have hmt := MT.kept HMS.out HR.out.bel
    obtain ⟨-, -, -, a13, -, -, a16, a17, -, -, -, b13, -, -, b16, b17, -⟩ := hmt
    have hpk := HR.out.ge
    clear HAD HPM HMC HMSd HPzn HG
    go_upto_region 4 with (first
      | (go_at_call 28; with_reducible refine Calls.mono (HE0.out _) ?_; rintro e w4 ⟨rfl, rfl⟩)
      | (go_at_call 28; with_reducible refine Calls.mono (HE1.out _) ?_; rintro e w4 ⟨rfl, rfl⟩))
    clear HE0 HE1 a16 a17
    generalize hd1 : decide (r1 < r2) = d1 at *
    generalize hd2 : decide (r3 < r4) = d2 at *
    go_cut [53] from 43 (fun x W => x = .bool (decide (n = 0) || (!decide (n' = 0) && d1)) ∧ Hid (RQ B w w3 pk #[.int .i64 T1, .int .u64 T0, .slice ao k cap, .int .u64 (IntKind.u64.wrap ((n : Int) + (n' : Int))), .int .u64 (r : Int), .int .u64 (q : Int), .int .u64 (mn : Int), .int .u64 (mx : Int)] (.slice ao k cap) O W))
    case first =>
      as_aux_lemma =>
        by_cases g : n = 0
        · have e1 : ((n : Int) == 0) = true := by simp [g]
          have G : Hid (n = 0) := g
          clear g
          go_wp2_with fail
          go_meet
          exact ⟨by simp [G.out], HR⟩
        · have g' : ¬ (n : Int) = 0 := by omega
          by_cases gg : n' = 0
          · have e2 : ((n' : Int) != 0) = false := by simp [gg]
            have GG : Hid (n' = 0) := gg
            clear gg
            go_wp2_with fail
            go_meet
            exact ⟨by simp [g, GG.out], HR⟩
          · have e1 : ((n : Int) == 0) = false := by simpa using g
            have e2 : ((n' : Int) != 0) = true := by simpa using gg
            go_wp2_with fail
            go_meet
            exact ⟨by simp [g, gg], HR⟩
    case rest =>
    obtain ⟨rfl, HR⟩ := hcut
    go_upto_if 53 with fail
    go_cut [53] from 54 (fun _ W => Hid (RQ B w w3 pk #[.int .i64 T1, .int .u64 T0, .slice ao k cap, .int .u64 (IntKind.u64.wrap ((n : Int) + (n' : Int))), .int .u64 (r : Int), .int .u64 (q : Int), .int .u64 (E0 : Int), .int .u64 (mx : Int)] (.slice ao k cap) O W))
    case first =>
      as_aux_lemma =>
        have hmt := MT.kept HMS.out HR.out.bel
        obtain ⟨-, -, -, -, -, -, -, -, -, -, -, -, -, -, b16, b17, -⟩ := hmt
        have hc6 := (eight_cells (hid_of HR.out.prt)).2.2.2.2.2.2.1
        have hf6 := hid_fr (hid_of HR.out.prt) 6
        obtain ⟨b, hb⟩ : ∃ b, (decide (n = 0) || (!decide (n' = 0) && d1)) = b := ⟨_, rfl⟩
        have HX : Hid (b = true → E0 = mn') := fun h => HF0.out.trans (ends_t (by rw [hd1]; exact hb.trans h))
        have HY : Hid (b = false → E0 = mn) := fun h => HF0.out.trans (ends_f (by rw [hd1]; exact hb.trans h))
        rw [hb]
        clear hb
        cases b
        · go_wp2_with fail
          go_meet
          have e := HY.out (by simp)
          rw [e]
          exact HR
        · go_wp2_with fail
          go_meet
          have e := HX.out (by simp)
          rw [e]
          exact rq_set6 hi3 HR
    case rest =>
    have HR := hcut
    clear hcut
    have hmt := MT.kept HMS.out HR.out.bel
    obtain ⟨-, -, -, a13, -, -, -, -, -, -, -, b13, -, -, -, -, -⟩ := hmt
    go_upto_region 6 with fail
    go_cut [67] from 57 (fun x W => x = .bool (decide (n = 0) || (!decide (n' = 0) && d2)) ∧ Hid (RQ B w w3 pk #[.int .i64 T1, .int .u64 T0, .slice ao k cap, .int .u64 (IntKind.u64.wrap ((n : Int) + (n' : Int))), .int .u64 (r : Int), .int .u64 (q : Int), .int .u64 (E0 : Int), .int .u64 (mx : Int)] (.slice ao k cap) O W))
    case first =>
      as_aux_lemma =>
        by_cases g : n = 0
        · have e1 : ((n : Int) == 0) = true := by simp [g]
          have G : Hid (n = 0) := g
          clear g
          go_wp2_with fail
          go_meet
          exact ⟨by simp [G.out], HR⟩
        · have g' : ¬ (n : Int) = 0 := by omega
          by_cases gg : n' = 0
          · have e2 : ((n' : Int) != 0) = false := by simp [gg]
            have GG : Hid (n' = 0) := gg
            clear gg
            go_wp2_with fail
            go_meet
            exact ⟨by simp [g, GG.out], HR⟩
          · have e1 : ((n : Int) == 0) = false := by simpa using g
            have e2 : ((n' : Int) != 0) = true := by simpa using gg
            go_wp2_with fail
            go_meet
            exact ⟨by simp [g, gg], HR⟩
    case rest =>
    obtain ⟨rfl, HR⟩ := hcut
    go_upto_if 67 with fail
    go_cut [67] from 68 (fun _ W => Hid (RQ B w w3 pk #[.int .i64 T1, .int .u64 T0, .slice ao k cap, .int .u64 (IntKind.u64.wrap ((n : Int) + (n' : Int))), .int .u64 (r : Int), .int .u64 (q : Int), .int .u64 (E0 : Int), .int .u64 (E1 : Int)] (.slice ao k cap) O W))
    case first =>
      as_aux_lemma =>
        have hmt := MT.kept HMS.out HR.out.bel
        obtain ⟨-, -, -, -, -, -, -, -, -, -, -, -, -, -, b16, b17, -⟩ := hmt
        have hc6 := (eight_cells (hid_of HR.out.prt)).2.2.2.2.2.2.2
        have hf6 := hid_fr (hid_of HR.out.prt) 7
        obtain ⟨b, hb⟩ : ∃ b, (decide (n = 0) || (!decide (n' = 0) && d2)) = b := ⟨_, rfl⟩
        have HX : Hid (b = true → E1 = mx') := fun h => HF1.out.trans (ends_t (by rw [hd2]; exact hb.trans h))
        have HY : Hid (b = false → E1 = mx) := fun h => HF1.out.trans (ends_f (by rw [hd2]; exact hb.trans h))
        rw [hb]
        clear hb
        cases b
        · go_wp2_with fail
          go_meet
          have e := HY.out (by simp)
          rw [e]
          exact HR
        · go_wp2_with fail
          go_meet
          have e := HX.out (by simp)
          rw [e]
          exact rq_set7 hi3 HR
    case rest =>
    have HR := hcut
    clear hcut
    obtain ⟨x0, x1, x2, x3, x4, x5, x6, x7⟩ := eight_cells (hid_of HR.out.prt)
    obtain ⟨y0, y1, y2, y3, y4, y5, y6, y7⟩ := eight_cells (hid_of HR.out.res)
    obtain ⟨t0, t1, t2, t3, t4, t5, t6, t7⟩ := eight_fr (hid_of HR.out.res)
    go_wp2_with fail
    rw [put8_eq]
    have HS := hid_of (set_eight (v0 := .int .i64 T1) (v1 := .int .u64 T0) (v2 := .slice ao k cap) (v3 := .int .u64 (IntKind.u64.wrap ((n : Int) + (n' : Int)))) (v4 := .int .u64 (r : Int)) (v5 := .int .u64 (q : Int)) (v6 := .int .u64 (E0 : Int)) (v7 := .int .u64 (E1 : Int)) HR.out.res)
    obtain ⟨z0, z1, z2, z3, z4, z5, z6, z7⟩ := eight_cells HS
    have HGF := rq_done hi3 HBB HB3 HR (.int .i64 T1) (.int .u64 T0) (.slice ao k cap) (.int .u64 (IntKind.u64.wrap ((n : Int) + (n' : Int)))) (.int .u64 (r : Int)) (.int .u64 (q : Int)) (.int .u64 (E0 : Int)) (.int .u64 (E1 : Int))
    simp [bodyPost, results, Tryz.results7, go_sem, z0, z1, z2, z3, z4, z5, z6, z7]
    exact ⟨_, O, by rw [HN.out], HI.out, HGF.out⟩
end Go.Proofs.YtbgdmlekhobjdaaGreat
