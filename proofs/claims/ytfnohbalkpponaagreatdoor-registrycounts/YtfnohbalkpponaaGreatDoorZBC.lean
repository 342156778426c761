/- THE DOCUMENT's MACHINE: the steps of a summary. Own work of the verifier. -/
import Derived.Test.YtfnohbalkpponaaGreatDoorZBB
import Derived.Deep.RegionHeld3
namespace Go.Proofs.YtfnohbalkpponaaGreatDoor
open Go.RowKit

theorem Dst.below {cb mb rb : Nat} {c : Cl} {m : Mc} {row : List Int} {w w' : World} (h : Dst cb mb rb c m row w) (hb : Below w.heap.size w w') : Dst cb mb rb c m row w' :=
  ⟨(hb.block _ (Array.getElem?_eq_some_iff.1 h.call).1).trans h.call, (hb.block _ (Array.getElem?_eq_some_iff.1 h.mach).1).trans h.mach, (hb.block _ (Array.getElem?_eq_some_iff.1 h.rowd).1).trans h.rowd⟩
/-- A number by which floats stand in order. -/
def keyN (x : Nat) : Nat := if 9223372036854775808 ≤ x then 18446744073709551615 - x else x + 9223372036854775808
/-- What a step of a pair reads. -/
abbrev FS (cb rb cap a b x : Nat) (V : World) : Prop := V.cell? ⟨cb, 17, none⟩ = some (.slice (some ⟨rb, 0, none⟩) 5 cap) ∧ V.cell? ⟨cb, 19, none⟩ = some (.int .u64 (a : Int)) ∧ V.cell? ⟨cb, 20, none⟩ = some (.int .u64 (b : Int)) ∧ V.cell? ⟨cb, 8, none⟩ = some (.int .u64 (x : Int))
theorem FS.set {cb rb cap a b x : Nat} {V : World} (h : FS cb rb cap a b x V) (hne : ¬ cb = rb) (o : Nat) (v : Value) : FS cb rb cap a b x (V.setCell ⟨rb, o, none⟩ v) := by
  have k : ∀ (j : Nat), (V.setCell ⟨rb, o, none⟩ v).cell? ⟨cb, j, none⟩ = V.cell? ⟨cb, j, none⟩ := fun j => World.cell?_setCell_other V ⟨rb, o, none⟩ ⟨cb, j, none⟩ v (fun e => hne (by injection e with e; exact e.symm))
  unfold FS
  rw [k, k, k, k]
  exact h
end Go.Proofs.YtfnohbalkpponaaGreatDoor
/- PARTS: the document's Merge, its memory. Own work of the verifier. -/
namespace Go.Proofs.YtfnohbalkpponaaGreatDoor
open Go.RowKit

def put8 (W : World) (b : Nat) (v0 v1 v2 v3 v4 v5 v6 v7 : Value) : World := (((((((W.setCell ⟨b, 0, none⟩ v0).setCell ⟨b, 1, none⟩ v1).setCell ⟨b, 2, none⟩ v2).setCell ⟨b, 3, none⟩ v3).setCell ⟨b, 4, none⟩ v4).setCell ⟨b, 5, none⟩ v5).setCell ⟨b, 6, none⟩ v6).setCell ⟨b, 7, none⟩ v7
set_option maxHeartbeats 4000000 in
theorem mid_put8 (W : World) (k : Nat) (v0 v1 v2 v3 v4 v5 v6 v7 : Value) : Mid k (k + 1) W (put8 W k v0 v1 v2 v3 v4 v5 v6 v7) := by
  have hk : (k ≤ k ∧ k < k + 1) ∨ W.heap.size ≤ k := Or.inl ⟨Nat.le_refl _, Nat.lt_succ_self _⟩
  unfold put8
  exact (((((((((Mid.refl k (k + 1) W)).setCell (p := ⟨k, 0, none⟩) hk _).setCell (p := ⟨k, 1, none⟩) hk _).setCell (p := ⟨k, 2, none⟩) hk _).setCell (p := ⟨k, 3, none⟩) hk _).setCell (p := ⟨k, 4, none⟩) hk _).setCell (p := ⟨k, 5, none⟩) hk _).setCell (p := ⟨k, 6, none⟩) hk _).setCell (p := ⟨k, 7, none⟩) hk _
/-- Both parts, the document's, and all that was there. -/
abbrev MT (B : Nat) (ah al bh bl : Int) (a1 a2 : Option Addr) (m1 c1 m2 c2 n n' s c u d mn mx mn' mx' : Nat) (w3 W : World) : Prop := W.cell? ⟨B, 0, none⟩ = some (.int .i64 ah) ∧ W.cell? ⟨B, 1, none⟩ = some (.int .u64 al) ∧ W.cell? ⟨B, 2, none⟩ = some (.slice a1 m1 c1) ∧ W.cell? ⟨B, 3, none⟩ = some (.int .u64 (n : Int)) ∧ W.cell? ⟨B, 4, none⟩ = some (.int .u64 (s : Int)) ∧ W.cell? ⟨B, 5, none⟩ = some (.int .u64 (c : Int)) ∧ W.cell? ⟨B, 6, none⟩ = some (.int .u64 (mn : Int)) ∧ W.cell? ⟨B, 7, none⟩ = some (.int .u64 (mx : Int)) ∧ W.cell? ⟨B + 1, 0, none⟩ = some (.int .i64 bh) ∧ W.cell? ⟨B + 1, 1, none⟩ = some (.int .u64 bl) ∧ W.cell? ⟨B + 1, 2, none⟩ = some (.slice a2 m2 c2) ∧ W.cell? ⟨B + 1, 3, none⟩ = some (.int .u64 (n' : Int)) ∧ W.cell? ⟨B + 1, 4, none⟩ = some (.int .u64 (u : Int)) ∧ W.cell? ⟨B + 1, 5, none⟩ = some (.int .u64 (d : Int)) ∧ W.cell? ⟨B + 1, 6, none⟩ = some (.int .u64 (mn' : Int)) ∧ W.cell? ⟨B + 1, 7, none⟩ = some (.int .u64 (mx' : Int)) ∧ Below w3.heap.size w3 W
theorem MT.b {B : Nat} {ah al bh bl : Int} {a1 a2 : Option Addr} {m1 c1 m2 c2 n n' s c u d mn mx mn' mx' : Nat} {w3 W : World} (h : MT B ah al bh bl a1 a2 m1 c1 m2 c2 n n' s c u d mn mx mn' mx' w3 W) : Below w3.heap.size w3 W := by
  obtain ⟨a10, a11, a12, a13, a14, a15, a16, a17, b10, b11, b12, b13, b14, b15, b16, b17, hb⟩ := h
  exact hb
theorem MT.kept {B : Nat} {ah al bh bl : Int} {a1 a2 : Option Addr} {m1 c1 m2 c2 n n' s c u d mn mx mn' mx' : Nat} {w3 W : World} {W' : World} (h : MT B ah al bh bl a1 a2 m1 c1 m2 c2 n n' s c u d mn mx mn' mx' w3 W) (k : Below W.heap.size W W') : MT B ah al bh bl a1 a2 m1 c1 m2 c2 n n' s c u d mn mx mn' mx' w3 W' := by
  obtain ⟨a10, a11, a12, a13, a14, a15, a16, a17, b10, b11, b12, b13, b14, b15, b16, b17, hb⟩ := h
  exact ⟨cell_kept k a10, cell_kept k a11, cell_kept k a12, cell_kept k a13, cell_kept k a14, cell_kept k a15, cell_kept k a16, cell_kept k a17, cell_kept k b10, cell_kept k b11, cell_kept k b12, cell_kept k b13, cell_kept k b14, cell_kept k b15, cell_kept k b16, cell_kept k b17, bt hb k⟩
theorem MT.drew {B : Nat} {ah al bh bl : Int} {a1 a2 : Option Addr} {m1 c1 m2 c2 n n' s c u d mn mx mn' mx' : Nat} {w3 W : World} (h : MT B ah al bh bl a1 a2 m1 c1 m2 c2 n n' s c u d mn mx mn' mx' w3 W) : MT B ah al bh bl a1 a2 m1 c1 m2 c2 n n' s c u d mn mx mn' mx' w3 W.drew := h.kept (Below.refl _ _).drew
theorem sg_lt {a b : Nat} : Pr.sg a b < 0 ↔ a < b := by unfold Pr.sg; split <;> (try split) <;> omega
/-- Where the document lays its sum out. -/
def PZ (w3 : World) (k : Nat) (W : World) : Prop := W.heap[k]? = some (.cells #[.int .i64 0, .int .u64 0, .slice none 0 0, .int .u64 0, .int .u64 0, .int .u64 0, .int .u64 0, .int .u64 0] 266 (0, 0)) ∧ w3.heap.size ≤ k
theorem MT.sput {B : Nat} {ah al bh bl : Int} {a1 a2 : Option Addr} {m1 c1 m2 c2 n n' s c u d mn mx mn' mx' : Nat} {w3 W : World} {k : Nat} (h : MT B ah al bh bl a1 a2 m1 c1 m2 c2 n n' s c u d mn mx mn' mx' w3 W) (hi3 : B + 1 + 1 < w3.heap.size) (hk : w3.heap.size ≤ k) (v0 v1 v2 v3 v4 v5 v6 v7 : Value) : MT B ah al bh bl a1 a2 m1 c1 m2 c2 n n' s c u d mn mx mn' mx' w3 (put8 W k v0 v1 v2 v3 v4 v5 v6 v7) := by
  obtain ⟨a10, a11, a12, a13, a14, a15, a16, a17, b10, b11, b12, b13, b14, b15, b16, b17, hb⟩ := h
  have hm := mid_put8 W k v0 v1 v2 v3 v4 v5 v6 v7
  have kc : ∀ (a : Addr) (x : Value), a.block < w3.heap.size → W.cell? a = some x → (put8 W k v0 v1 v2 v3 v4 v5 v6 v7).cell? a = some x := fun a x ha hx => (World.cell?_of_block (hm.block a.block (lt_of_cell hx) (by omega))).trans hx
  have l0 : B < w3.heap.size := by omega
  have l1 : B + 1 < w3.heap.size := by omega
  exact ⟨kc _ _ l0 a10, kc _ _ l0 a11, kc _ _ l0 a12, kc _ _ l0 a13, kc _ _ l0 a14, kc _ _ l0 a15, kc _ _ l0 a16, kc _ _ l0 a17, kc _ _ l1 b10, kc _ _ l1 b11, kc _ _ l1 b12, kc _ _ l1 b13, kc _ _ l1 b14, kc _ _ l1 b15, kc _ _ l1 b16, kc _ _ l1 b17, ⟨hm.os.trans hb.os, hm.tape.trans hb.tape, hm.output.trans hb.output, Nat.le_trans hb.size hm.size, fun j hj => (hm.block j (Nat.lt_of_lt_of_le hj hb.size) (by omega)).trans (hb.block j hj)⟩⟩
theorem MT.chain {B : Nat} {ah al bh bl : Int} {a1 a2 : Option Addr} {m1 c1 m2 c2 n n' s c u d mn mx mn' mx' : Nat} {w3 W : World} {k : Nat} (h : MT B ah al bh bl a1 a2 m1 c1 m2 c2 n n' s c u d mn mx mn' mx' w3 W) (hi3 : B + 1 + 1 < w3.heap.size) (hp : Hid (PZ w3 k W)) (v0 v1 v2 v3 v4 v5 v6 v7 : Value) : MT B ah al bh bl a1 a2 m1 c1 m2 c2 n n' s c u d mn mx mn' mx' w3 ((((((((W.setCell ⟨k, 0, none⟩ v0).setCell ⟨k, 1, none⟩ v1).setCell ⟨k, 2, none⟩ v2).setCell ⟨k, 3, none⟩ v3).setCell ⟨k, 4, none⟩ v4).setCell ⟨k, 5, none⟩ v5).setCell ⟨k, 6, none⟩ v6).setCell ⟨k, 7, none⟩ v7) :=
  MT.sput h hi3 hp.out.2 v0 v1 v2 v3 v4 v5 v6 v7
end Go.Proofs.YtfnohbalkpponaaGreatDoor
/- PARTS: the document's Merge. Own work of the verifier. -/
namespace Go.Proofs.YtfnohbalkpponaaGreatDoor
open Go.RowKit

/-- The end of two. -/
def endK (n n' x y p q : Nat) : Nat := if n = 0 then y else if n' = 0 then x else if keyN p < keyN q then y else x
end Go.Proofs.YtfnohbalkpponaaGreatDoor
/- COUNTS: two rising rows as one. Own work of the verifier. -/
namespace Go.Proofs.YtfnohbalkpponaaGreatDoor
open Go.RowKit

/-- One more, where it is not nought. -/
def psh (O : List Cn) (x : Int) (n : Nat) : List Cn := if n = 0 then O else O ++ [(x, n)]
theorem key_off {E : List Cn} {x k : Int} (h : ∀ c ∈ E, c.1 = x) (hk : k ≠ x) : key E k = 0 := key_none (fun c hc e => hk (by rw [← e, h c hc]))
theorem mg_step {O P E : List Cn} {x : Int} {n : Nat} (h : IsMerge O P) (hlt : ∀ c ∈ O, c.1 < x) (hE : ∀ c ∈ E, c.1 = x) (hn : n = key E x % 18446744073709551616) : IsMerge (psh O x n) (P ++ E) := by
  have h0 : key O x = 0 := key_none (fun c hc e => by have := hlt c hc; omega)
  have hP := h.keys x
  rw [h0] at hP
  unfold psh
  by_cases hz : n = 0
  · rw [if_pos hz]
    refine ⟨h.rise, h.nz, fun k => ?_⟩
    rw [key_append]
    by_cases hk : k = x
    · subst hk
      rw [h0]
      omega
    · rw [key_off hE hk]
      exact h.keys k
  · rw [if_neg hz]
    refine ⟨?_, ?_, fun k => ?_⟩
    · refine List.pairwise_append.2 ⟨h.rise, List.pairwise_singleton _ _, fun a ha b hb => ?_⟩
      rw [List.mem_singleton] at hb
      subst hb
      exact hlt a ha
    · intro c hc
      rcases List.mem_append.1 hc with q | q
      · exact h.nz c q
      · rw [List.mem_singleton] at q
        subst q
        exact ⟨hz, by show n < _; omega⟩
    · rw [key_append, key_append]
      by_cases hk : k = x
      · subst hk
        rw [h0]
        simp only [key, if_true]
        omega
      · rw [key_off hE hk]
        have := h.keys k
        simp only [key]
        rw [if_neg (fun e => hk e.symm)]
        omega
theorem psh_lt {O : List Cn} {x y : Int} {n : Nat} (h : ∀ c ∈ O, c.1 < x) (hy : x < y) : ∀ c ∈ psh O x n, c.1 < y := fun c hc => by
  unfold psh at hc
  split at hc
  · have := h c hc; omega
  · rcases List.mem_append.1 hc with q | q
    · have := h c q; omega
    · rw [List.mem_singleton] at q; subst q; exact hy
/-- How far the two rows are one. -/
structure CtI (A B A' B' O : List Cn) : Prop where
  ex : ∃ PA PB, A = PA ++ A' ∧ B = PB ++ B' ∧ IsMerge O (PA ++ PB)
  la : ∀ d ∈ A', ∀ c ∈ O, c.1 < d.1
  lb : ∀ d ∈ B', ∀ c ∈ O, c.1 < d.1
  ra : Rise A'
  rb : Rise B'
theorem CtI.start {A B : List Cn} (hA : Rise A) (hB : Rise B) : CtI A B A B [] := ⟨⟨[], [], rfl, rfl, isMerge_nil⟩, (fun _ _ c hc => by cases hc), (fun _ _ c hc => by cases hc), hA, hB⟩
theorem CtI.fin {A B O : List Cn} (h : CtI A B [] [] O) : IsMerge O (A ++ B) := by
  obtain ⟨PA, PB, rfl, rfl, k⟩ := h.ex
  simpa using k
theorem rise_hd {c d : Cn} {L : List Cn} (h : Rise (c :: L)) (hd : d ∈ L) : c.1 < d.1 := (List.pairwise_cons.1 h).1 d hd
theorem CtI.left {A B A' B' O : List Cn} {c : Cn} (h : CtI A B (c :: A') B' O) (hc : c.2 < 18446744073709551616) (hb : ∀ d ∈ B', c.1 < d.1) : CtI A B A' B' (psh O c.1 c.2) := by
  obtain ⟨PA, PB, e1, e2, k⟩ := h.ex
  have hl := h.la c (by simp)
  have m := mg_step (E := [c]) (n := c.2) k hl (fun d hd => by rw [List.mem_singleton] at hd; rw [hd]) (by simp [key]; omega)
  refine ⟨⟨PA ++ [c], PB, by simp [e1], e2, m.perm ?_⟩, fun d hd => psh_lt hl (rise_hd h.ra hd), fun d hd => psh_lt hl (hb d hd), (List.pairwise_cons.1 h.ra).2, h.rb⟩
  rw [List.append_assoc, List.append_assoc]
  exact List.Perm.append_left PA List.perm_append_comm
theorem CtI.right {A B A' B' O : List Cn} {c : Cn} (h : CtI A B A' (c :: B') O) (hc : c.2 < 18446744073709551616) (ha : ∀ d ∈ A', c.1 < d.1) : CtI A B A' B' (psh O c.1 c.2) := by
  obtain ⟨PA, PB, e1, e2, k⟩ := h.ex
  have hl := h.lb c (by simp)
  have m := mg_step (E := [c]) (n := c.2) k hl (fun d hd => by rw [List.mem_singleton] at hd; rw [hd]) (by simp [key]; omega)
  exact ⟨⟨PA, PB ++ [c], e1, by simp [e2], by rw [← List.append_assoc]; exact m⟩, fun d hd => psh_lt hl (ha d hd), fun d hd => psh_lt hl (rise_hd h.rb hd), h.ra, (List.pairwise_cons.1 h.rb).2⟩
end Go.Proofs.YtfnohbalkpponaaGreatDoor
/- COUNTS: the document's counts. Own work of the verifier. -/
namespace Go.Proofs.YtfnohbalkpponaaGreatDoor
open Go.RowKit

/-- A row of counts that is told by its slice. -/
def SK (w : World) (v : Value) (L : List Cn) : Prop := ∃ ao b o cap, v = .slice ao L.length cap ∧ L.length ≤ cap ∧ (L ≠ [] → ao = some ⟨b, o, none⟩) ∧ RowC w b o L
theorem SK.below {w : World} {v : Value} {L : List Cn} {w' : World} (h : SK w v L) (hb : Below w.heap.size w w') : SK w' v L := by
  obtain ⟨ao, b, o, cap, rfl, hc, ha, hr⟩ := h
  exact ⟨ao, b, o, cap, rfl, hc, ha, fun i hi => ⟨(World.cell?_of_block (hb.block b (lt_of_cell (hr i hi).1))).trans (hr i hi).1, (World.cell?_of_block (hb.block b (lt_of_cell (hr i hi).1))).trans (hr i hi).2⟩⟩
theorem SK.tail {w : World} {b o cap : Nat} {L : List Cn} (hc : L.length + 1 ≤ cap) (hr : RowC w b (o + 2) L) : SK w (.slice (if cap = 1 then some ⟨b, o, none⟩ else some ⟨b, o + 2, none⟩) L.length (cap - 1)) L :=
  ⟨_, b, o + 2, cap - 1, rfl, by omega, fun hne => if_neg (fun e => hne (List.length_eq_zero_iff.1 (by omega))), hr⟩
theorem CtI.wa {A B A' B' O : List Cn} {c : Cn} (h : CtI A B (c :: A') B' O) (hW : Wc (A ++ B)) : c.2 < 18446744073709551616 := by
  obtain ⟨PA, PB, e1, e2, _⟩ := h.ex
  exact (hW c (by rw [e1]; simp)).2.2
theorem CtI.wb {A B A' B' O : List Cn} {c : Cn} (h : CtI A B A' (c :: B') O) (hW : Wc (A ++ B)) : c.2 < 18446744073709551616 := by
  obtain ⟨PA, PB, e1, e2, _⟩ := h.ex
  exact (hW c (by rw [e2]; simp)).2.2
end Go.Proofs.YtfnohbalkpponaaGreatDoor
/- PARTS: the document's Merge of parts as they may be. Own work of the verifier. -/
namespace Go.Proofs.YtfnohbalkpponaaGreatDoor
open Go.RowKit

end Go.Proofs.YtfnohbalkpponaaGreatDoor
/- THE DOCUMENT's MACHINE: the steps of a summary, its ends. Own work of the verifier. -/
namespace Go.Proofs.YtfnohbalkpponaaGreatDoor
open Go.RowKit

end Go.Proofs.YtfnohbalkpponaaGreatDoor
/- THE DOCUMENT's MACHINE: the last step of a summary. Own work of the verifier. -/
namespace Go.Proofs.YtfnohbalkpponaaGreatDoor
open Go.RowKit

end Go.Proofs.YtfnohbalkpponaaGreatDoor
/- THE DOCUMENT's MACHINE: why a record is refused. Own work of the verifier. -/
namespace Go.Proofs.YtfnohbalkpponaaGreatDoor
open Go.RowKit

/-- The kind of the instrument that a call is for. -/
def kdOf (k : Int) : Int := if k = 4 then 1 else if k = 5 then 2 else 3
/-- Why a record is refused, or 0. -/
def whyF (kind kd n : Int) (f : Nat) (cl : Bool) : Int := if cl then 8 else if kd = kdOf kind then (if kind = 6 then (if mayB f then 0 else 2) else (if n < 0 then 2 else 0)) else 7
end Go.Proofs.YtfnohbalkpponaaGreatDoor
/- THE DOCUMENT's MACHINE: a step on the cells. Own work of the verifier. -/
namespace Go.Proofs.YtfnohbalkpponaaGreatDoor
open Go.RowKit

end Go.Proofs.YtfnohbalkpponaaGreatDoor
/- THE DOCUMENT's MACHINE: a record's steps. Own work of the verifier. -/
namespace Go.Proofs.YtfnohbalkpponaaGreatDoor
open Go.RowKit

/-- What leaving makes of the machine. -/
def Mc.left (m : Mc) (ph : Int) : Mc := if 0 ≤ ph then { m with even := wrap64 (m.even + 1) } else { m with odd := wrap64 (m.odd + 1) }
end Go.Proofs.YtfnohbalkpponaaGreatDoor
/- THE DOCUMENT's MACHINE: a record's point. Own work of the verifier. -/
namespace Go.Proofs.YtfnohbalkpponaaGreatDoor
open Go.RowKit

end Go.Proofs.YtfnohbalkpponaaGreatDoor
/- THE DOCUMENT's MACHINE: records, done at once. Own work of the verifier. -/
namespace Go.Proofs.YtfnohbalkpponaaGreatDoor
open Go.RowKit

/-- A state. -/
structure StD where
  c : Cl
  m : Mc
  row : List Int
/-- One step leads from a state to the next. -/
structure Trn (cb mb rb : Nat) (w : World) (s s' : StD) : Prop where
  nd : s.c.done = false
  st : s'.c.steps = s.c.steps + 1
  go : ∀ W, Dst cb mb rb s.c s.m s.row W → Chg (D3 cb mb rb) w W → Calls Tryz.prog 53 #[.pointer (some ⟨mb, 0, none⟩), .pointer (some ⟨cb, 0, none⟩)] W fun e w' => e = .returned (.tuple #[]) ∧ Hid (Dst cb mb rb s'.c s'.m s'.row w' ∧ Chg (D3 cb mb rb) w w')
/-- Some steps. -/
inductive RunS (cb mb rb : Nat) (w : World) : Nat → StD → StD → Prop
  | nil (s : StD) : RunS cb mb rb w 0 s s
  | cons {n : Nat} {s s' s'' : StD} : Trn cb mb rb w s s' → RunS cb mb rb w n s' s'' → RunS cb mb rb w (n + 1) s s''
theorem RunS.steps {cb mb rb : Nat} {w : World} {n : Nat} {s s' : StD} (h : RunS cb mb rb w n s s') : s'.c.steps = s.c.steps + (n : Int) := by
  induction h with
  | nil s => simp
  | cons t _ ih => rw [ih, t.st]; push_cast; omega
section
variable {cb mb rb x ib id hb st N cap NS capH b nI capI : Nat} {kd kind n : Int} {cl : Bool} {m : Mc} {row : List Int} {f : Nat} {w : World}
end
end Go.Proofs.YtfnohbalkpponaaGreatDoor
/- THE DOCUMENT's MACHINE: records that are laid, done at once. Own work of the verifier. -/
namespace Go.Proofs.YtfnohbalkpponaaGreatDoor
open Go.RowKit

section
variable {cb mb rb x : Nat} {kind id n f ph b told rest told' rest' : Int} {tov : Value} {j : Nat} {pt : Bool} {m : Mc} {row row' : List Int} {w : World}
/-- The row of a summary behind a float, as the document has it. -/
def smD (k : Int) (s cc mn mx v : Nat) : List Int := sRow (wrap64 (k + 1)) (Soft.fa s v) (Soft.fa cc (Soft.fl s v)) (if keyN v < keyN mn then v else mn) (if keyN mx < keyN v then v else mx)
end
section
variable {cb mb rb x ib id hb st N cap NS capH b nI capI : Nat} {kd n : Int} {cl : Bool} {m : Mc} {f : Nat} {w : World}
end
end Go.Proofs.YtfnohbalkpponaaGreatDoor
