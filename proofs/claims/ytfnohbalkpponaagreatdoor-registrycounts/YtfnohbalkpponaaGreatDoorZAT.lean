/- PARTS: Merge. Own work of the verifier. -/
import Derived.Test.YtfnohbalkpponaaGreatDoorZAS
namespace Go.Proofs.YtfnohbalkpponaaGreatDoor
open Go.RowKit

/-- Where a result will be. -/
def Res (k : Nat) (W : World) : Prop := ∃ r0 r1 r2 r3 r4 r5 r6 : Value, W.heap[k]? = some (.cells #[r0, r1, r2, r3, r4, r5, r6] 184 (0, 0))
theorem Res.out {k : Nat} {W : World} (h : Res k W) : ∃ r0 r1 r2 r3 r4 r5 r6 : Value, Hid (W.heap[k]? = some (.cells #[r0, r1, r2, r3, r4, r5, r6] 184 (0, 0))) := h
theorem Res.below {k B : Nat} {W W' : World} (h : Res k W) (hb : Below B W W') (hk : k < B) : Res k W' := by
  obtain ⟨r0, r1, r2, r3, r4, r5, r6, h⟩ := h
  exact ⟨r0, r1, r2, r3, r4, r5, r6, by rw [hb.block k hk]; exact h⟩
theorem Res.put7 {k : Nat} {W : World} (h : Res k W) (v0 v1 v2 v3 v4 v5 v6 : Value) : Res k (put7 W k v0 v1 v2 v3 v4 v5 v6) := by
  obtain ⟨r0, r1, r2, r3, r4, r5, r6, h⟩ := h
  exact ⟨_, _, _, _, _, _, _, set_seven h⟩
theorem Res.lt {k : Nat} {W : World} (h : Res k W) : k < W.heap.size := by
  obtain ⟨r0, r1, r2, r3, r4, r5, r6, h⟩ := h
  exact (Array.getElem?_eq_some_iff.1 h).1
/-- Both parts, where the result will be, and all that was there. -/
abbrev MS (B : Nat) (ah al bh bl : Int) (v v' : Value) (n n' s c u d mn mx mn' mx' : Nat) (w3 W : World) : Prop := W.cell? ⟨B, 0, none⟩ = some (.int .i64 ah) ∧ W.cell? ⟨B, 1, none⟩ = some (.int .u64 al) ∧ W.cell? ⟨B, 2, none⟩ = some v ∧ W.cell? ⟨B, 3, none⟩ = some (.int .u64 (n : Int)) ∧ W.cell? ⟨B, 4, none⟩ = some (.complex .f64 s c) ∧ W.cell? ⟨B, 5, none⟩ = some (.float .f64 mn) ∧ W.cell? ⟨B, 6, none⟩ = some (.float .f64 mx) ∧ W.cell? ⟨B + 1, 0, none⟩ = some (.int .i64 bh) ∧ W.cell? ⟨B + 1, 1, none⟩ = some (.int .u64 bl) ∧ W.cell? ⟨B + 1, 2, none⟩ = some v' ∧ W.cell? ⟨B + 1, 3, none⟩ = some (.int .u64 (n' : Int)) ∧ W.cell? ⟨B + 1, 4, none⟩ = some (.complex .f64 u d) ∧ W.cell? ⟨B + 1, 5, none⟩ = some (.float .f64 mn') ∧ W.cell? ⟨B + 1, 6, none⟩ = some (.float .f64 mx') ∧ w3.heap.size ≤ W.heap.size ∧ Res (B + 1 + 1) W ∧ Below (B + 1 + 1) w3 W
theorem ms_of {B : Nat} {ah al bh bl : Int} {v v' : Value} {n n' s c u d mn mx mn' mx' : Nat} {w3 W : World} (h0 : w3.heap[B]? = some (.cells #[.int .i64 ah, .int .u64 al, v, .int .u64 (n : Int), .complex .f64 s c, .float .f64 mn, .float .f64 mx] 184 (0, 0))) (h1 : w3.heap[B + 1]? = some (.cells #[.int .i64 bh, .int .u64 bl, v', .int .u64 (n' : Int), .complex .f64 u d, .float .f64 mn', .float .f64 mx'] 184 (0, 0))) (hs : w3.heap.size ≤ W.heap.size) (hr : Res (B + 1 + 1) W) (hb : Below (B + 1 + 1) w3 W) : MS B ah al bh bl v v' n n' s c u d mn mx mn' mx' w3 W := by
  have k0 : Hid (W.heap[B]? = some _) := hid_below h0 hb (by omega)
  have k1 : Hid (W.heap[B + 1]? = some _) := hid_below h1 hb (by omega)
  obtain ⟨a0, a1, a2, a3, a4, a5, a6⟩ := seven_cells k0
  obtain ⟨b0, b1, b2, b3, b4, b5, b6⟩ := seven_cells k1
  exact ⟨a0, a1, a2, a3, a4, a5, a6, b0, b1, b2, b3, b4, b5, b6, hs, hr, hb⟩
theorem MS.b {B : Nat} {ah al bh bl : Int} {v v' : Value} {n n' s c u d mn mx mn' mx' : Nat} {w3 W : World} (h : MS B ah al bh bl v v' n n' s c u d mn mx mn' mx' w3 W) : w3.heap.size ≤ W.heap.size ∧ Res (B + 1 + 1) W ∧ Below (B + 1 + 1) w3 W := by
  obtain ⟨a0, a1, a2, a3, a4, a5, a6, b0, b1, b2, b3, b4, b5, b6, hb⟩ := h
  exact hb
theorem cell_kept {W W' : World} {a : Addr} {u : Value} (hb : Below W.heap.size W W') (h : W.cell? a = some u) : W'.cell? a = some u := (hb.cell (p := a) (lt_of_cell h)).trans h
theorem MS.kept {B : Nat} {ah al bh bl : Int} {v v' : Value} {n n' s c u d mn mx mn' mx' : Nat} {w3 W W' : World} (h : MS B ah al bh bl v v' n n' s c u d mn mx mn' mx' w3 W) (k : Below W.heap.size W W') : MS B ah al bh bl v v' n n' s c u d mn mx mn' mx' w3 W' := by
  obtain ⟨a0, a1, a2, a3, a4, a5, a6, b0, b1, b2, b3, b4, b5, b6, hs, hr, hb⟩ := h
  exact ⟨cell_kept k a0, cell_kept k a1, cell_kept k a2, cell_kept k a3, cell_kept k a4, cell_kept k a5, cell_kept k a6, cell_kept k b0, cell_kept k b1, cell_kept k b2, cell_kept k b3, cell_kept k b4, cell_kept k b5, cell_kept k b6, Nat.le_trans hs k.size, hr.below k hr.lt, hb.trans (k.mono (Nat.le_of_lt hr.lt))⟩
theorem MS.drew {B : Nat} {ah al bh bl : Int} {v v' : Value} {n n' s c u d mn mx mn' mx' : Nat} {w3 W : World} (h : MS B ah al bh bl v v' n n' s c u d mn mx mn' mx' w3 W) : MS B ah al bh bl v v' n n' s c u d mn mx mn' mx' w3 W.drew := h.kept (Below.refl _ _).drew
/-- One block is written over; nothing else turns. -/
structure Put (b : Nat) (cs : Array Value) (t : TypeId) (W W' : World) : Prop where
  os : W'.os = W.os
  tape : W'.tape = W.tape
  output : W'.output = W.output
  size : W'.heap.size = W.heap.size
  here : W'.heap[b]? = some (.cells cs t (0, 0))
  there : ∀ k, k ≠ b → W'.heap[k]? = W.heap[k]?
theorem Put.cell {b : Nat} {cs : Array Value} {t : TypeId} {W W' : World} (h : Put b cs t W W') {a : Addr} {u : Value} (hc : W.cell? a = some u) (ha : a.block ≠ b) : W'.cell? a = some u := (World.cell?_of_block (h.there a.block ha)).trans hc
theorem Put.below {b B : Nat} {cs : Array Value} {t : TypeId} {W0 W W' : World} (h : Put b cs t W W') (hb : Below B W0 W) (hB : B ≤ b) : Below B W0 W' :=
  ⟨h.os.trans hb.os, h.tape.trans hb.tape, h.output.trans hb.output, by rw [h.size]; exact hb.size, fun k hk => (h.there k (by omega)).trans (hb.block k hk)⟩
theorem MS.put {B : Nat} {ah al bh bl : Int} {v v' : Value} {n n' s c u d mn mx mn' mx' : Nat} {w3 W W' : World} (h : MS B ah al bh bl v v' n n' s c u d mn mx mn' mx' w3 W) {v0 v1 v2 v3 v4 v5 v6 : Value} (hp : Hid (Put (B + 1 + 1) #[v0, v1, v2, v3, v4, v5, v6] 184 W W')) : MS B ah al bh bl v v' n n' s c u d mn mx mn' mx' w3 W' := by
  obtain ⟨a0, a1, a2, a3, a4, a5, a6, b0, b1, b2, b3, b4, b5, b6, hs, hr, hb⟩ := h
  have e0 : B ≠ B + 1 + 1 := by omega
  have e1 : B + 1 ≠ B + 1 + 1 := by omega
  have h := hp.out
  exact ⟨h.cell a0 e0, h.cell a1 e0, h.cell a2 e0, h.cell a3 e0, h.cell a4 e0, h.cell a5 e0, h.cell a6 e0, h.cell b0 e1, h.cell b1 e1, h.cell b2 e1, h.cell b3 e1, h.cell b4 e1, h.cell b5 e1, h.cell b6 e1, by rw [h.size]; exact hs, ⟨_, _, _, _, _, _, _, h.here⟩, h.below hb (Nat.le_refl _)⟩
theorem mid_put7 (W : World) (k : Nat) (v0 v1 v2 v3 v4 v5 v6 : Value) : Mid k (k + 1) W (put7 W k v0 v1 v2 v3 v4 v5 v6) := by
  have hk : (k ≤ k ∧ k < k + 1) ∨ W.heap.size ≤ k := Or.inl ⟨Nat.le_refl _, Nat.lt_succ_self _⟩
  unfold put7
  exact ((((((((Mid.refl k (k + 1) W)).setCell (p := ⟨k, 0, none⟩) hk _).setCell (p := ⟨k, 1, none⟩) hk _).setCell (p := ⟨k, 2, none⟩) hk _).setCell (p := ⟨k, 3, none⟩) hk _).setCell (p := ⟨k, 4, none⟩) hk _).setCell (p := ⟨k, 5, none⟩) hk _).setCell (p := ⟨k, 6, none⟩) hk _
theorem put7_put {W : World} {k : Nat} {r0 r1 r2 r3 r4 r5 r6 : Value} (h : Hid (W.heap[k]? = some (.cells #[r0, r1, r2, r3, r4, r5, r6] 184 (0, 0)))) (v0 v1 v2 v3 v4 v5 v6 : Value) : Put k #[v0, v1, v2, v3, v4, v5, v6] 184 W (put7 W k v0 v1 v2 v3 v4 v5 v6) :=
  ⟨(mid_put7 _ _ _ _ _ _ _ _ _).os, (mid_put7 _ _ _ _ _ _ _ _ _).tape, (mid_put7 _ _ _ _ _ _ _ _ _).output, put7_size _ _ _ _ _ _ _ _ _, set_seven h, fun j hj => put7_other W k j _ _ _ _ _ _ _ hj⟩
theorem MS.chain {B : Nat} {ah al bh bl : Int} {v v' : Value} {n n' s c u d mn mx mn' mx' : Nat} {w3 W : World} (h : MS B ah al bh bl v v' n n' s c u d mn mx mn' mx' w3 W) {r0 r1 r2 r3 r4 r5 r6 : Value} (hr : Hid (W.heap[B + 1 + 1]? = some (.cells #[r0, r1, r2, r3, r4, r5, r6] 184 (0, 0)))) (u0 u1 u2 u3 u4 u5 u6 : Value) : MS B ah al bh bl v v' n n' s c u d mn mx mn' mx' w3 (((((((W.setCell ⟨B + 1 + 1, 0, none⟩ u0).setCell ⟨B + 1 + 1, 1, none⟩ u1).setCell ⟨B + 1 + 1, 2, none⟩ u2).setCell ⟨B + 1 + 1, 3, none⟩ u3).setCell ⟨B + 1 + 1, 4, none⟩ u4).setCell ⟨B + 1 + 1, 5, none⟩ u5).setCell ⟨B + 1 + 1, 6, none⟩ u6) :=
  MS.put (W' := put7 W (B + 1 + 1) u0 u1 u2 u3 u4 u5 u6) h (put7_put hr u0 u1 u2 u3 u4 u5 u6)
theorem own_keep {B n : Nat} {w w' : World} {v : Value} {xs : List Value} (h : w.ownsRow B 160 2 v n xs) (hb : Below w.heap.size w w') : w'.ownsRow B 160 2 v n xs := by
  refine ⟨h.1, ?_⟩
  rcases h.2 with k | ⟨g, cap, cur, hv, hB, hh, hrest⟩
  · exact Or.inl k
  · exact Or.inr ⟨g, cap, cur, hv, hB, (hb.block g (Array.getElem?_eq_some_iff.1 hh).1).trans hh, hrest⟩
theorem own_le {B B' n : Nat} {w : World} {v : Value} {xs : List Value} (h : w.ownsRow B 160 2 v n xs) (hb : B' ≤ B) : w.ownsRow B' 160 2 v n xs := by
  refine ⟨h.1, ?_⟩
  rcases h.2 with k | ⟨g, cap, cur, hv, hB, hrest⟩
  · exact Or.inl k
  · exact Or.inr ⟨g, cap, cur, hv, by omega, hrest⟩
theorem own_mid {n0 B0 B n : Nat} {w w' : World} {v : Value} {xs : List Value} (h : w.ownsRow B 160 2 v n xs) (hm : Mid n0 B0 w w') (hB : B0 ≤ B) : w'.ownsRow B 160 2 v n xs := by
  refine ⟨h.1, ?_⟩
  rcases h.2 with k | ⟨g, cap, cur, hv, hg, hh, hrest⟩
  · exact Or.inl k
  · exact Or.inr ⟨g, cap, cur, hv, hg, (hm.block g (Array.getElem?_eq_some_iff.1 hh).1 (by omega)).trans hh, hrest⟩
theorem hid_of {p : Prop} (h : p) : Hid p := h
theorem new3_0 (w : World) (o1 o2 o3 : Obj) : (((w.alloc o1).alloc o2).alloc o3).heap[w.heap.size]? = some o1 := by
  show (((w.heap.push o1).push o2).push o3)[w.heap.size]? = some o1
  simp [Array.getElem?_push]
  omega
theorem new3_1 (w : World) (o1 o2 o3 : Obj) : (((w.alloc o1).alloc o2).alloc o3).heap[w.heap.size + 1]? = some o2 := by
  show (((w.heap.push o1).push o2).push o3)[w.heap.size + 1]? = some o2
  rw [Array.getElem?_push, if_neg (by simp), show w.heap.size + 1 = (w.heap.push o1).size from by simp, Array.getElem?_push_size]
theorem new3_2 (w : World) (o1 o2 o3 : Obj) : (((w.alloc o1).alloc o2).alloc o3).heap[w.heap.size + 1 + 1]? = some o3 := by
  show (((w.heap.push o1).push o2).push o3)[w.heap.size + 1 + 1]? = some o3
  rw [show w.heap.size + 1 + 1 = ((w.heap.push o1).push o2).size from by simp, Array.getElem?_push_size]
/-- What Merge tells. -/
def MdQ (W : World) (T1 T0 : Int) (N E0 E1 s c u d : Nat) (L : List Cn) (e : Ending) (w' : World) : Prop :=
  ∃ v'' O r q, e = .returned (part T1 T0 v'' N r q E0 E1) ∧ IsMerge O L ∧ GC W.heap.size W v'' O w' ∧ r < 18446744073709551616 ∧ q < 18446744073709551616 ∧ Soft.one r = Soft.fa s u ∧ Soft.one q = Soft.fa (Soft.fa c d) (Soft.fl s u)
abbrev MdP (W : World) (ah al bh bl : Int) (n n' s c u d mn mx mn' mx' : Nat) (L : List Cn) (e : Ending) (w' : World) : Prop :=
  MdQ W (hiOf (rnd (val ah al + val bh bl))) (loOf (rnd (val ah al + val bh bl))) ((n + n') % 18446744073709551616) (endF n n' mn mn' (-1)) (endF n n' mx mx' 1) s c u d L e w'
set_option maxRecDepth 10000 in
set_option maxHeartbeats 4000000 in
theorem cpmerge_any (ah al bh bl : Int) (v v' : Value) (n n' s c u d mn mx mn' mx' : Nat) (A C : List Cn) (w : World) (wa : Wf ah al) (wb : Wf bh bl) (hA : SN w v A) (hC : SN w v' C) (hW : Wc (A ++ C)) (hlA : A.length ≤ 1048576) (hlC : C.length ≤ 1048576)
    (hs : s < 18446744073709551616) (hc : c < 18446744073709551616) (hu : u < 18446744073709551616) (hd : d < 18446744073709551616) (h1 : mn < 18446744073709551616) (h2 : mx < 18446744073709551616) (h3 : mn' < 18446744073709551616) (h4 : mx' < 18446744073709551616) :
    Calls Tryz.prog 88 #[part ah al v n s c mn mx, part bh bl v' n' u d mn' mx'] w fun e w' => MdP w ah al bh bl n n' s c u d mn mx mn' mx' (A ++ C) e w' := by
  obtain ⟨w3, hw3⟩ : ∃ w3, ((w.alloc (.cells #[.int .i64 ah, .int .u64 al, v, .int .u64 (n : Int), .complex .f64 s c, .float .f64 mn, .float .f64 mx] 184)).alloc (.cells #[.int .i64 bh, .int .u64 bl, v', .int .u64 (n' : Int), .complex .f64 u d, .float .f64 mn', .float .f64 mx'] 184)).alloc (.cells #[.int .i64 0, .int .u64 0, .slice none 0 0, .int .u64 0, .complex .f64 0 0, .float .f64 0, .float .f64 0] 184) = w3 := ⟨_, rfl⟩
  have hb3 : Below w.heap.size w w3 := by rw [← hw3]; exact bel3 _ _ _ _
  have g0 : w3.heap[w.heap.size]? = some (.cells #[.int .i64 ah, .int .u64 al, v, .int .u64 (n : Int), .complex .f64 s c, .float .f64 mn, .float .f64 mx] 184 (0, 0)) := by rw [← hw3]; exact new3_0 _ _ _ _
  have g1 : w3.heap[w.heap.size + 1]? = some (.cells #[.int .i64 bh, .int .u64 bl, v', .int .u64 (n' : Int), .complex .f64 u d, .float .f64 mn', .float .f64 mx'] 184 (0, 0)) := by rw [← hw3]; exact new3_1 _ _ _ _
  have g2 : w3.heap[w.heap.size + 1 + 1]? = some (.cells #[.int .i64 0, .int .u64 0, .slice none 0 0, .int .u64 0, .complex .f64 0 0, .float .f64 0, .float .f64 0] 184 (0, 0)) := by rw [← hw3]; exact new3_2 _ _ _ _
  have hms : MS w.heap.size ah al bh bl v v' n n' s c u d mn mx mn' mx' w3 w3 := ms_of g0 g1 (Nat.le_refl _) ⟨_, _, _, _, _, _, _, g2⟩ (Below.refl _ _)
  have HMS : Hid (MS w.heap.size ah al bh bl v v' n n' s c u d mn mx mn' mx' w3 w3) := hms
  have HG : Hid (w3.heap[w.heap.size + 1 + 1]? = some (.cells #[.int .i64 0, .int .u64 0, .slice none 0 0, .int .u64 0, .complex .f64 0 0, .float .f64 0, .float .f64 0] 184 (0, 0))) := g2
  have HMC : Hid (∀ W, MS w.heap.size ah al bh bl v v' n n' s c u d mn mx mn' mx' w3 W → Calls Tryz.prog 135 #[v, v'] W fun e w' => ∃ ao k cap O, e = .returned (.slice ao k cap) ∧ Hid (IsMerge O (A ++ C)) ∧ Hid (GC W.heap.size W (.slice ao k cap) O w' ∧ w3.heap.size ≤ W.heap.size) ∧ Below W.heap.size W w') := fun W hW' => (cmerge_any W v v' A C (hA.below (hb3.trans (hW'.b.2.2.mono (by omega)))) (hC.below (hb3.trans (hW'.b.2.2.mono (by omega)))) hW hlA hlC).mono fun e w' ⟨v'', O, e1, e2, e3⟩ => by
    obtain ⟨ao, k, cap, rfl⟩ := gc_form e3
    exact ⟨ao, k, cap, O, e1, e2, ⟨e3, hW'.b.1⟩, e3.below⟩
  have HAD : Hid (∀ W, Calls Tryz.prog 134 #[.agg #[.int .i64 ah, .int .u64 al], .agg #[.int .i64 bh, .int .u64 bl]] W fun e w' => e = .returned (.agg #[.int .i64 (hiOf (rnd (val ah al + val bh bl))), .int .u64 (loOf (rnd (val ah al + val bh bl)))]) ∧ Below W.heap.size W w') := fun W => add_any ah al bh bl wa wb W
  have HPM : Hid (∀ W, Calls Tryz.prog 136 #[.complex .f64 s c, .complex .f64 u d] W fun e w' => ∃ r q, e = .returned (.complex .f64 r q) ∧ Below W.heap.size W w' ∧ Hid (r < 18446744073709551616 ∧ q < 18446744073709551616 ∧ Soft.one r = Soft.fa s u ∧ Soft.one q = Soft.fa (Soft.fa c d) (Soft.fl s u))) := fun W => (Pr.pmerge_any s c u d hs hc hu hd W).mono fun e w' ⟨r, q, k, e1, e2, e3, e4, e5, e6⟩ => ⟨r, q, e1, by rw [e2]; exact below_drew W k, e3, e4, e5, e6⟩
  have HE0 : Hid (∀ W, Calls Tryz.prog 137 #[part ah al v n s c mn mx, part bh bl v' n' u d mn' mx', .float .f64 mn, .float .f64 mn', .int .i64 (-1)] W fun e w' => e = .returned (.float .f64 (endF n n' mn mn' (-1))) ∧ Below W.heap.size W w') := fun W => end_any ah al bh bl v v' n n' s c u d mn mx mn' mx' mn mn' (-1) h1 h3 W
  have HE1 : Hid (∀ W, Calls Tryz.prog 137 #[part ah al v n s c mn mx, part bh bl v' n' u d mn' mx', .float .f64 mx, .float .f64 mx', .int .i64 1] W fun e w' => e = .returned (.float .f64 (endF n n' mx mx' 1)) ∧ Below W.heap.size W w') := fun W => end_any ah al bh bl v v' n n' s c u d mn mx mn' mx' mx mx' 1 h2 h4 W
  have HN : Hid (IntKind.u64.wrap ((n : Int) + (n' : Int)) = (((n + n') % 18446744073709551616 : Nat) : Int)) := by unfold Hid; rw [IntKind.wrap_u64]; omega
  have HB3 : Hid (Below w.heap.size w w3) := hb3
  have hi3 : w.heap.size + 1 + 1 < w3.heap.size := (Array.getElem?_eq_some_iff.1 g2).1
  clear g0 g1 g2 hA hC hms hb3 hW
  unfold MdP
  generalize endF n n' mn mn' (-1) = E0 at *
  generalize endF n n' mx mx' 1 = E1 at *
  generalize hiOf (rnd (val ah al + val bh bl)) = T1 at *
  generalize loOf (rnd (val ah al + val bh bl)) = T0 at *
  have sF := store_f
  have sC := store_c
  go_enter Tryz.func88, Tryz.ntmps88
  go_upto_region 1 with fail
  clear hw3
  generalize hB : w.heap.size = B at *
  have HBB : Hid (w.heap.size = B) := hB
  clear hB
  go_region_held3 (fun W => MS B ah al bh bl v v' n n' s c u d mn mx mn' mx' w3 W)
    (first | with_reducible assumption | with_reducible exact MS.chain hk8 HR8 _ _ _ _ _ _ _ | with_reducible exact HMS.out | with_reducible exact MS.drew HMS.out | with_reducible exact MS.drew (by assumption))
    (first
      | (go_at_call 134; with_reducible refine Calls.mono (HAD.out _) ?_; rintro e w4 ⟨rfl, hb4⟩; have hk4 := MS.kept (by assumption) hb4)
      | (go_at_call 135; with_reducible refine Calls.mono (HMC.out _ (by assumption)) ?_; rintro e w5 ⟨ao, k, cap, O, rfl, HI, HGC, hb5⟩; have hk5 := MS.kept (by assumption) hb5)
      | (go_at_call 136; with_reducible refine Calls.mono (HPM.out _) ?_; rintro e w6 ⟨r, q, rfl, hb6, HP⟩; have hk6 := MS.kept (by assumption) hb6)
      | (go_at_call 137; with_reducible refine Calls.mono (HE0.out _) ?_; rintro e w7 ⟨rfl, hb7⟩; have hk7 := MS.kept (by assumption) hb7)
      | (go_at_call 137; with_reducible refine Calls.mono (HE1.out _) ?_; rintro e w8 ⟨rfl, hb8⟩; have hk8 := MS.kept (by assumption) hb8; obtain ⟨r0, r1, r2, r3, r4, r5, r6, HR8⟩ := Res.out (MS.b hk8).2.1; obtain ⟨c0, c1, c2, c3, c4, c5, c6⟩ := seven_cells HR8; obtain ⟨f0, f1, f2, f3, f4, f5, f6⟩ := seven_fr HR8))
  go_wp2_with fail
  have HE := MS.chain hk8 HR8 (.int .i64 T1) (.int .u64 T0) (.slice ao k cap) (.int .u64 (IntKind.u64.wrap ((n : Int) + (n' : Int)))) (.complex .f64 r q) (.float .f64 E0) (.float .f64 E1)
  rw [put7_eq] at HE ⊢
  have HS := set_seven (v0 := .int .i64 T1) (v1 := .int .u64 T0) (v2 := .slice ao k cap) (v3 := .int .u64 (IntKind.u64.wrap ((n : Int) + (n' : Int)))) (v4 := .complex .f64 r q) (v5 := .float .f64 E0) (v6 := .float .f64 E1) HR8.out
  obtain ⟨z0, z1, z2, z3, z4, z5, z6⟩ := seven_cells HS
  have HGF : Hid (GC w.heap.size w (.slice ao k cap) O (put7 w8 (B + 1 + 1) (.int .i64 T1) (.int .u64 T0) (.slice ao k cap) (.int .u64 (IntKind.u64.wrap ((n : Int) + (n' : Int)))) (.complex .f64 r q) (.float .f64 E0) (.float .f64 E1))) := by
    have hb := (MS.b HE).2.2
    have hB := HBB.out
    refine ⟨own_le (own_mid (own_keep (own_keep (own_keep HGC.out.1.own hb6) hb7) hb8) (mid_put7 _ _ _ _ _ _ _ _ _) (by have := HGC.out.2; omega)) (by have := HGC.out.2; omega), by rw [hB]; exact HB3.out.trans (hb.mono (by omega)), by have := (MS.b HE).1; omega⟩
  simp [bodyPost, results, Tryz.results88, go_sem, z0, z1, z2, z3, z4, z5, z6]
  exact ⟨_, O, r, q, by rw [HN.out], HI.out, HGF.out, HP.out⟩
end Go.Proofs.YtfnohbalkpponaaGreatDoor
/- THE CELLS: Drain. Own work of the verifier. -/
namespace Go.Proofs.YtfnohbalkpponaaGreatDoor
open Go.RowKit

theorem isbuf_any (b : Int) (h0 : 0 ≤ b) (h1 : b < 2) (w : World) : Calls Tryz.prog 132 #[.int .i64 b] w fun e w' => e = .returned (.bool true) ∧ w' = w := by
  go_enter Tryz.func132, Tryz.ntmps132
  go_wp2
  go_ret
  exact ⟨rfl, rfl⟩
set_option maxHeartbeats 1000000 in
theorem rows_any (c : Nat) (b : Nat) (hb : b < 2) (v : Value) (w : World) (hc : w.cell? ⟨c, b, none⟩ = some v) : Calls Tryz.prog 299 #[.pointer (some ⟨c, 0, none⟩), .int .i64 (b : Int)] w fun e w' => e = .returned v ∧ w' = w := by
  rcases (show b = 0 ∨ b = 1 by omega) with rfl | rfl
  · go_enter Tryz.func299, Tryz.ntmps299
    go_wp2
    go_ret
    exact ⟨rfl, rfl⟩
  · go_enter Tryz.func299, Tryz.ntmps299
    go_wp2
    go_ret
    exact ⟨rfl, rfl⟩
/-- The sum of counters' parts, brought round. -/
abbrev cnt (t : Int) (v : Value) : Value := part (hiOf t) (loOf t) v 0 0 0 0 0
theorem one_zero {r : Nat} (h : Soft.one r = 0) : r = 0 := by
  unfold Soft.one at h
  split at h
  · cases h
  · exact h
theorem fa_zero : Soft.fa 0 0 = 0 := by decide +kernel
theorem fl_zero : Soft.fl 0 0 = 0 := by decide +kernel
theorem merge_of_nil {O : List Cn} (h : IsMerge O ([] ++ [])) : O = [] := h.uniq isMerge_nil
theorem cnt_merge (t hi lo : Int) (v : Value) (w : World) (ht : InR t) (hw : Wf hi lo) (hv : SN w v []) :
    Calls Tryz.prog 88 #[cnt t v, part hi lo (.slice none 0 0) 0 0 0 0 0] w fun e w' => ∃ ao k cap, e = .returned (cnt (rnd (t + val hi lo)) (.slice ao k cap)) ∧ Hid (SN w' (.slice ao k cap) []) ∧ Hid (Below w.heap.size w w') := by
  refine Calls.mono (cpmerge_any (hiOf t) (loOf t) hi lo v (.slice none 0 0) 0 0 0 0 0 0 0 0 0 0 [] [] w (wf_of ht) hw hv (Or.inl ⟨rfl, rfl⟩) (fun c hc => by cases hc) (by simp) (by simp) (by decide) (by decide) (by decide) (by decide) (by decide) (by decide) (by decide) (by decide)) ?_
  rintro e w' ⟨v'', O, r, q, rfl, hI, hG, _, _, h1, h2⟩
  obtain rfl := merge_of_nil hI
  rw [fa_zero] at h1 h2
  rw [fl_zero, fa_zero] at h2
  obtain rfl := one_zero h1
  obtain rfl := one_zero h2
  obtain ⟨ao, k, cap, rfl⟩ := gc_form hG
  refine ⟨ao, k, cap, ?_, hG.sn, hG.below⟩
  rw [val_hl t]
  rfl
end Go.Proofs.YtfnohbalkpponaaGreatDoor
/- THE CELLS: Drain of each kind. Own work of the verifier. -/
namespace Go.Proofs.YtfnohbalkpponaaGreatDoor
open Go.RowKit

/-- All but some blocks stay. -/
structure Off (gs : List Nat) (W W' : World) : Prop where
  os : W'.os = W.os
  tape : W'.tape = W.tape
  output : W'.output = W.output
  size : W.heap.size ≤ W'.heap.size
  block : ∀ k, k < W.heap.size → k ∉ gs → W'.heap[k]? = W.heap[k]?
theorem Off.refl (gs : List Nat) (W : World) : Off gs W W := ⟨rfl, rfl, rfl, Nat.le_refl _, fun _ _ _ => rfl⟩
theorem Off.trans {gs : List Nat} {a b c : World} (h : Off gs a b) (k : Off gs b c) : Off gs a c :=
  ⟨k.os.trans h.os, k.tape.trans h.tape, k.output.trans h.output, Nat.le_trans h.size k.size, fun j hj hn => (k.block j (Nat.lt_of_lt_of_le hj h.size) hn).trans (h.block j hj hn)⟩
theorem Off.of_below {gs : List Nat} {a b : World} (h : Below a.heap.size a b) : Off gs a b := ⟨h.os, h.tape, h.output, h.size, fun k hk _ => h.block k hk⟩
theorem Off.of_mid {gs : List Nat} {a b : World} {g : Nat} (h : Mid g (g + 1) a b) (hg : g ∈ gs) : Off gs a b := ⟨h.os, h.tape, h.output, h.size, fun k hk hn => h.block k hk (fun ⟨h1, h2⟩ => hn (by rw [show k = g by omega]; exact hg))⟩
theorem Off.put7 {gs : List Nat} {a w : World} (h : Off gs a w) {b : Nat} (hb : a.heap.size ≤ b) (v0 v1 v2 v3 v4 v5 v6 : Value) : Off gs a (put7 w b v0 v1 v2 v3 v4 v5 v6) := by
  have hm := mid_put7 w b v0 v1 v2 v3 v4 v5 v6
  refine ⟨hm.os.trans h.os, hm.tape.trans h.tape, hm.output.trans h.output, Nat.le_trans h.size hm.size, fun k hk hn => ?_⟩
  rw [put7_other _ _ _ _ _ _ _ _ _ _ (by omega)]
  exact h.block k hk hn
theorem Off.row {gs : List Nat} {a w : World} (h : Off gs a w) {g : Nat} {xs : List Int} (hr : RowW a g xs) (hg : g ∉ gs) : RowW w g xs := by
  have := hr.lt
  unfold RowW at *; rw [h.block g this hg]; exact hr
theorem Off.hid {gs : List Nat} {a w : World} (h : Off gs a w) {k : Nat} {o : Obj} (hk : a.heap[k]? = some o) (hg : k ∉ gs) : w.heap[k]? = some o := by
  rw [h.block k (Array.getElem?_eq_some_iff.1 hk).1 hg]; exact hk
/-- What a row's emptying tells and leaves, of words that hold xs. -/
def Drains (fd : FuncId) (pc : Value) (xs : List Int) (hi lo : Int) (ys : List Int) : Prop := ∀ (W : World) (g : Nat), RowW W g xs → Calls Tryz.prog fd #[pc, .pointer none, .slice (some ⟨g, 0, none⟩) xs.length xs.length] W fun e w' => e = .returned (part hi lo (.slice none 0 0) 0 0 0 0 0) ∧ Hid (RowW w' g ys) ∧ Hid (Mid g (g + 1) W w')
/-- Rows, what they hold, what they come to, what they hold then. -/
structure Rw where
  g : Nat
  xs : List Int
  hi : Int
  lo : Int
  ys : List Int
/-- The sum of the first i. -/
def sumR (R : List Rw) (i : Nat) : Int := (R.take i).foldl (fun t r => rnd (t + val r.hi r.lo)) 0
theorem sumR_succ (R : List Rw) (i : Nat) (h : i < R.length) : sumR R (i + 1) = rnd (sumR R i + val R[i].hi R[i].lo) := by
  unfold sumR; rw [List.take_succ_eq_append_getElem h, List.foldl_append]; rfl
theorem sumR_in (R : List Rw) (i : Nat) : InR (sumR R i) := by
  induction i with
  | zero => unfold sumR; constructor <;> simp
  | succ i ih =>
    by_cases h : i < R.length
    · rw [sumR_succ R i h]; exact inR_rnd _
    · have : sumR R (i + 1) = sumR R i := by unfold sumR; rw [List.take_of_length_le (by omega), List.take_of_length_le (by omega)]
      rw [this]; exact ih
/-- Rows while they are emptied: the first i are. -/
structure Wh (R : List Rw) (w : World) (i : Nat) (wr : World) : Prop where
  off : Off (R.map (·.g)) w wr
  done : ∀ j (h : j < R.length), j < i → RowW wr R[j].g R[j].ys
  left : ∀ j (h : j < R.length), i ≤ j → RowW wr R[j].g R[j].xs
theorem Wh.next {R : List Rw} {w wr w1 : World} {i : Nat} (h : Wh R w i wr) (hi : i < R.length) (hnd : (R.map (·.g)).Nodup) (hm : Mid R[i].g (R[i].g + 1) wr w1) (hy : RowW w1 R[i].g R[i].ys) : Wh R w (i + 1) w1 := by
  have hne : ∀ j (hj : j < R.length), j ≠ i → ¬ (R[i].g ≤ R[j].g ∧ R[j].g < R[i].g + 1) := fun j hj hji hc => by
    have e : (R.map (·.g))[j]'(by simpa using hj) = (R.map (·.g))[i]'(by simpa using hi) := by simp; omega
    rcases Nat.lt_or_gt_of_ne hji with hlt | hlt
    · exact List.pairwise_iff_getElem.1 hnd j i (by simpa using hj) (by simpa using hi) hlt e
    · exact List.pairwise_iff_getElem.1 hnd i j (by simpa using hi) (by simpa using hj) hlt e.symm
  refine ⟨h.off.trans (Off.of_mid hm (List.mem_map.2 ⟨R[i], List.getElem_mem hi, rfl⟩)), fun j hj hji => ?_, fun j hj hji => (h.left j hj (by omega)).mid hm (hne j hj (by omega))⟩
  by_cases e : j = i
  · subst e; exact hy
  · exact (h.done j hj (by omega)).mid hm (hne j hj e)
theorem Wh.below {R : List Rw} {w wr w1 : World} {i : Nat} (h : Wh R w i wr) (hb : Below wr.heap.size wr w1) : Wh R w i w1 :=
  ⟨h.off.trans (Off.of_below hb), fun j hj k => (h.done j hj k).below hb (h.done j hj k).lt, fun j hj k => (h.left j hj k).below hb (h.left j hj k).lt⟩
theorem Wh.put {R : List Rw} {w wr : World} {i : Nat} (h : Wh R w i wr) (hl : ∀ r ∈ R, r.g < w.heap.size) {b : Nat} (hb : w.heap.size ≤ b) (v0 v1 v2 v3 v4 v5 v6 : Value) : Wh R w i (put7 wr b v0 v1 v2 v3 v4 v5 v6) :=
  ⟨h.off.put7 hb _ _ _ _ _ _ _, fun j hj k => (h.done j hj k).put7 (by have := hl _ (List.getElem_mem hj); omega) _ _ _ _ _ _ _, fun j hj k => (h.left j hj k).put7 (by have := hl _ (List.getElem_mem hj); omega) _ _ _ _ _ _ _⟩
/-- A slab's buffer: its block, the instrument's, the rows'. -/
structure Buf (T : TypeId) (s c b h : Nat) (R : List Rw) (w : World) : Prop where
  slab : w.cell? ⟨s, 0, none⟩ = some (.iface T (.pointer (some ⟨c, 0, none⟩)))
  held : ∃ cap, w.cell? ⟨c, b, none⟩ = some (.slice (some ⟨h, 0, none⟩) R.length cap)
  rows : ∀ i (hi : i < R.length), w.cell? ⟨h, i, none⟩ = some (.slice (some ⟨R[i].g, 0, none⟩) R[i].xs.length R[i].xs.length)
  nd : (R.map (·.g)).Nodup
  s_ne : s ∉ R.map (·.g)
  c_ne : c ∉ R.map (·.g)
  h_ne : h ∉ R.map (·.g)
  left : ∀ r ∈ R, RowW w r.g r.xs
/-- What Drain tells. -/
def DrQ (R : List Rw) (w : World) (e : Ending) (w' : World) : Prop := ∃ v, e = .returned (.tuple #[cnt (sumR R R.length) v, .int .i64 0]) ∧ SN w' v [] ∧ Wh R w R.length w'
/-- Where Drain stands: the sum so far lies in a block of its own, the result's is there. -/
structure DrI (R : List Rw) (w : World) (i : Nat) (wr : World) : Prop where
  wh : Wh R w i wr
  res : wr.heap[w.heap.size]? = some (.cells #[.int .i64 0, .int .u64 0, .slice none 0 0, .int .u64 0, .complex .f64 0 0, .float .f64 0, .float .f64 0] 184 (0, 0))
  all : ∃ ao k cap, wr.heap[w.heap.size + 1]? = some (.cells #[.int .i64 (hiOf (sumR R i)), .int .u64 (loOf (sumR R i)), .slice ao k cap, .int .u64 0, .complex .f64 0 0, .float .f64 0, .float .f64 0] 184 (0, 0)) ∧ SN wr (.slice ao k cap) []
theorem dr_start {T : TypeId} {s c b h : Nat} {R : List Rw} {w w2 : World} (hB : Buf T s c b h R w) (g0 : w2.heap[w.heap.size]? = some (.cells #[.int .i64 0, .int .u64 0, .slice none 0 0, .int .u64 0, .complex .f64 0 0, .float .f64 0, .float .f64 0] 184 (0, 0))) (g1 : w2.heap[w.heap.size + 1]? = some (.cells #[.int .i64 0, .int .u64 0, .slice none 0 0, .int .u64 0, .complex .f64 0 0, .float .f64 0, .float .f64 0] 184 (0, 0))) (hb : Below w.heap.size w w2) : DrI R w 0 w2 :=
  ⟨⟨Off.of_below hb, fun j _ h => by omega, fun j hj _ => (hB.left _ (List.getElem_mem hj)).below hb (hB.left _ (List.getElem_mem hj)).lt⟩, g0, none, 0, 0, by rw [show sumR R 0 = 0 from rfl]; exact g1, Or.inl ⟨rfl, rfl⟩⟩
theorem dr_facts {T : TypeId} {s c b h i : Nat} {R : List Rw} {w wr : World} (hB : Hid (Buf T s c b h R w)) (hI : Hid (DrI R w i wr)) (hi : i < R.length) :
    wr.cell? ⟨h, i, none⟩ = some (.slice (some ⟨R[i].g, 0, none⟩) R[i].xs.length R[i].xs.length) ∧ wr.cell? ⟨s, 0, none⟩ = some (.iface T (.pointer (some ⟨c, 0, none⟩))) ∧ ∃ ao k cap, Hid (wr.heap[w.heap.size + 1]? = some (.cells #[.int .i64 (hiOf (sumR R i)), .int .u64 (loOf (sumR R i)), .slice ao k cap, .int .u64 0, .complex .f64 0 0, .float .f64 0, .float .f64 0] 184 (0, 0))) ∧ Hid (SN wr (.slice ao k cap) []) := by
  have h1 := hB.out.rows i hi
  have h2 := hB.out.slab
  refine ⟨(World.cell?_of_block (hI.out.wh.off.block h (lt_of_cell h1) hB.out.h_ne)).trans h1, (World.cell?_of_block (hI.out.wh.off.block s (lt_of_cell h2) hB.out.s_ne)).trans h2, hI.out.all⟩
theorem dr_apart {T : TypeId} {s c b h i k : Nat} {R : List Rw} {w : World} (hB : Hid (Buf T s c b h R w)) (hi : i < R.length) : ¬ (R[i].g ≤ w.heap.size + k ∧ w.heap.size + k < R[i].g + 1) := by
  have := (hB.out.left _ (List.getElem_mem hi)).lt
  omega
theorem sn_nil {w w' : World} {v : Value} (h : SN w v []) : SN w' v [] := by
  rcases h with h | ⟨b, o, cap, h1, h2, _⟩
  · exact Or.inl h
  · exact Or.inr ⟨b, o, cap, h1, h2, fun i hi => by simp at hi⟩
theorem mid_drew {n0 B : Nat} {W W' : World} (h : Mid n0 B W.drew W') : Mid n0 B W W' := ⟨h.os, h.tape, h.output, h.size, h.block⟩
theorem hid_kept {k : Nat} {W W' : World} {o : Obj} (h : Hid (W.heap[k]? = some o)) (hb : Hid (Below W.heap.size W W')) : Hid (W'.heap[k]? = some o) := hid_below h hb (Array.getElem?_eq_some_iff.1 h).1
theorem dr_next {R : List Rw} {w wr w1 w2 : World} {i g : Nat} {ao : Option Addr} {ka ca : Nat} {t : Int} {r0 r1 r2 r3 r4 r5 r6 : Value} (hI : Hid (DrI R w i wr)) (hW : Wh R w (i + 1) w1) (hg : ¬ (g ≤ w.heap.size ∧ w.heap.size < g + 1)) (hM : Mid g (g + 1) wr w1) (hb : Below w1.heap.size w1 w2) (hl : ∀ r ∈ R, r.g < w.heap.size) (ht : sumR R (i + 1) = t) (hA : w2.heap[w.heap.size + 1]? = some (.cells #[r0, r1, r2, r3, r4, r5, r6] 184 (0, 0))) (hs : SN w2 (.slice ao ka ca) []) :
    DrI R w (i + 1) (put7 w2 (w.heap.size + 1) (.int .i64 (hiOf t)) (.int .u64 (loOf t)) (.slice ao ka ca) (.int .u64 0) (.complex .f64 0 0) (.float .f64 0) (.float .f64 0)) := by
  subst ht
  have hr := hI.out.res
  have h1 : w1.heap[w.heap.size]? = _ := (hM.block _ (Array.getElem?_eq_some_iff.1 hr).1 hg).trans hr
  have h2 : w2.heap[w.heap.size]? = _ := (hb.block _ (Array.getElem?_eq_some_iff.1 h1).1).trans h1
  exact ⟨(hW.below hb).put hl (by omega) _ _ _ _ _ _ _, by rw [put7_other _ _ _ _ _ _ _ _ _ _ (by omega)]; exact h2, ao, ka, ca, set_seven hA, sn_nil hs⟩
theorem hid_drew {k : Nat} {W : World} {o : Obj} (h : Hid (W.heap[k]? = some o)) : Hid (W.drew.heap[k]? = some o) := h
theorem dr_all {R : List Rw} {w wr : World} {i : Nat} (hI : Hid (DrI R w i wr)) : ∃ ao k cap, Hid (wr.heap[w.heap.size + 1]? = some (.cells #[.int .i64 (hiOf (sumR R i)), .int .u64 (loOf (sumR R i)), .slice ao k cap, .int .u64 0, .complex .f64 0 0, .float .f64 0, .float .f64 0] 184 (0, 0))) ∧ Hid (SN wr (.slice ao k cap) []) := hI.out.all
set_option maxRecDepth 10000 in
set_option maxHeartbeats 4000000 in
theorem drain_counter (s c b h : Nat) (hb : b < 2) (R : List Rw) (w : World) (hB : Buf 293 s c b h R w) (hD : ∀ r ∈ R, Drains 295 (.pointer (some ⟨c, 0, none⟩)) r.xs r.hi r.lo r.ys ∧ Wf r.hi r.lo) (hR : R.length < 1000) :
    Calls Tryz.prog 86 #[.pointer (some ⟨s, 0, none⟩), .pointer none, .int .i64 (b : Int)] w fun e w' => DrQ R w e w' := by
  obtain ⟨cap, hheld⟩ := hB.held
  have hslab := hB.slab
  obtain ⟨w2, hw2⟩ : ∃ w2, (w.alloc (.cells #[.int .i64 0, .int .u64 0, .slice none 0 0, .int .u64 0, .complex .f64 0 0, .float .f64 0, .float .f64 0] 184)).alloc (.cells #[.int .i64 0, .int .u64 0, .slice none 0 0, .int .u64 0, .complex .f64 0 0, .float .f64 0, .float .f64 0] 184) = w2 := ⟨_, rfl⟩
  have hb2 : Below w.heap.size w w2 := by rw [← hw2]; exact bel2 _ _ _
  have g0 : w2.heap[w.heap.size]? = some (.cells #[.int .i64 0, .int .u64 0, .slice none 0 0, .int .u64 0, .complex .f64 0 0, .float .f64 0, .float .f64 0] 184 (0, 0)) := by rw [← hw2]; exact Pr.new1 _ _ _
  have g1 : w2.heap[w.heap.size + 1]? = some (.cells #[.int .i64 0, .int .u64 0, .slice none 0 0, .int .u64 0, .complex .f64 0 0, .float .f64 0, .float .f64 0] 184 (0, 0)) := by rw [← hw2]; exact Pr.new2 _ _ _
  have HI : Hid (DrI R w 0 w2) := dr_start hB g0 g1 hb2
  have HB : Hid (∀ W, _) := isbuf_any b (by omega) (by omega)
  have hl := lt_of_cell hslab
  have hl2 := lt_of_cell hheld
  have hs2 : w2.cell? ⟨s, 0, none⟩ = some (.iface 293 (.pointer (some ⟨c, 0, none⟩))) := (hb2.cell (p := ⟨s, 0, none⟩) hl).trans hslab
  have hc2 : w2.cell? ⟨c, b, none⟩ = some (.slice (some ⟨h, 0, none⟩) R.length cap) := (hb2.cell (p := ⟨c, b, none⟩) hl2).trans hheld
  have HRo : Hid (∀ _ : Unit, _) := fun _ => rows_any c b hb (.slice (some ⟨h, 0, none⟩) R.length cap) w2 hc2
  have HBf : Hid (Buf 293 s c b h R w) := hB
  have HDr : Hid (∀ r ∈ R, Drains 295 (.pointer (some ⟨c, 0, none⟩)) r.xs r.hi r.lo r.ys ∧ Wf r.hi r.lo) := hD
  clear hB hD hheld hslab g0 g1 hc2
  go_enter Tryz.func86, Tryz.ntmps86
  go_wp2_with (first | (go_at_call 132; refine (HB.out _).mono ?_; rintro e w1 ⟨rfl, rfl⟩) | (go_at_call 299; refine Calls.mono (HRo.out ()) ?_; rintro e w1 ⟨rfl, rfl⟩))
  clear hw2 hs2
  go_loopw [22] (fun a wr => ∃ i : Nat, i ≤ R.length ∧ a = .int .i64 (i : Int) ∧ Hid (DrI R w i wr)) (fun a _ => R.length - (intOf a).toNat)
  case atStart => exact ⟨0, by omega, rfl, HI.out⟩
  case round =>
    obtain ⟨i, hi, rfl, HIi⟩ := hrel
    by_cases hlt : i < R.length
    · have hlt' : (i : Int) < (R.length : Int) := by omega
      obtain ⟨hrow, hsl, ao, ka, ca, HA, HSn⟩ := dr_facts HBf HIi hlt
      obtain ⟨q0, q1, q2, q3, q4, q5, q6⟩ := seven_cells HA
      obtain ⟨f0, f1, f2, f3, f4, f5, f6⟩ := seven_fr HA
      have HRW : Hid (RowW wr R[i].g R[i].xs) := HIi.out.wh.left i hlt (Nat.le_refl _)
      have HRWd : Hid (RowW wr.drew R[i].g R[i].xs) := HRW
      have HDi := HDr.out _ (List.getElem_mem hlt)
      have HD : Hid (∀ W, RowW W R[i].g R[i].xs → Calls Tryz.prog 295 #[.pointer (some ⟨c, 0, none⟩), .pointer none, .slice (some ⟨R[i].g, 0, none⟩) R[i].xs.length R[i].xs.length] W fun e w' => e = .returned (.agg #[.int .i64 R[i].hi, .int .u64 R[i].lo, .slice none 0 0, .int .u64 0, .complex .f64 0 0, .float .f64 0, .float .f64 0]) ∧ Hid (RowW w' R[i].g R[i].ys) ∧ Hid (Mid R[i].g (R[i].g + 1) W w')) := fun W => HDi.1 W R[i].g
      have HMg : Hid (∀ W, SN W (.slice ao ka ca) [] → Calls Tryz.prog 88 #[.agg #[.int .i64 (hiOf (sumR R i)), .int .u64 (loOf (sumR R i)), .slice ao ka ca, .int .u64 0, .complex .f64 0 0, .float .f64 0, .float .f64 0], .agg #[.int .i64 R[i].hi, .int .u64 R[i].lo, .slice none 0 0, .int .u64 0, .complex .f64 0 0, .float .f64 0, .float .f64 0]] W fun e w' => ∃ ao k cap, e = .returned (.agg #[.int .i64 (hiOf (sumR R (i + 1))), .int .u64 (loOf (sumR R (i + 1))), .slice ao k cap, .int .u64 0, .complex .f64 0 0, .float .f64 0, .float .f64 0]) ∧ Hid (SN w' (.slice ao k cap) []) ∧ Hid (Below W.heap.size W w')) := fun W hS => by
        rw [sumR_succ R i hlt]
        exact cnt_merge (sumR R i) R[i].hi R[i].lo (.slice ao ka ca) W (sumR_in R i) HDi.2 hS
      have HNx : Hid (∀ w1, RowW w1 R[i].g R[i].ys → Mid R[i].g (R[i].g + 1) wr w1 → Wh R w (i + 1) w1) := fun w1 h1 h2 => HIi.out.wh.next hlt HBf.out.nd h2 h1
      have HNA : Hid (¬ (R[i].g ≤ w.heap.size + 1 ∧ w.heap.size + 1 < R[i].g + 1)) := dr_apart HBf hlt
      clear HDi
      have HNR : Hid (¬ (R[i].g ≤ w.heap.size ∧ w.heap.size < R[i].g + 1)) := dr_apart (k := 0) HBf hlt
      have HL : Hid (∀ r ∈ R, r.g < w.heap.size) := fun r hr => (HBf.out.left r hr).lt
      have HWh : Hid (Wh R w i wr) := HIi.out.wh
      generalize R[i].g = g at *
      generalize R[i].xs = xs at *
      generalize R[i].ys = ys at *
      generalize R[i].hi = hi1 at *
      generalize R[i].lo = lo1 at *
      generalize hiOf (sumR R i) = T1 at *
      generalize loOf (sumR R i) = T0 at *
      have HU : Hid (∃ t, sumR R (i + 1) = t) := ⟨_, rfl⟩
      go_wp2_with fail
      have HAd := hid_drew HA
      have sF := store_f
      have sC := store_c
      go_region_with (first
        | (go_at_call 295; with_reducible refine Calls.mono (HD.out _ (by first | with_reducible exact HRWd.out | with_reducible exact HRW.out)) ?_; rintro e w1 ⟨rfl, HR1, HM1⟩; have HA1 := hid_mid HAd HM1 HNA.out; obtain ⟨q0, q1, q2, q3, q4, q5, q6⟩ := seven_cells HA1)
        | (go_at_call 88; with_reducible refine Calls.mono (HMg.out _ (sn_nil HSn.out)) ?_; rintro e w2 ⟨ao2, k2, c2, rfl, HSn2, HB2⟩; have HA2 := hid_kept HA1 HB2; obtain ⟨p0, p1, p2, p3, p4, p5, p6⟩ := seven_cells HA2; obtain ⟨f0, f1, f2, f3, f4, f5, f6⟩ := seven_fr HA2))
      all_goals
        go_wp2_with fail
        exact ⟨⟨i + 1, by omega, by simp, by rw [put7_eq]; exact dr_next (g := g) HIi (HNx.out w1 HR1.out (mid_drew HM1.out)) HNR.out (mid_drew HM1.out) HB2.out HL.out rfl HA2.out HSn2.out⟩, by simp [intOf]; omega⟩
    · obtain rfl : i = R.length := by omega
      have hlt' : ¬ (R.length : Int) < (R.length : Int) := by omega
      have HRs : Hid _ := HIi.out.res
      obtain ⟨ao, ka, ca, HA, HSn⟩ := dr_all HIi
      obtain ⟨q0, q1, q2, q3, q4, q5, q6⟩ := seven_cells HA
      obtain ⟨p0, p1, p2, p3, p4, p5, p6⟩ := seven_cells HRs
      obtain ⟨f0, f1, f2, f3, f4, f5, f6⟩ := seven_fr HRs
      have sF := store_f
      have sC := store_c
      have HL : Hid (∀ r ∈ R, r.g < w.heap.size) := fun r hr => (HBf.out.left r hr).lt
      have HQ : Hid (∀ v w', SN w' v [] → Wh R w R.length w' → DrQ R w (.returned (.tuple #[.agg #[.int .i64 (hiOf (sumR R R.length)), .int .u64 (loOf (sumR R R.length)), v, .int .u64 0, .complex .f64 0 0, .float .f64 0, .float .f64 0], .int .i64 0])) w') := fun v w' h1 h2 => ⟨v, rfl, h1, h2⟩
      generalize hiOf (sumR R R.length) = T1 at *
      generalize loOf (sumR R R.length) = T0 at *
      go_wp2_with fail
      rw [put7_eq]
      have HE := set_seven (v0 := .int .i64 T1) (v1 := .int .u64 T0) (v2 := .slice ao ka ca) (v3 := .int .u64 0) (v4 := .complex .f64 0 0) (v5 := .float .f64 0) (v6 := .float .f64 0) HRs.out
      obtain ⟨z0, z1, z2, z3, z4, z5, z6⟩ := seven_cells HE
      simp [bodyPost, results, Tryz.results86, go_sem, z0, z1, z2, z3, z4, z5, z6]
      exact HQ.out _ _ (sn_nil HSn.out) (HIi.out.wh.put HL.out (Nat.le_refl _) _ _ _ _ _ _ _)
end Go.Proofs.YtfnohbalkpponaaGreatDoor
