/- PARTS: Merge. Own work of the verifier. -/
import Derived.Test.YtpllckgpolhafaaGreatDoorS2
namespace Go.Proofs.YtpllckgpolhafaaGreatDoor
open Go.RowKit

/-- Where a result will be. -/
def Res (k : Nat) (W : World) : Prop := ∃ r0 r1 r2 r3 r4 r5 r6 : Value, W.heap[k]? = some (.cells #[r0, r1, r2, r3, r4, r5, r6] 60 (0, 0))
theorem Res.out {k : Nat} {W : World} (h : Res k W) : ∃ r0 r1 r2 r3 r4 r5 r6 : Value, Hid (W.heap[k]? = some (.cells #[r0, r1, r2, r3, r4, r5, r6] 60 (0, 0))) := h
theorem Res.below {k B : Nat} {W W' : World} (h : Res k W) (hb : Below B W W') (hk : k < B) : Res k W' := by
  obtain ⟨r0, r1, r2, r3, r4, r5, r6, h⟩ := h
  exact ⟨r0, r1, r2, r3, r4, r5, r6, by rw [hb.block k hk]; exact h⟩
theorem Res.put7 {k : Nat} {W : World} (h : Res k W) (v0 v1 v2 v3 v4 v5 v6 : Value) : Res k (put7 W k v0 v1 v2 v3 v4 v5 v6) := by
  obtain ⟨r0, r1, r2, r3, r4, r5, r6, h⟩ := h
  exact ⟨_, _, _, _, _, _, _, set_seven h⟩
theorem Res.lt {k : Nat} {W : World} (h : Res k W) : k < W.heap.size := by
  obtain ⟨r0, r1, r2, r3, r4, r5, r6, h⟩ := h
  exact (Array.getElem?_eq_some_iff.1 h).1
/-- Both parts, where the result will be, and all that was there. -/
abbrev MS (B : Nat) (ah al bh bl : Int) (v v' : Value) (n n' s c u d mn mx mn' mx' : Nat) (w3 W : World) : Prop := W.cell? ⟨B, 0, none⟩ = some (.int .i64 ah) ∧ W.cell? ⟨B, 1, none⟩ = some (.int .u64 al) ∧ W.cell? ⟨B, 2, none⟩ = some v ∧ W.cell? ⟨B, 3, none⟩ = some (.int .u64 (n : Int)) ∧ W.cell? ⟨B, 4, none⟩ = some (.complex .f64 s c) ∧ W.cell? ⟨B, 5, none⟩ = some (.float .f64 mn) ∧ W.cell? ⟨B, 6, none⟩ = some (.float .f64 mx) ∧ W.cell? ⟨B + 1, 0, none⟩ = some (.int .i64 bh) ∧ W.cell? ⟨B + 1, 1, none⟩ = some (.int .u64 bl) ∧ W.cell? ⟨B + 1, 2, none⟩ = some v' ∧ W.cell? ⟨B + 1, 3, none⟩ = some (.int .u64 (n' : Int)) ∧ W.cell? ⟨B + 1, 4, none⟩ = some (.complex .f64 u d) ∧ W.cell? ⟨B + 1, 5, none⟩ = some (.float .f64 mn') ∧ W.cell? ⟨B + 1, 6, none⟩ = some (.float .f64 mx') ∧ w3.heap.size ≤ W.heap.size ∧ Res (B + 1 + 1) W ∧ Below (B + 1 + 1) w3 W
theorem ms_of {B : Nat} {ah al bh bl : Int} {v v' : Value} {n n' s c u d mn mx mn' mx' : Nat} {w3 W : World} (h0 : w3.heap[B]? = some (.cells #[.int .i64 ah, .int .u64 al, v, .int .u64 (n : Int), .complex .f64 s c, .float .f64 mn, .float .f64 mx] 60 (0, 0))) (h1 : w3.heap[B + 1]? = some (.cells #[.int .i64 bh, .int .u64 bl, v', .int .u64 (n' : Int), .complex .f64 u d, .float .f64 mn', .float .f64 mx'] 60 (0, 0))) (hs : w3.heap.size ≤ W.heap.size) (hr : Res (B + 1 + 1) W) (hb : Below (B + 1 + 1) w3 W) : MS B ah al bh bl v v' n n' s c u d mn mx mn' mx' w3 W := by
  have k0 : Hid (W.heap[B]? = some _) := hid_below h0 hb (by omega)
  have k1 : Hid (W.heap[B + 1]? = some _) := hid_below h1 hb (by omega)
  obtain ⟨a0, a1, a2, a3, a4, a5, a6⟩ := seven_cells k0
  obtain ⟨b0, b1, b2, b3, b4, b5, b6⟩ := seven_cells k1
  exact ⟨a0, a1, a2, a3, a4, a5, a6, b0, b1, b2, b3, b4, b5, b6, hs, hr, hb⟩
theorem MS.b {B : Nat} {ah al bh bl : Int} {v v' : Value} {n n' s c u d mn mx mn' mx' : Nat} {w3 W : World} (h : MS B ah al bh bl v v' n n' s c u d mn mx mn' mx' w3 W) : w3.heap.size ≤ W.heap.size ∧ Res (B + 1 + 1) W ∧ Below (B + 1 + 1) w3 W := by
  obtain ⟨a0, a1, a2, a3, a4, a5, a6, b0, b1, b2, b3, b4, b5, b6, hb⟩ := h
  exact hb
theorem cell_kept {W W' : World} {a : Addr} {u : Value} (hb : Below W.heap.size W W') (h : W.cell? a = some u) : W'.cell? a = some u := (hb.cell (p := a) (lt_of_cell h)).trans h
theorem fr_kept {W W' : World} {a : Addr} {u : Value} (hb : Below W.heap.size W W') (h : W.cell? a = some u) (hf : W.frozen? a = false) : W'.frozen? a = false := (hb.frozen (p := a) (lt_of_cell h)).trans hf
theorem MS.kept {B : Nat} {ah al bh bl : Int} {v v' : Value} {n n' s c u d mn mx mn' mx' : Nat} {w3 W W' : World} (h : MS B ah al bh bl v v' n n' s c u d mn mx mn' mx' w3 W) (k : Below W.heap.size W W') : MS B ah al bh bl v v' n n' s c u d mn mx mn' mx' w3 W' := by
  obtain ⟨a0, a1, a2, a3, a4, a5, a6, b0, b1, b2, b3, b4, b5, b6, hs, hr, hb⟩ := h
  exact ⟨cell_kept k a0, cell_kept k a1, cell_kept k a2, cell_kept k a3, cell_kept k a4, cell_kept k a5, cell_kept k a6, cell_kept k b0, cell_kept k b1, cell_kept k b2, cell_kept k b3, cell_kept k b4, cell_kept k b5, cell_kept k b6, Nat.le_trans hs k.size, hr.below k hr.lt, hb.trans (k.mono (Nat.le_of_lt hr.lt))⟩
theorem MS.drew {B : Nat} {ah al bh bl : Int} {v v' : Value} {n n' s c u d mn mx mn' mx' : Nat} {w3 W : World} (h : MS B ah al bh bl v v' n n' s c u d mn mx mn' mx' w3 W) : MS B ah al bh bl v v' n n' s c u d mn mx mn' mx' w3 W.drew := h.kept (Below.refl _ _).drew
/-- One block is written over; nothing else turns. -/
structure Put (b : Nat) (cs : Array Value) (t : TypeId) (W W' : World) : Prop where
  os : W'.os = W.os
  tape : W'.tape = W.tape
  output : W'.output = W.output
  size : W'.heap.size = W.heap.size
  here : W'.heap[b]? = some (.cells cs t (0, 0))
  there : ∀ k, k ≠ b → W'.heap[k]? = W.heap[k]?
theorem put_row {W : World} {b : Nat} {old : Array Value} {t : TypeId} (h : W.heap[b]? = some (.cells old t (0, 0))) (cs : Array Value) : Put b cs t W (W.setRow b cs) :=
  ⟨rfl, rfl, rfl, by simp, setRow_heap W b old cs t _ h, fun k hk => setRow_other W b k cs hk⟩
theorem infoP : (Tryz.prog.info? 60).map (·.size) = some 7 := by kernel_rfl
/-- A part is stored, at a step of a region that draws. -/
theorem step_store7 {W : World} {ops : Array Oper} {o : Oper} {a : Act} {K : Act → World → Prop} {Q : Exit → Act → World → Prop} {E : Prop} (hgd : o.guard = none) (x y : Operand) (ho : o.op = .store 60 x y) {b : Nat} {hi lo n : Int} {ao : Option Addr} {m cap s c mn mx : Nat}
    (hx : a.eval x = .pointer (some ⟨b, 0, none⟩)) (hy : a.eval y = part hi lo (.slice ao m cap) n s c mn mx) (hr : Res b W)
    (hh : ∀ W', Hid (Put b #[.int .i64 hi, .int .u64 lo, .slice ao m cap, .int .u64 n, .complex .f64 s c, .float .f64 mn, .float .f64 mx] 60 W W') → K (a.put o.dst undef) W') :
    if Region.wanted o (yielded ops a.tmps) = true then Oper.wp Tryz.prog o a W K Q else E := by
  have hw : Region.wanted o (yielded ops a.tmps) = true := by simp [Region.wanted, hgd]
  rw [if_pos hw]
  obtain ⟨r0, r1, r2, r3, r4, r5, r6, h⟩ := hr
  exact wp_store_row 60 x y ho b _ hx hy _ _ h infoP rfl (by simp [Value.oneCell']) (hh _ (put_row h _))
theorem Put.cell {b : Nat} {cs : Array Value} {t : TypeId} {W W' : World} (h : Put b cs t W W') {a : Addr} {u : Value} (hc : W.cell? a = some u) (ha : a.block ≠ b) : W'.cell? a = some u := (World.cell?_of_block (h.there a.block ha)).trans hc
theorem Put.below {b B : Nat} {cs : Array Value} {t : TypeId} {W0 W W' : World} (h : Put b cs t W W') (hb : Below B W0 W) (hB : B ≤ b) : Below B W0 W' :=
  ⟨h.os.trans hb.os, h.tape.trans hb.tape, h.output.trans hb.output, by rw [h.size]; exact hb.size, fun k hk => (h.there k (by omega)).trans (hb.block k hk)⟩
theorem MS.put {B : Nat} {ah al bh bl : Int} {v v' : Value} {n n' s c u d mn mx mn' mx' : Nat} {w3 W W' : World} (h : MS B ah al bh bl v v' n n' s c u d mn mx mn' mx' w3 W) {v0 v1 v2 v3 v4 v5 v6 : Value} (hp : Hid (Put (B + 1 + 1) #[v0, v1, v2, v3, v4, v5, v6] 60 W W')) : MS B ah al bh bl v v' n n' s c u d mn mx mn' mx' w3 W' := by
  obtain ⟨a0, a1, a2, a3, a4, a5, a6, b0, b1, b2, b3, b4, b5, b6, hs, hr, hb⟩ := h
  have e0 : B ≠ B + 1 + 1 := by omega
  have e1 : B + 1 ≠ B + 1 + 1 := by omega
  have h := hp.out
  exact ⟨h.cell a0 e0, h.cell a1 e0, h.cell a2 e0, h.cell a3 e0, h.cell a4 e0, h.cell a5 e0, h.cell a6 e0, h.cell b0 e1, h.cell b1 e1, h.cell b2 e1, h.cell b3 e1, h.cell b4 e1, h.cell b5 e1, h.cell b6 e1, by rw [h.size]; exact hs, ⟨_, _, _, _, _, _, _, h.here⟩, h.below hb (Nat.le_refl _)⟩
theorem mid_put7 (W : World) (k : Nat) (v0 v1 v2 v3 v4 v5 v6 : Value) : Mid k (k + 1) W (put7 W k v0 v1 v2 v3 v4 v5 v6) := by
  have hk : (k ≤ k ∧ k < k + 1) ∨ W.heap.size ≤ k := Or.inl ⟨Nat.le_refl _, Nat.lt_succ_self _⟩
  unfold put7
  exact ((((((((Mid.refl k (k + 1) W)).setCell (p := ⟨k, 0, none⟩) hk _).setCell (p := ⟨k, 1, none⟩) hk _).setCell (p := ⟨k, 2, none⟩) hk _).setCell (p := ⟨k, 3, none⟩) hk _).setCell (p := ⟨k, 4, none⟩) hk _).setCell (p := ⟨k, 5, none⟩) hk _).setCell (p := ⟨k, 6, none⟩) hk _
theorem put7_put {W : World} {k : Nat} {r0 r1 r2 r3 r4 r5 r6 : Value} (h : Hid (W.heap[k]? = some (.cells #[r0, r1, r2, r3, r4, r5, r6] 60 (0, 0)))) (v0 v1 v2 v3 v4 v5 v6 : Value) : Put k #[v0, v1, v2, v3, v4, v5, v6] 60 W (put7 W k v0 v1 v2 v3 v4 v5 v6) :=
  ⟨(mid_put7 _ _ _ _ _ _ _ _ _).os, (mid_put7 _ _ _ _ _ _ _ _ _).tape, (mid_put7 _ _ _ _ _ _ _ _ _).output, put7_size _ _ _ _ _ _ _ _ _, set_seven h, fun j hj => put7_other W k j _ _ _ _ _ _ _ hj⟩
theorem MS.chain {B : Nat} {ah al bh bl : Int} {v v' : Value} {n n' s c u d mn mx mn' mx' : Nat} {w3 W : World} (h : MS B ah al bh bl v v' n n' s c u d mn mx mn' mx' w3 W) {r0 r1 r2 r3 r4 r5 r6 : Value} (hr : Hid (W.heap[B + 1 + 1]? = some (.cells #[r0, r1, r2, r3, r4, r5, r6] 60 (0, 0)))) (u0 u1 u2 u3 u4 u5 u6 : Value) : MS B ah al bh bl v v' n n' s c u d mn mx mn' mx' w3 (((((((W.setCell ⟨B + 1 + 1, 0, none⟩ u0).setCell ⟨B + 1 + 1, 1, none⟩ u1).setCell ⟨B + 1 + 1, 2, none⟩ u2).setCell ⟨B + 1 + 1, 3, none⟩ u3).setCell ⟨B + 1 + 1, 4, none⟩ u4).setCell ⟨B + 1 + 1, 5, none⟩ u5).setCell ⟨B + 1 + 1, 6, none⟩ u6) :=
  MS.put (W' := put7 W (B + 1 + 1) u0 u1 u2 u3 u4 u5 u6) h (put7_put hr u0 u1 u2 u3 u4 u5 u6)
theorem own_keep {B n : Nat} {w w' : World} {v : Value} {xs : List Value} (h : w.ownsRow B 149 2 v n xs) (hb : Below w.heap.size w w') : w'.ownsRow B 149 2 v n xs := by
  refine ⟨h.1, ?_⟩
  rcases h.2 with k | ⟨g, cap, cur, hv, hB, hh, hrest⟩
  · exact Or.inl k
  · exact Or.inr ⟨g, cap, cur, hv, hB, (hb.block g (Array.getElem?_eq_some_iff.1 hh).1).trans hh, hrest⟩
theorem own_le {B B' n : Nat} {w : World} {v : Value} {xs : List Value} (h : w.ownsRow B 149 2 v n xs) (hb : B' ≤ B) : w.ownsRow B' 149 2 v n xs := by
  refine ⟨h.1, ?_⟩
  rcases h.2 with k | ⟨g, cap, cur, hv, hB, hrest⟩
  · exact Or.inl k
  · exact Or.inr ⟨g, cap, cur, hv, by omega, hrest⟩
theorem own_mid {n0 B0 B n : Nat} {w w' : World} {v : Value} {xs : List Value} (h : w.ownsRow B 149 2 v n xs) (hm : Mid n0 B0 w w') (hB : B0 ≤ B) : w'.ownsRow B 149 2 v n xs := by
  refine ⟨h.1, ?_⟩
  rcases h.2 with k | ⟨g, cap, cur, hv, hg, hh, hrest⟩
  · exact Or.inl k
  · exact Or.inr ⟨g, cap, cur, hv, hg, (hm.block g (Array.getElem?_eq_some_iff.1 hh).1 (by omega)).trans hh, hrest⟩
theorem hid_of {p : Prop} (h : p) : Hid p := h
theorem new3_0 (w : World) (o1 o2 o3 : Obj) : (((w.alloc o1).alloc o2).alloc o3).heap[w.heap.size]? = some o1 := by
  show (((w.heap.push o1).push o2).push o3)[w.heap.size]? = some o1
  simp [Array.getElem?_push]
  omega
theorem new3_1 (w : World) (o1 o2 o3 : Obj) : (((w.alloc o1).alloc o2).alloc o3).heap[w.heap.size + 1]? = some o2 := by
  show (((w.heap.push o1).push o2).push o3)[w.heap.size + 1]? = some o2
  rw [Array.getElem?_push, if_neg (by simp), show w.heap.size + 1 = (w.heap.push o1).size from by simp, Array.getElem?_push_size]
theorem new3_2 (w : World) (o1 o2 o3 : Obj) : (((w.alloc o1).alloc o2).alloc o3).heap[w.heap.size + 1 + 1]? = some o3 := by
  show (((w.heap.push o1).push o2).push o3)[w.heap.size + 1 + 1]? = some o3
  rw [show w.heap.size + 1 + 1 = ((w.heap.push o1).push o2).size from by simp, Array.getElem?_push_size]
/-- What Merge tells. -/
def MdQ (W : World) (T1 T0 : Int) (N E0 E1 s c u d : Nat) (L : List Cn) (e : Ending) (w' : World) : Prop :=
  ∃ v'' O r q, e = .returned (part T1 T0 v'' N r q E0 E1) ∧ IsMerge O L ∧ GC W.heap.size W v'' O w' ∧ r < 18446744073709551616 ∧ q < 18446744073709551616 ∧ Soft.one r = Soft.fa s u ∧ Soft.one q = Soft.fa (Soft.fa c d) (Soft.fl s u)
abbrev MdP (W : World) (ah al bh bl : Int) (n n' s c u d mn mx mn' mx' : Nat) (L : List Cn) (e : Ending) (w' : World) : Prop :=
  MdQ W (hiOf (rnd (val ah al + val bh bl))) (loOf (rnd (val ah al + val bh bl))) ((n + n') % 18446744073709551616) (endF n n' mn mn' (-1)) (endF n n' mx mx' 1) s c u d L e w'
set_option maxRecDepth 10000 in
set_option maxHeartbeats 4000000 in
theorem cpmerge_any (ah al bh bl : Int) (v v' : Value) (n n' s c u d mn mx mn' mx' : Nat) (A C : List Cn) (w : World) (wa : Wf ah al) (wb : Wf bh bl) (hA : SN w v A) (hC : SN w v' C) (hW : Wc (A ++ C)) (hlA : A.length ≤ 1048576) (hlC : C.length ≤ 1048576)
    (hs : s < 18446744073709551616) (hc : c < 18446744073709551616) (hu : u < 18446744073709551616) (hd : d < 18446744073709551616) (h1 : mn < 18446744073709551616) (h2 : mx < 18446744073709551616) (h3 : mn' < 18446744073709551616) (h4 : mx' < 18446744073709551616) :
    Calls Tryz.prog 38 #[part ah al v n s c mn mx, part bh bl v' n' u d mn' mx'] w fun e w' => MdP w ah al bh bl n n' s c u d mn mx mn' mx' (A ++ C) e w' := by
  obtain ⟨w3, hw3⟩ : ∃ w3, ((w.alloc (.cells #[.int .i64 ah, .int .u64 al, v, .int .u64 (n : Int), .complex .f64 s c, .float .f64 mn, .float .f64 mx] 60)).alloc (.cells #[.int .i64 bh, .int .u64 bl, v', .int .u64 (n' : Int), .complex .f64 u d, .float .f64 mn', .float .f64 mx'] 60)).alloc (.cells #[.int .i64 0, .int .u64 0, .slice none 0 0, .int .u64 0, .complex .f64 0 0, .float .f64 0, .float .f64 0] 60) = w3 := ⟨_, rfl⟩
  have hb3 : Below w.heap.size w w3 := by rw [← hw3]; exact bel3 _ _ _ _
  have g0 : w3.heap[w.heap.size]? = some (.cells #[.int .i64 ah, .int .u64 al, v, .int .u64 (n : Int), .complex .f64 s c, .float .f64 mn, .float .f64 mx] 60 (0, 0)) := by rw [← hw3]; exact new3_0 _ _ _ _
  have g1 : w3.heap[w.heap.size + 1]? = some (.cells #[.int .i64 bh, .int .u64 bl, v', .int .u64 (n' : Int), .complex .f64 u d, .float .f64 mn', .float .f64 mx'] 60 (0, 0)) := by rw [← hw3]; exact new3_1 _ _ _ _
  have g2 : w3.heap[w.heap.size + 1 + 1]? = some (.cells #[.int .i64 0, .int .u64 0, .slice none 0 0, .int .u64 0, .complex .f64 0 0, .float .f64 0, .float .f64 0] 60 (0, 0)) := by rw [← hw3]; exact new3_2 _ _ _ _
  have hms : MS w.heap.size ah al bh bl v v' n n' s c u d mn mx mn' mx' w3 w3 := ms_of g0 g1 (Nat.le_refl _) ⟨_, _, _, _, _, _, _, g2⟩ (Below.refl _ _)
  have HMS : Hid (MS w.heap.size ah al bh bl v v' n n' s c u d mn mx mn' mx' w3 w3) := hms
  have HG : Hid (w3.heap[w.heap.size + 1 + 1]? = some (.cells #[.int .i64 0, .int .u64 0, .slice none 0 0, .int .u64 0, .complex .f64 0 0, .float .f64 0, .float .f64 0] 60 (0, 0))) := g2
  have HMC : Hid (∀ W, MS w.heap.size ah al bh bl v v' n n' s c u d mn mx mn' mx' w3 W → Calls Tryz.prog 61 #[v, v'] W fun e w' => ∃ ao k cap O, e = .returned (.slice ao k cap) ∧ Hid (IsMerge O (A ++ C)) ∧ Hid (GC W.heap.size W (.slice ao k cap) O w' ∧ w3.heap.size ≤ W.heap.size) ∧ Below W.heap.size W w') := fun W hW' => (cmerge_any W v v' A C (hA.below (hb3.trans (hW'.b.2.2.mono (by omega)))) (hC.below (hb3.trans (hW'.b.2.2.mono (by omega)))) hW hlA hlC).mono fun e w' ⟨v'', O, e1, e2, e3⟩ => by
    obtain ⟨ao, k, cap, rfl⟩ := gc_form e3
    exact ⟨ao, k, cap, O, e1, e2, ⟨e3, hW'.b.1⟩, e3.below⟩
  have HAD : Hid (∀ W, Calls Tryz.prog 60 #[.agg #[.int .i64 ah, .int .u64 al], .agg #[.int .i64 bh, .int .u64 bl]] W fun e w' => e = .returned (.agg #[.int .i64 (hiOf (rnd (val ah al + val bh bl))), .int .u64 (loOf (rnd (val ah al + val bh bl)))]) ∧ Below W.heap.size W w') := fun W => add_any ah al bh bl wa wb W
  have HPM : Hid (∀ W, Calls Tryz.prog 62 #[.complex .f64 s c, .complex .f64 u d] W fun e w' => ∃ r q, e = .returned (.complex .f64 r q) ∧ Below W.heap.size W w' ∧ Hid (r < 18446744073709551616 ∧ q < 18446744073709551616 ∧ Soft.one r = Soft.fa s u ∧ Soft.one q = Soft.fa (Soft.fa c d) (Soft.fl s u))) := fun W => (Pr.pmerge_any s c u d hs hc hu hd W).mono fun e w' ⟨r, q, k, e1, e2, e3, e4, e5, e6⟩ => ⟨r, q, e1, by rw [e2]; exact below_drew W k, e3, e4, e5, e6⟩
  have HE0 : Hid (∀ W, Calls Tryz.prog 63 #[part ah al v n s c mn mx, part bh bl v' n' u d mn' mx', .float .f64 mn, .float .f64 mn', .int .i64 (-1)] W fun e w' => e = .returned (.float .f64 (endF n n' mn mn' (-1))) ∧ Below W.heap.size W w') := fun W => end_any ah al bh bl v v' n n' s c u d mn mx mn' mx' mn mn' (-1) h1 h3 W
  have HE1 : Hid (∀ W, Calls Tryz.prog 63 #[part ah al v n s c mn mx, part bh bl v' n' u d mn' mx', .float .f64 mx, .float .f64 mx', .int .i64 1] W fun e w' => e = .returned (.float .f64 (endF n n' mx mx' 1)) ∧ Below W.heap.size W w') := fun W => end_any ah al bh bl v v' n n' s c u d mn mx mn' mx' mx mx' 1 h2 h4 W
  have HN : Hid (IntKind.u64.wrap ((n : Int) + (n' : Int)) = (((n + n') % 18446744073709551616 : Nat) : Int)) := by unfold Hid; rw [IntKind.wrap_u64]; omega
  have HB3 : Hid (Below w.heap.size w w3) := hb3
  have hi3 : w.heap.size + 1 + 1 < w3.heap.size := (Array.getElem?_eq_some_iff.1 g2).1
  clear g0 g1 g2 hA hC hms hb3 hW
  unfold MdP
  generalize endF n n' mn mn' (-1) = E0 at *
  generalize endF n n' mx mx' 1 = E1 at *
  generalize hiOf (rnd (val ah al + val bh bl)) = T1 at *
  generalize loOf (rnd (val ah al + val bh bl)) = T0 at *
  have sF := store_f
  have sC := store_c
  go_enter Tryz.func38, Tryz.ntmps38
  go_upto_region 1 with fail
  clear hw3
  generalize hB : w.heap.size = B at *
  have HBB : Hid (w.heap.size = B) := hB
  clear hB
  go_region_held3 (fun W => MS B ah al bh bl v v' n n' s c u d mn mx mn' mx' w3 W)
    (first | with_reducible assumption | with_reducible exact MS.chain hk8 HR8 _ _ _ _ _ _ _ | with_reducible exact HMS.out | with_reducible exact MS.drew HMS.out | with_reducible exact MS.drew (by assumption))
    (first
      | (go_at_call 60; with_reducible refine Calls.mono (HAD.out _) ?_; rintro e w4 ⟨rfl, hb4⟩; have hk4 := MS.kept (by assumption) hb4)
      | (go_at_call 61; with_reducible refine Calls.mono (HMC.out _ (by assumption)) ?_; rintro e w5 ⟨ao, k, cap, O, rfl, HI, HGC, hb5⟩; have hk5 := MS.kept (by assumption) hb5)
      | (go_at_call 62; with_reducible refine Calls.mono (HPM.out _) ?_; rintro e w6 ⟨r, q, rfl, hb6, HP⟩; have hk6 := MS.kept (by assumption) hb6)
      | (go_at_call 63; with_reducible refine Calls.mono (HE0.out _) ?_; rintro e w7 ⟨rfl, hb7⟩; have hk7 := MS.kept (by assumption) hb7)
      | (go_at_call 63; with_reducible refine Calls.mono (HE1.out _) ?_; rintro e w8 ⟨rfl, hb8⟩; have hk8 := MS.kept (by assumption) hb8; obtain ⟨r0, r1, r2, r3, r4, r5, r6, HR8⟩ := Res.out (MS.b hk8).2.1; obtain ⟨c0, c1, c2, c3, c4, c5, c6⟩ := seven_cells HR8; obtain ⟨f0, f1, f2, f3, f4, f5, f6⟩ := seven_fr HR8))
  go_wp2_with fail
  have HE := MS.chain hk8 HR8 (.int .i64 T1) (.int .u64 T0) (.slice ao k cap) (.int .u64 (IntKind.u64.wrap ((n : Int) + (n' : Int)))) (.complex .f64 r q) (.float .f64 E0) (.float .f64 E1)
  rw [put7_eq] at HE ⊢
  have HS := set_seven (v0 := .int .i64 T1) (v1 := .int .u64 T0) (v2 := .slice ao k cap) (v3 := .int .u64 (IntKind.u64.wrap ((n : Int) + (n' : Int)))) (v4 := .complex .f64 r q) (v5 := .float .f64 E0) (v6 := .float .f64 E1) HR8.out
  obtain ⟨z0, z1, z2, z3, z4, z5, z6⟩ := seven_cells HS
  have HGF : Hid (GC w.heap.size w (.slice ao k cap) O (put7 w8 (B + 1 + 1) (.int .i64 T1) (.int .u64 T0) (.slice ao k cap) (.int .u64 (IntKind.u64.wrap ((n : Int) + (n' : Int)))) (.complex .f64 r q) (.float .f64 E0) (.float .f64 E1))) := by
    have hb := (MS.b HE).2.2
    have hB := HBB.out
    refine ⟨own_le (own_mid (own_keep (own_keep (own_keep HGC.out.1.own hb6) hb7) hb8) (mid_put7 _ _ _ _ _ _ _ _ _) (by have := HGC.out.2; omega)) (by have := HGC.out.2; omega), by rw [hB]; exact HB3.out.trans (hb.mono (by omega)), by have := (MS.b HE).1; omega⟩
  simp [bodyPost, results, Tryz.results38, go_sem, z0, z1, z2, z3, z4, z5, z6]
  exact ⟨_, O, r, q, by rw [HN.out], HI.out, HGF.out, HP.out⟩
end Go.Proofs.YtpllckgpolhafaaGreatDoor
