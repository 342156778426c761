/- PARTS OF ALL STRIPES: the code's and the document's come to the same. Own work of the verifier. -/
import Derived.Test.YtfnohbalkpponaaGreatDoorZBI
namespace Go.Proofs.YtfnohbalkpponaaGreatDoor
open Go.RowKit Soft

/-- What comes of two parts, by the document. -/
structure MrgD (P X P' : Pt) : Prop where
  hi : P'.hi = hiOf (rnd (val P.hi P.lo + val X.hi X.lo))
  lo : P'.lo = loOf (rnd (val P.hi P.lo + val X.hi X.lo))
  L : IsMerge P'.L (P.L ++ X.L)
  n : P'.n = (P.n + X.n) % 18446744073709551616
  s : P'.s = Soft.fa P.s X.s
  c : P'.c = Soft.fa (Soft.fa P.c X.c) (Soft.fl P.s X.s)
  mn : P'.mn = endK P.n X.n P.mn X.mn X.mn P.mn
  mx : P'.mx = endK P.n X.n P.mx X.mx P.mx X.mx
inductive FoldD (X : Nat → Pt) : Nat → Pt → Prop
  | nil : FoldD X 0 Pt.nil
  | next {i : Nat} {P P' : Pt} : FoldD X i P → MrgD P (X i) P' → FoldD X (i + 1) P'
/-- A part whose floats are no NaNs. -/
structure Pt.Num (K : Nat) (X : Pt) : Prop where
  n1 : Pr.isN X.mn = false
  n2 : Pr.isN X.mx = false
  acc : ∃ Y A, Acc (X.s, X.c) Y A K ∧ A ≤ K * UM
/-- What the cells of a stripe came to. -/
def ptS : List Int → Pt
  | [k, s, c, mn, mx] => if k = 0 then Pt.nil else ⟨0, 0, [], (uw k).toNat, (uw s).toNat, (uw c).toNat, (uw mn).toNat, (uw mx).toNat⟩
  | _ => Pt.nil
def ptW : List Int → Pt
  | lo :: hi :: cs => ⟨hi, uw lo, cL 0 cs, nS cs, 0, 0, 0, 0⟩
  | _ => Pt.nil
def ptF (kd : Int) (row : List Int) : Pt := if kd = 3 then ptS row else ptW row
theorem fw_nat {s : Nat} (h : s < 18446744073709551616) : (uw (fw64 s)).toNat = s := by
  have := fw64_u s h
  unfold uw
  rw [this]
  exact Int.toNat_natCast s
theorem ptS_row {k : Int} {s c mn mx : Nat} (hs : s < 18446744073709551616) (hc : c < 18446744073709551616) (h1 : mn < 18446744073709551616) (h2 : mx < 18446744073709551616) : ptS (sRow k s c mn mx) = if k = 0 then Pt.nil else ⟨0, 0, [], (uw k).toNat, s, c, mn, mx⟩ := by
  unfold sRow
  have a1 := fw_nat hs
  have a2 := fw_nat hc
  have a3 := fw_nat h1
  have a4 := fw_nat h2
  generalize fw64 s = x1 at *
  generalize fw64 c = x2 at *
  generalize fw64 mn = x3 at *
  generalize fw64 mx = x4 at *
  show (if k = 0 then Pt.nil else _) = _
  rw [a1, a2, a3, a4]
/-- A row of a kind as it may be: words; a summary's of no more than t floats. -/
def RowOk (kd : Int) (p t : Nat) (row : List Int) : Prop :=
  (kd = 1 ∧ row.length = 2 ∧ Ws row) ∨ (kd = 2 ∧ row.length = Lg (p : Int) + 2 ∧ Ws row) ∨ (kd = 3 ∧ ∃ k s c mn mx : Nat, k ≤ t ∧ row = sRow (k : Int) s c mn mx ∧ SumOk k s c mn mx)
/-- How wide a row of a kind is. -/
def wdF (kd : Int) (p : Nat) : Nat := if kd = 1 then 2 else if kd = 2 then Lg (p : Int) + 2 else 5
theorem RowOk.len {kd : Int} {p t : Nat} {row : List Int} (h : RowOk kd p t row) : row.length = wdF kd p := by
  unfold wdF
  rcases h with ⟨rfl, h, _⟩ | ⟨rfl, h, _⟩ | ⟨rfl, k, s, c, mn, mx, _, rfl, _⟩
  · rw [if_pos rfl]; exact h
  · rw [if_neg (by decide), if_pos rfl]; exact h
  · rw [if_neg (by decide), if_neg (by decide)]; exact sRow_l _ _ _ _ _
theorem RowOk.mono {kd : Int} {p t t' : Nat} {row : List Int} (h : RowOk kd p t row) (ht : t ≤ t') : RowOk kd p t' row := by
  rcases h with h | h | ⟨rfl, k, s, c, mn, mx, hk, h⟩
  · exact Or.inl h
  · exact Or.inr (Or.inl h)
  · exact Or.inr (Or.inr ⟨rfl, k, s, c, mn, mx, by omega, h⟩)
theorem ws_rep (n : Nat) : Ws (List.replicate n 0) := fun x hx => by rw [(List.mem_replicate.1 hx).2]; constructor <;> decide
theorem RowOk.first {kd : Int} {p : Nat} (hk : kd = 1 ∨ kd = 2 ∨ kd = 3) (t : Nat) : RowOk kd p t (frst kd (p : Int)) := by
  unfold frst
  rcases hk with rfl | rfl | rfl
  · rw [if_pos rfl]
    exact Or.inl ⟨rfl, rfl, fun x hx => by
      have : x = 0 := by simpa using hx
      rw [this]; constructor <;> decide⟩
  · rw [if_neg (by decide), if_pos rfl]
    exact Or.inr (Or.inl ⟨rfl, by simp, ws_rep _⟩)
  · rw [if_neg (by decide), if_neg (by decide)]
    exact Or.inr (Or.inr ⟨rfl, 0, 0, 0, 9218868437227405312, 18442240474082181120, Nat.zero_le _, rfl, SumOk.zero⟩)
theorem Lg_le14 {p : Nat} (_h1 : 1 ≤ p) (_h2 : p ≤ 14) : Lg (p : Int) ≤ 1048576 := Lg_le _
theorem two_list {row : List Int} (h : 2 ≤ row.length) : ∃ lo hi cs, row = lo :: hi :: cs := by
  rcases row with _ | ⟨a, _ | ⟨b, r⟩⟩
  · simp at h
  · simp at h
  · exact ⟨a, b, r, rfl⟩
theorem ptW_ok {M : Nat} {lo hi : Int} {cs : List Int} (hw : Ws (lo :: hi :: cs)) (hM : cs.length ≤ M) : (ptW (lo :: hi :: cs)).Ok M := by
  have h1 := hw lo (by simp)
  have h2 := hw hi (by simp)
  refine ⟨⟨h2.1, Int.le_of_lt_add_one h2.2, ?_, ?_⟩, cL_rise cs 0, fun c hc => ?_, nS_lt cs, by show 0 < _; decide, by show 0 < _; decide, by show 0 < _; decide, by show 0 < _; decide⟩
  · show 0 ≤ uw lo
    rw [uw_eq]; omega
  · show uw lo < _
    rw [uw_eq]; omega
  · have := cL_in cs 0 c hc
    exact ⟨by omega, by omega, this.2.2.1⟩
theorem RowOk.ok {kd : Int} {p t : Nat} {row : List Int} (h : RowOk kd p t row) (h1 : 1 ≤ p) (h2 : p ≤ 14) (ht : t < 70368744177664) : (ptF kd row).Ok 1048576 ∧ ∃ K, K ≤ t ∧ (ptF kd row).Num K := by
  unfold ptF
  have hz : ∃ Y A, Acc ((0 : Nat), (0 : Nat)) Y A 0 ∧ A ≤ 0 * UM := ⟨0, 0, acc_zero, Nat.zero_le _⟩
  rcases h with ⟨rfl, hl, hw⟩ | ⟨rfl, hl, hw⟩ | ⟨rfl, k, s, c, mn, mx, hk, rfl, hS⟩
  · rw [if_neg (by decide)]
    obtain ⟨lo, hi, cs, rfl⟩ := two_list (row := row) (by omega)
    simp at hl
    exact ⟨ptW_ok hw (by simp [hl]), 0, Nat.zero_le _, by show Pr.isN 0 = false; decide, by show Pr.isN 0 = false; decide, hz⟩
  · rw [if_neg (by decide)]
    obtain ⟨lo, hi, cs, rfl⟩ := two_list (row := row) (by omega)
    have := Lg_le14 h1 h2
    simp at hl
    exact ⟨ptW_ok hw (by omega), 0, Nat.zero_le _, by show Pr.isN 0 = false; decide, by show Pr.isN 0 = false; decide, hz⟩
  · rw [if_pos rfl, ptS_row hS.hs hS.hc hS.hmn hS.hmx]
    by_cases h0 : (k : Int) = 0
    · rw [if_pos h0]
      exact ⟨Pt.nil_ok _, 0, Nat.zero_le _, by decide, by decide, hz⟩
    · rw [if_neg h0]
      have hn : (uw (k : Int)).toNat = k := by rw [uw_eq]; omega
      rw [hn]
      exact ⟨⟨wf_zero, List.Pairwise.nil, (fun c hc => by cases hc), by show k < _; omega, hS.hs, hS.hc, hS.hmn, hS.hmx⟩, k, hk, hS.n1, hS.n2, hS.acc⟩
end Go.Proofs.YtfnohbalkpponaaGreatDoor
/- PARTS: what the cells of a stripe held: counters, histograms. Own work of the verifier. -/
namespace Go.Proofs.YtfnohbalkpponaaGreatDoor
open Go.RowKit

/-- Where the walk over a row's counts stands. -/
structure PdJ (k : Nat) (hi lo : Int) (cs : List Int) (w : World) (i : Nat) (wr : World) : Prop where
  bel : Below w.heap.size w wr
  res : wr.heap[w.heap.size]? = some (.cells #[.int .i64 0, .int .u64 0, .slice none 0 0, .int .u64 0, .int .u64 0, .int .u64 0, .int .u64 0, .int .u64 0] 266 (0, 0))
  prt : ∃ ao n cap, wr.heap[k]? = some (.cells #[.int .i64 hi, .int .u64 lo, .slice ao n cap, .int .u64 (nS (cs.take i) : Nat), .int .u64 0, .int .u64 0, .int .u64 0, .int .u64 0] 266 (0, 0)) ∧ wr.ownsRow w.heap.size 160 2 (.slice ao n cap) (cL 0 (cs.take i)).length (fl (cL 0 (cs.take i)))
theorem PdJ.drew {k : Nat} {hi lo : Int} {cs : List Int} {w : World} {i : Nat} {wr : World} (h : PdJ k hi lo cs w i wr) : PdJ k hi lo cs w i wr.drew := by
  obtain ⟨ao, n, cap, h1, h2⟩ := h.prt
  exact ⟨h.bel.drew, h.res, ao, n, cap, h1, h2.drew⟩
theorem PdJ.skip {k : Nat} {hi lo : Int} {cs : List Int} {w : World} {i : Nat} {wr : World} (h : PdJ k hi lo cs w i wr) (hi' : i < cs.length) (h0 : cs[i] = 0) : PdJ k hi lo cs w (i + 1) wr := by
  have e1 : cL 0 (cs.take (i + 1)) = cL 0 (cs.take i) := by rw [take_snoc hi', cL_snoc, if_pos h0, List.append_nil]
  have e2 : nS (cs.take (i + 1)) = nS (cs.take i) := by
    have := nS_lt (cs.take i)
    rw [take_snoc hi', nS_snoc, h0, show (uw 0).toNat = 0 by decide, Nat.add_zero, Nat.mod_eq_of_lt this]
  obtain ⟨ao, n, cap, h1, h2⟩ := h.prt
  exact ⟨h.bel, h.res, ao, n, cap, by rw [e2]; exact h1, by rw [e1]; exact h2⟩
/-- One count more. -/
theorem PdJ.grow {k : Nat} {hi lo N : Int} {cs : List Int} {w : World} {i : Nat} {wr w' : World} {ao : Option Addr} {n cap m : Nat} {xs : List Value} {g' n' cap' : Nat} (h : PdJ k hi lo cs w i wr) (hk : w.heap.size < k)
    (h1 : wr.heap[k]? = some (.cells #[.int .i64 hi, .int .u64 lo, .slice ao n cap, .int .u64 N, .int .u64 0, .int .u64 0, .int .u64 0, .int .u64 0] 266 (0, 0))) (h2 : wr.ownsRow w.heap.size 160 2 (.slice ao n cap) m xs) (o : Obj)
    (hown : w'.ownsRow w.heap.size 160 2 (.slice (some ⟨g', 0, none⟩) n' cap') (cL 0 (cs.take (i + 1))).length (fl (cL 0 (cs.take (i + 1))))) (hgr : (wr.alloc o).grownBy w' (Value.slice ao n cap).ownBlock) :
    w'.heap[k]? = some (.cells #[.int .i64 hi, .int .u64 lo, .slice ao n cap, .int .u64 N, .int .u64 0, .int .u64 0, .int .u64 0, .int .u64 0] 266 (0, 0)) ∧ (∀ x, x < w.heap.size → w'.heap[x]? = w.heap[x]?) ∧
    PdJ k hi lo cs w (i + 1) ((w'.setCell ⟨k, 2, none⟩ (.slice (some ⟨g', 0, none⟩) n' cap')).setCell ⟨k, 3, none⟩ (.int .u64 (nS (cs.take (i + 1)) : Nat))) := by
  have hs := h.bel.size
  have hkl := (Array.getElem?_eq_some_iff.1 h1).1
  have nk : some k ≠ (Value.slice ao n cap).ownBlock := fun e => own_nty h2 h1 (by decide) e.symm
  have nr : some w.heap.size ≠ (Value.slice ao n cap).ownBlock := fun e => own_nty h2 h.res (by decide) e.symm
  have hb : ∀ x, x < w.heap.size → w'.heap[x]? = w.heap[x]? := fun x hx => by
    rw [hgr.block x (by simp; omega) (fun e => by have := h2.lt x e.symm; omega), (bel1 wr o).block x (by omega)]
    exact h.bel.block x hx
  have hk' : w'.heap[k]? = _ := (hgr.block k (by simp; omega) nk).trans (((bel1 wr o).block k hkl).trans h1)
  have hr' : w'.heap[w.heap.size]? = _ := (hgr.block w.heap.size (by simp; omega) nr).trans (((bel1 wr o).block w.heap.size (by omega)).trans h.res)
  have hsz : wr.heap.size + 1 ≤ w'.heap.size := by have := hgr.size; simpa using this
  refine ⟨hk', hb, ⟨?_, ?_, some ⟨g', 0, none⟩, n', cap', ?_, ?_⟩⟩
  · refine ⟨hgr.os.trans h.bel.os, hgr.tape.trans h.bel.tape, hgr.output.trans h.bel.output, ?_, fun x hx => ?_⟩
    · rw [World.size_setCell, World.size_setCell]; omega
    · rw [heap_setCell_other _ _ _ _ (by show x ≠ k; omega), heap_setCell_other _ _ _ _ (by show x ≠ k; omega)]
      exact hb x hx
  · rw [heap_setCell_other _ _ _ _ (by show w.heap.size ≠ k; omega), heap_setCell_other _ _ _ _ (by show w.heap.size ≠ k; omega)]
    exact hr'
  · rw [heap_setCell_same _ k 3 _ _ _ (heap_setCell_same _ k 2 _ _ _ hk')]
    rfl
  · exact own_mid_ne (own_mid_ne hown (mid_set k 2 _) (own_nty hown hk' (by decide))) (mid_set k 3 _) (own_nty hown hk' (by decide))
theorem RowD.at {w : World} {g : Nat} {xs : List Int} (h : RowD w g xs) (i : Nat) (hi : i < xs.length) : w.cell? ⟨g, i, none⟩ = some (.int .i64 xs[i]) := h.cell i _ (by simp [hi])
theorem RowD.heap {w w' : World} {g : Nat} {xs : List Int} (h : RowD w g xs) (e : w'.heap[g]? = w.heap[g]?) : RowD w' g xs := by unfold RowD at *; rw [e]; exact h
end Go.Proofs.YtfnohbalkpponaaGreatDoor
/- THE DOCUMENT's DRAIN of a buffer: its parts. Own work of the verifier. -/
namespace Go.Proofs.YtfnohbalkpponaaGreatDoor
open Go.RowKit

theorem Chg.row {S : Nat → Prop} {W W' : World} {B : Nat} {e : TypeId} {s n : Nat} {v : Value} {xs : List Value} (k : Chg S W W') (h : W.ownsRow B e s v n xs) (hS : ∀ x, v.ownBlock = some x → ¬ S x) : W'.ownsRow B e s v n xs := by
  refine ⟨h.1, ?_⟩
  rcases h.2 with hn | ⟨g, cap, cur, rfl, hb, hgg, rest⟩
  · exact .inl hn
  · exact .inr ⟨g, cap, cur, rfl, hb, (k.block g (Array.getElem?_eq_some_iff.1 hgg).1 (hS g rfl)).trans hgg, rest⟩
theorem MrgD.ok {M : Nat} {P X P' : Pt} (h : MrgD P X P') (hP : P.Ok M) (hX : X.Ok M) : P'.Ok M := by
  have e : ∀ {n n' x y p q : Nat}, x < 18446744073709551616 → y < 18446744073709551616 → endK n n' x y p q < 18446744073709551616 := fun hx hy => by
    unfold endK
    repeat' split
    all_goals assumption
  exact ⟨by rw [h.hi, h.lo]; exact wf_rnd _, h.L.rise, fun c hc => by
    obtain ⟨d, hd, e⟩ := merge_mem h.L hc
    rcases List.mem_append.1 hd with q | q
    · have := hP.ix d q; exact ⟨by omega, by omega, (h.L.nz c hc).2⟩
    · have := hX.ix d q; exact ⟨by omega, by omega, (h.L.nz c hc).2⟩, by rw [h.n]; omega, by rw [h.s]; exact Soft.fa_lt _ _, by rw [h.c]; exact Soft.fa_lt _ _, by rw [h.mn]; exact e hP.h1 hX.h1, by rw [h.mx]; exact e hP.h2 hX.h2⟩
theorem FoldD.ok {M : Nat} {X : Nat → Pt} {i : Nat} {P : Pt} (h : FoldD X i P) (hX : ∀ j, j < i → (X j).Ok M) : P.Ok M := by
  induction h with
  | nil => exact Pt.nil_ok M
  | next _ hm ih => exact hm.ok (ih (fun j hj => hX j (by omega))) (hX _ (Nat.lt_succ_self _))
/-- A header: the rows of a buffer. -/
def HdD (w : World) (hb wd : Nat) (G : List Nat) : Prop := ∃ rest : List Value, w.heap[hb]? = some (.cells (G.map (slc wd) ++ rest).toArray 107 (0, 0))
theorem HdD.cell {w : World} {hb wd : Nat} {G : List Nat} (h : HdD w hb wd G) (i : Nat) (hi : i < G.length) : w.cell? ⟨hb, i, none⟩ = some (slc wd G[i]) := by
  obtain ⟨rest, h⟩ := h
  have e : (G.map (slc wd) ++ rest)[i]? = some (slc wd G[i]) := by rw [List.getElem?_append_left (by simpa using hi)]; simp [hi]
  simp [World.cell?, h, e]
theorem HdD.fr {w : World} {hb wd : Nat} {G : List Nat} (h : HdD w hb wd G) (i : Nat) : w.frozen? ⟨hb, i, none⟩ = false := by
  obtain ⟨rest, h⟩ := h
  simp [World.frozen?, h]
theorem HdD.set {w : World} {hb wd : Nat} {G : List Nat} (h : HdD w hb wd G) (i g : Nat) (hi : i < G.length) : HdD (w.setCell ⟨hb, i, none⟩ (slc wd g)) hb wd (G.set i g) := by
  obtain ⟨rest, h⟩ := h
  refine ⟨rest, ?_⟩
  rw [heap_setCell_same w hb i _ _ _ h]
  congr 2
  apply Array.ext'
  simp [List.map_set, hi]
theorem HdD.lt {w : World} {hb wd : Nat} {G : List Nat} (h : HdD w hb wd G) : hb < w.heap.size := by
  obtain ⟨rest, h⟩ := h
  exact (Array.getElem?_eq_some_iff.1 h).1
theorem HdD.heap {w w' : World} {hb wd : Nat} {G : List Nat} (h : HdD w hb wd G) (e : w'.heap[hb]? = w.heap[hb]?) : HdD w' hb wd G := by
  obtain ⟨rest, h⟩ := h
  exact ⟨rest, e.trans h⟩
end Go.Proofs.YtfnohbalkpponaaGreatDoor
