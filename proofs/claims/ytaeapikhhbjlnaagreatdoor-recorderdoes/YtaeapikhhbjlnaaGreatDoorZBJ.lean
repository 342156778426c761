/- PARTS OF ALL STRIPES: the code's and the document's come to the same. Own work of the verifier. -/
import Derived.Test.YtaeapikhhbjlnaaGreatDoorZBI
namespace Go.Proofs.YtaeapikhhbjlnaaGreatDoor
open Go.RowKit Soft

/-- What comes of two parts, by the document. -/
structure MrgD (P X P' : Pt) : Prop where
  hi : P'.hi = hiOf (rnd (val P.hi P.lo + val X.hi X.lo))
  lo : P'.lo = loOf (rnd (val P.hi P.lo + val X.hi X.lo))
  L : IsMerge P'.L (P.L ++ X.L)
  n : P'.n = (P.n + X.n) % 18446744073709551616
  s : P'.s = Soft.fa P.s X.s
  c : P'.c = Soft.fa (Soft.fa P.c X.c) (Soft.fl P.s X.s)
  mn : P'.mn = endK P.n X.n P.mn X.mn X.mn P.mn
  mx : P'.mx = endK P.n X.n P.mx X.mx P.mx X.mx
inductive FoldD (X : Nat → Pt) : Nat → Pt → Prop
  | nil : FoldD X 0 Pt.nil
  | next {i : Nat} {P P' : Pt} : FoldD X i P → MrgD P (X i) P' → FoldD X (i + 1) P'
/-- A part whose floats are no NaNs. -/
structure Pt.Num (K : Nat) (X : Pt) : Prop where
  n1 : Pr.isN X.mn = false
  n2 : Pr.isN X.mx = false
  acc : ∃ Y A, Acc (X.s, X.c) Y A K ∧ A ≤ K * UM
theorem endF_not {n n' x y : Nat} {side : Int} (hx : Pr.isN x = false) (hy : Pr.isN y = false) : Pr.isN (endF n n' x y side) = false := by
  unfold endF
  repeat' split
  all_goals assumption
theorem fold_same {X : Nat → Pt} {K : Nat → Nat} : ∀ (n : Nat) (P P' : Pt), n ≤ 16 → (∀ i, i < n → K i < 70368744177664 ∧ (X i).Num (K i)) → FoldR X n P → FoldD X n P' → P = P' ∧ (P.s, P.c) = mgS (fun i => ((X i).s, (X i).c)) n ∧ Pr.isN P.mn = false ∧ Pr.isN P.mx = false := by
  intro n
  induction n with
  | zero =>
    intro P P' _ _ h1 h2
    cases h1
    cases h2
    exact ⟨rfl, rfl, by decide, by decide⟩
  | succ n ih =>
    intro P P' hn hX h1 h2
    cases h1 with
    | next f1 m1 =>
      cases h2 with
      | next f2 m2 =>
        obtain ⟨e, es, a1, a2⟩ := ih _ _ (by omega) (fun i hi => hX i (by omega)) f1 f2
        subst e
        rename_i Q
        have hx := (hX n (Nat.lt_succ_self _)).2
        obtain ⟨Y, A, m, c, hA, _⟩ := mg_fin (S := fun i => ((X i).s, (X i).c)) (K := K) (n + 1) hn (fun i hi => ⟨(hX i hi).1, (hX i hi).2.acc⟩)
        have es' : mgS (fun i => ((X i).s, (X i).c)) (n + 1) = (Soft.fa Q.s (X n).s, Soft.fa (Soft.fa Q.c (X n).c) (Soft.fl Q.s (X n).s)) := by
          show mergeW _ _ = _
          rw [← es]
          rfl
        rw [es'] at hA ⊢
        have e1 := one_eq m1.s (fin_not_nan hA.s.1)
        have e2 := one_eq m1.c (fin_not_nan hA.c.1)
        have e3 : P.mn = P'.mn := by rw [m1.mn, m2.mn, end_mn (by rw [a1]; decide) (by rw [hx.n1]; decide)]
        have e4 : P.mx = P'.mx := by rw [m1.mx, m2.mx, end_mx (by rw [a2]; decide) (by rw [hx.n2]; decide)]
        have e5 := m1.L.uniq m2.L
        have e6 := m1.hi.trans m2.hi.symm
        have e7 := m1.lo.trans m2.lo.symm
        have e8 := m1.n.trans m2.n.symm
        have e9 := e1.trans m2.s.symm
        have e10 := e2.trans m2.c.symm
        refine ⟨?_, by rw [e1, e2], by rw [m1.mn]; exact endF_not a1 hx.n1, by rw [m1.mx]; exact endF_not a2 hx.n2⟩
        obtain ⟨p1, p2, p3, p4, p5, p6, p7, p8⟩ := P
        obtain ⟨q1, q2, q3, q4, q5, q6, q7, q8⟩ := P'
        simp only at e3 e4 e5 e6 e7 e8 e9 e10
        rw [e3, e4, e5, e6, e7, e8, e9, e10]
/-- What the cells of a stripe came to. -/
def ptS : List Int → Pt
  | [k, s, c, mn, mx] => if k = 0 then Pt.nil else ⟨0, 0, [], (uw k).toNat, (uw s).toNat, (uw c).toNat, (uw mn).toNat, (uw mx).toNat⟩
  | _ => Pt.nil
def ptW : List Int → Pt
  | lo :: hi :: cs => ⟨hi, uw lo, cL 0 cs, nS cs, 0, 0, 0, 0⟩
  | _ => Pt.nil
def ptF (kd : Int) (row : List Int) : Pt := if kd = 3 then ptS row else ptW row
theorem fw_nat {s : Nat} (h : s < 18446744073709551616) : (uw (fw64 s)).toNat = s := by
  have := fw64_u s h
  unfold uw
  rw [this]
  exact Int.toNat_natCast s
theorem ptS_row {k : Int} {s c mn mx : Nat} (hs : s < 18446744073709551616) (hc : c < 18446744073709551616) (h1 : mn < 18446744073709551616) (h2 : mx < 18446744073709551616) : ptS (sRow k s c mn mx) = if k = 0 then Pt.nil else ⟨0, 0, [], (uw k).toNat, s, c, mn, mx⟩ := by
  unfold sRow
  have a1 := fw_nat hs
  have a2 := fw_nat hc
  have a3 := fw_nat h1
  have a4 := fw_nat h2
  generalize fw64 s = x1 at *
  generalize fw64 c = x2 at *
  generalize fw64 mn = x3 at *
  generalize fw64 mx = x4 at *
  show (if k = 0 then Pt.nil else _) = _
  rw [a1, a2, a3, a4]
/-- A row of a kind as it may be: words; a summary's of no more than t floats. -/
def RowOk (kd : Int) (p t : Nat) (row : List Int) : Prop :=
  (kd = 1 ∧ row.length = 2 ∧ Ws row) ∨ (kd = 2 ∧ row.length = Lg (p : Int) + 2 ∧ Ws row) ∨ (kd = 3 ∧ ∃ k s c mn mx : Nat, k ≤ t ∧ row = sRow (k : Int) s c mn mx ∧ SumOk k s c mn mx)
/-- How wide a row of a kind is. -/
def wdF (kd : Int) (p : Nat) : Nat := if kd = 1 then 2 else if kd = 2 then Lg (p : Int) + 2 else 5
theorem RowOk.len {kd : Int} {p t : Nat} {row : List Int} (h : RowOk kd p t row) : row.length = wdF kd p := by
  unfold wdF
  rcases h with ⟨rfl, h, _⟩ | ⟨rfl, h, _⟩ | ⟨rfl, k, s, c, mn, mx, _, rfl, _⟩
  · rw [if_pos rfl]; exact h
  · rw [if_neg (by decide), if_pos rfl]; exact h
  · rw [if_neg (by decide), if_neg (by decide)]; exact sRow_l _ _ _ _ _
theorem RowOk.mono {kd : Int} {p t t' : Nat} {row : List Int} (h : RowOk kd p t row) (ht : t ≤ t') : RowOk kd p t' row := by
  rcases h with h | h | ⟨rfl, k, s, c, mn, mx, hk, h⟩
  · exact Or.inl h
  · exact Or.inr (Or.inl h)
  · exact Or.inr (Or.inr ⟨rfl, k, s, c, mn, mx, by omega, h⟩)
theorem ws_rep (n : Nat) : Ws (List.replicate n 0) := fun x hx => by rw [(List.mem_replicate.1 hx).2]; constructor <;> decide
theorem RowOk.first {kd : Int} {p : Nat} (hk : kd = 1 ∨ kd = 2 ∨ kd = 3) (t : Nat) : RowOk kd p t (frst kd (p : Int)) := by
  unfold frst
  rcases hk with rfl | rfl | rfl
  · rw [if_pos rfl]
    exact Or.inl ⟨rfl, rfl, fun x hx => by
      have : x = 0 := by simpa using hx
      rw [this]; constructor <;> decide⟩
  · rw [if_neg (by decide), if_pos rfl]
    exact Or.inr (Or.inl ⟨rfl, by simp, ws_rep _⟩)
  · rw [if_neg (by decide), if_neg (by decide)]
    exact Or.inr (Or.inr ⟨rfl, 0, 0, 0, 9218868437227405312, 18442240474082181120, Nat.zero_le _, rfl, SumOk.zero⟩)
theorem Lg_le14 {p : Nat} (_h1 : 1 ≤ p) (_h2 : p ≤ 14) : Lg (p : Int) ≤ 1048576 := Lg_le _
theorem two_list {row : List Int} (h : 2 ≤ row.length) : ∃ lo hi cs, row = lo :: hi :: cs := by
  rcases row with _ | ⟨a, _ | ⟨b, r⟩⟩
  · simp at h
  · simp at h
  · exact ⟨a, b, r, rfl⟩
theorem ptW_ok {M : Nat} {lo hi : Int} {cs : List Int} (hw : Ws (lo :: hi :: cs)) (hM : cs.length ≤ M) : (ptW (lo :: hi :: cs)).Ok M := by
  have h1 := hw lo (by simp)
  have h2 := hw hi (by simp)
  refine ⟨⟨h2.1, Int.le_of_lt_add_one h2.2, ?_, ?_⟩, cL_rise cs 0, fun c hc => ?_, nS_lt cs, by show 0 < _; decide, by show 0 < _; decide, by show 0 < _; decide, by show 0 < _; decide⟩
  · show 0 ≤ uw lo
    rw [uw_eq]; omega
  · show uw lo < _
    rw [uw_eq]; omega
  · have := cL_in cs 0 c hc
    exact ⟨by omega, by omega, this.2.2.1⟩
theorem RowOk.ok {kd : Int} {p t : Nat} {row : List Int} (h : RowOk kd p t row) (h1 : 1 ≤ p) (h2 : p ≤ 14) (ht : t < 70368744177664) : (ptF kd row).Ok 1048576 ∧ ∃ K, K ≤ t ∧ (ptF kd row).Num K := by
  unfold ptF
  have hz : ∃ Y A, Acc ((0 : Nat), (0 : Nat)) Y A 0 ∧ A ≤ 0 * UM := ⟨0, 0, acc_zero, Nat.zero_le _⟩
  rcases h with ⟨rfl, hl, hw⟩ | ⟨rfl, hl, hw⟩ | ⟨rfl, k, s, c, mn, mx, hk, rfl, hS⟩
  · rw [if_neg (by decide)]
    obtain ⟨lo, hi, cs, rfl⟩ := two_list (row := row) (by omega)
    simp at hl
    exact ⟨ptW_ok hw (by simp [hl]), 0, Nat.zero_le _, by show Pr.isN 0 = false; decide, by show Pr.isN 0 = false; decide, hz⟩
  · rw [if_neg (by decide)]
    obtain ⟨lo, hi, cs, rfl⟩ := two_list (row := row) (by omega)
    have := Lg_le14 h1 h2
    simp at hl
    exact ⟨ptW_ok hw (by omega), 0, Nat.zero_le _, by show Pr.isN 0 = false; decide, by show Pr.isN 0 = false; decide, hz⟩
  · rw [if_pos rfl, ptS_row hS.hs hS.hc hS.hmn hS.hmx]
    by_cases h0 : (k : Int) = 0
    · rw [if_pos h0]
      exact ⟨Pt.nil_ok _, 0, Nat.zero_le _, by decide, by decide, hz⟩
    · rw [if_neg h0]
      have hn : (uw (k : Int)).toNat = k := by rw [uw_eq]; omega
      rw [hn]
      exact ⟨⟨wf_zero, List.Pairwise.nil, (fun c hc => by cases hc), by show k < _; omega, hS.hs, hS.hc, hS.hmn, hS.hmx⟩, k, hk, hS.n1, hS.n2, hS.acc⟩
end Go.Proofs.YtaeapikhhbjlnaaGreatDoor
/- PARTS: what the cells of a stripe held: counters, histograms. Own work of the verifier. -/
namespace Go.Proofs.YtaeapikhhbjlnaaGreatDoor
open Go.RowKit

/-- Where the walk over a row's counts stands. -/
structure PdJ (k : Nat) (hi lo : Int) (cs : List Int) (w : World) (i : Nat) (wr : World) : Prop where
  bel : Below w.heap.size w wr
  res : wr.heap[w.heap.size]? = some (.cells #[.int .i64 0, .int .u64 0, .slice none 0 0, .int .u64 0, .int .u64 0, .int .u64 0, .int .u64 0, .int .u64 0] 130 (0, 0))
  prt : ∃ ao n cap, wr.heap[k]? = some (.cells #[.int .i64 hi, .int .u64 lo, .slice ao n cap, .int .u64 (nS (cs.take i) : Nat), .int .u64 0, .int .u64 0, .int .u64 0, .int .u64 0] 130 (0, 0)) ∧ wr.ownsRow w.heap.size 222 2 (.slice ao n cap) (cL 0 (cs.take i)).length (fl (cL 0 (cs.take i)))
theorem PdJ.drew {k : Nat} {hi lo : Int} {cs : List Int} {w : World} {i : Nat} {wr : World} (h : PdJ k hi lo cs w i wr) : PdJ k hi lo cs w i wr.drew := by
  obtain ⟨ao, n, cap, h1, h2⟩ := h.prt
  exact ⟨h.bel.drew, h.res, ao, n, cap, h1, h2.drew⟩
theorem PdJ.skip {k : Nat} {hi lo : Int} {cs : List Int} {w : World} {i : Nat} {wr : World} (h : PdJ k hi lo cs w i wr) (hi' : i < cs.length) (h0 : cs[i] = 0) : PdJ k hi lo cs w (i + 1) wr := by
  have e1 : cL 0 (cs.take (i + 1)) = cL 0 (cs.take i) := by rw [take_snoc hi', cL_snoc, if_pos h0, List.append_nil]
  have e2 : nS (cs.take (i + 1)) = nS (cs.take i) := by
    have := nS_lt (cs.take i)
    rw [take_snoc hi', nS_snoc, h0, show (uw 0).toNat = 0 by decide, Nat.add_zero, Nat.mod_eq_of_lt this]
  obtain ⟨ao, n, cap, h1, h2⟩ := h.prt
  exact ⟨h.bel, h.res, ao, n, cap, by rw [e2]; exact h1, by rw [e1]; exact h2⟩
/-- One count more. -/
theorem PdJ.grow {k : Nat} {hi lo N : Int} {cs : List Int} {w : World} {i : Nat} {wr w' : World} {ao : Option Addr} {n cap m : Nat} {xs : List Value} {g' n' cap' : Nat} (h : PdJ k hi lo cs w i wr) (hk : w.heap.size < k)
    (h1 : wr.heap[k]? = some (.cells #[.int .i64 hi, .int .u64 lo, .slice ao n cap, .int .u64 N, .int .u64 0, .int .u64 0, .int .u64 0, .int .u64 0] 130 (0, 0))) (h2 : wr.ownsRow w.heap.size 222 2 (.slice ao n cap) m xs) (o : Obj)
    (hown : w'.ownsRow w.heap.size 222 2 (.slice (some ⟨g', 0, none⟩) n' cap') (cL 0 (cs.take (i + 1))).length (fl (cL 0 (cs.take (i + 1))))) (hgr : (wr.alloc o).grownBy w' (Value.slice ao n cap).ownBlock) :
    w'.heap[k]? = some (.cells #[.int .i64 hi, .int .u64 lo, .slice ao n cap, .int .u64 N, .int .u64 0, .int .u64 0, .int .u64 0, .int .u64 0] 130 (0, 0)) ∧ (∀ x, x < w.heap.size → w'.heap[x]? = w.heap[x]?) ∧
    PdJ k hi lo cs w (i + 1) ((w'.setCell ⟨k, 2, none⟩ (.slice (some ⟨g', 0, none⟩) n' cap')).setCell ⟨k, 3, none⟩ (.int .u64 (nS (cs.take (i + 1)) : Nat))) := by
  have hs := h.bel.size
  have hkl := (Array.getElem?_eq_some_iff.1 h1).1
  have nk : some k ≠ (Value.slice ao n cap).ownBlock := fun e => own_nty h2 h1 (by decide) e.symm
  have nr : some w.heap.size ≠ (Value.slice ao n cap).ownBlock := fun e => own_nty h2 h.res (by decide) e.symm
  have hb : ∀ x, x < w.heap.size → w'.heap[x]? = w.heap[x]? := fun x hx => by
    rw [hgr.block x (by simp; omega) (fun e => by have := h2.lt x e.symm; omega), (bel1 wr o).block x (by omega)]
    exact h.bel.block x hx
  have hk' : w'.heap[k]? = _ := (hgr.block k (by simp; omega) nk).trans (((bel1 wr o).block k hkl).trans h1)
  have hr' : w'.heap[w.heap.size]? = _ := (hgr.block w.heap.size (by simp; omega) nr).trans (((bel1 wr o).block w.heap.size (by omega)).trans h.res)
  have hsz : wr.heap.size + 1 ≤ w'.heap.size := by have := hgr.size; simpa using this
  refine ⟨hk', hb, ⟨?_, ?_, some ⟨g', 0, none⟩, n', cap', ?_, ?_⟩⟩
  · refine ⟨hgr.os.trans h.bel.os, hgr.tape.trans h.bel.tape, hgr.output.trans h.bel.output, ?_, fun x hx => ?_⟩
    · rw [World.size_setCell, World.size_setCell]; omega
    · rw [heap_setCell_other _ _ _ _ (by show x ≠ k; omega), heap_setCell_other _ _ _ _ (by show x ≠ k; omega)]
      exact hb x hx
  · rw [heap_setCell_other _ _ _ _ (by show w.heap.size ≠ k; omega), heap_setCell_other _ _ _ _ (by show w.heap.size ≠ k; omega)]
    exact hr'
  · rw [heap_setCell_same _ k 3 _ _ _ (heap_setCell_same _ k 2 _ _ _ hk')]
    rfl
  · exact own_mid_ne (own_mid_ne hown (mid_set k 2 _) (own_nty hown hk' (by decide))) (mid_set k 3 _) (own_nty hown hk' (by decide))
theorem RowD.at {w : World} {g : Nat} {xs : List Int} (h : RowD w g xs) (i : Nat) (hi : i < xs.length) : w.cell? ⟨g, i, none⟩ = some (.int .i64 xs[i]) := h.cell i _ (by simp [hi])
theorem RowD.heap {w w' : World} {g : Nat} {xs : List Int} (h : RowD w g xs) (e : w'.heap[g]? = w.heap[g]?) : RowD w' g xs := by unfold RowD at *; rw [e]; exact h
/-- What is told of counts. -/
def PwQ (hi lo : Int) (cs : List Int) (w : World) (e : Ending) (w' : World) : Prop := ∃ ao n cap, e = .returned (rpart hi lo (.slice ao n cap) (nS cs) 0 0 0 0) ∧ w'.ownsRow w.heap.size 222 2 (.slice ao n cap) (cL 0 cs).length (fl (cL 0 cs)) ∧ Below w.heap.size w w'
set_option maxRecDepth 10000 in
set_option maxHeartbeats 8000000 in
theorem part15_whole (kd : Int) (hkd : ¬ kd = 3) (g : Nat) (lo hi : Int) (cs : List Int) (hm : cs.length ≤ 16777216) (hws : Ws cs) (w : World) (h : RowD w g (lo :: hi :: cs)) :
    Calls Tryz.prog 88 #[.int .i64 kd, slc (cs.length + 2) g] w fun e w' => PwQ hi (uw lo) cs w e w' := by
  obtain ⟨m, hm0⟩ : ∃ m, m = cs.length := ⟨_, rfl⟩
  have hkd' : (kd == 3) = false := by simpa using hkd
  have hl := h.lt
  obtain ⟨w1, hw1⟩ : ∃ w1, w.alloc (.cells #[.int .i64 0, .int .u64 0, .slice none 0 0, .int .u64 0, .int .u64 0, .int .u64 0, .int .u64 0, .int .u64 0] 130) = w1 := ⟨_, rfl⟩
  have HX : Hid (w1.heap[w.heap.size]? = some (.cells #[.int .i64 0, .int .u64 0, .slice none 0 0, .int .u64 0, .int .u64 0, .int .u64 0, .int .u64 0, .int .u64 0] 130 (0, 0))) := by rw [← hw1]; exact new_1 w _
  have HB : Hid (Below w.heap.size w w1) := by rw [← hw1]; exact bel1 _ _
  have hs1 : w1.heap.size = w.heap.size + 1 := by rw [← hw1]; simp
  have hr1 : RowD w1 g (lo :: hi :: cs) := by rw [← hw1]; exact h.alloc _
  have q0 : w1.cell? ⟨g, 0, none⟩ = some (.int .i64 lo) := hr1.cell 0 _ rfl
  have q1 : w1.cell? ⟨g, 1, none⟩ = some (.int .i64 hi) := hr1.cell 1 _ rfl
  have qa : ∀ o, (w1.alloc o).cell? ⟨g, 0, none⟩ = some (.int .i64 lo) ∧ (w1.alloc o).cell? ⟨g, 1, none⟩ = some (.int .i64 hi) := fun o => ⟨(hr1.alloc o).cell 0 _ rfl, (hr1.alloc o).cell 1 _ rfl⟩
  have qa0 : ∀ o, (w1.alloc o).cell? ⟨g, 0, none⟩ = some (.int .i64 lo) := fun o => (qa o).1
  have qa1 : ∀ o, (w1.alloc o).cell? ⟨g, 1, none⟩ = some (.int .i64 hi) := fun o => (qa o).2
  have HR : Hid (∀ (i : Nat) (hi : i < cs.length) (W : World), W.heap[g]? = w.heap[g]? → W.cell? ⟨g, i + 2, none⟩ = some (.int .i64 cs[i])) := fun i hi W e => by
    have := (h.heap e).at (i + 2) (by simp; omega)
    simpa using this
  have hlo : IntKind.u64.wrap lo = uw lo := rfl
  obtain ⟨i0, hi0, hz0, hz1, hz2⟩ := info_parts infoC
  have HWs : Hid (Ws cs) := hws
  rw [← hm0] at hm ⊢
  have Hm0 : Hid (m = cs.length) := hm0
  clear h hr1 qa hws hm0
  generalize uw lo = lo1 at *
  go_enter Tryz.func88, Tryz.ntmps88
  go_upto_region 1 with fail
  try simp only [hw1]
  go_upto_region 5 with fail
  go_region
  all_goals
    have HI0 : Hid (PdJ (w.heap.size + 1) hi lo1 cs w 0 (w1.drew.alloc (.cells #[.int .i64 hi, .int .u64 lo1, .slice none 0 0, .int .u64 0, .int .u64 0, .int .u64 0, .int .u64 0, .int .u64 0] 130))) :=
      ⟨(HB.out.drew).trans ((bel1 w1.drew _).mono (by simp; omega)), ((bel1 w1.drew _).block w.heap.size (by simp; omega)).trans HX.out, none, 0, 0, by rw [← hs1]; exact new_1 w1.drew _, World.ownsRow_nil _ _ _ _⟩
    have hk : w.heap.size < w.heap.size + 1 := by omega
    clear q0 q1 qa0 qa1 HX HB hs1
    generalize w.heap.size + 1 = k at *
    go_wp2_with fail
    go_loopw [6] (fun a wr => ∃ i : Nat, i ≤ m ∧ a = .int .i64 ((i + 2 : Nat) : Int) ∧ Hid (PdJ k hi lo1 cs w i wr)) (fun a _ => m + 2 - (intOf a).toNat)
    case atStart => exact ⟨0, by omega, rfl, HI0.out⟩
    case round =>
      obtain ⟨i, hi2, rfl, HI⟩ := hrel
      obtain ⟨j, hj⟩ : ∃ j, j = i + 2 := ⟨_, rfl⟩
      have Hj : Hid (j = i + 2) := hj
      rw [← hj]
      by_cases hlt : i < m
      · have hlt' : (j : Int) < (m : Int) + 2 := by omega
        have hltc : i < cs.length := by have := Hm0.out; omega
        have HRi : Hid (∀ W : World, W.heap[g]? = w.heap[g]? → W.cell? ⟨g, j, none⟩ = some (.int .i64 cs[i])) := fun W e => by rw [Hj.out]; exact HR.out i hltc W e
        have hq := HRi.out wr (HI.out.bel.block g hl)
        have hx := HWs.out _ (List.getElem_mem hltc)
        clear hj
        by_cases h0 : cs[i] = 0
        · rw [h0] at hq
          have HSk : Hid (PdJ k hi lo1 cs w (i + 1) wr) := HI.out.skip hltc h0
          clear hx h0 HRi
          go_wp2_with fail
          exact ⟨⟨i + 1, by omega, by rw [Hj.out]; simp; omega, HSk.out⟩, by simp [intOf]; omega⟩
        · obtain ⟨u, hu⟩ : ∃ u : Nat, u = (uw cs[i]).toNat := ⟨_, rfl⟩
          have hu1 : IntKind.u64.wrap cs[i] = (u : Int) := by show uw cs[i] = _; have := uw_eq cs[i]; omega
          have e1 : cL 0 (cs.take (i + 1)) = cL 0 (cs.take i) ++ [((i : Int), u)] := by rw [take_snoc hltc, cL_snoc, if_neg h0, List.length_take, hu]; simp [Nat.min_eq_left (Nat.le_of_lt hltc)]
          have e2 : nS (cs.take (i + 1)) = (nS (cs.take i) + u) % 18446744073709551616 := by rw [take_snoc hltc, nS_snoc, hu]
          have hlen := cL_len (cs.take i) 0
          rw [List.length_take] at hlen
          have hN := nS_lt (cs.take i)
          have e3 : IntKind.u64.wrap ((nS (cs.take i) : Nat) + (u : Int)) = (nS (cs.take (i + 1)) : Nat) := by rw [IntKind.wrap_u64, e2]; omega
          obtain ⟨ao, n, cap, P2, O2⟩ := HI.out.prt
          have HP2 : Hid _ := P2
          have HO2 : Hid _ := O2
          obtain ⟨y0, y1, y2, y3, y4, y5, y6, y7⟩ := eight_cells HP2
          have ya : ∀ ob, (wr.alloc ob).cell? ⟨k, 2, none⟩ = some (.slice ao n cap) := fun ob => ((bel1 wr ob).cell (p := ⟨k, 2, none⟩) (lt_of_cell y2)).trans y2
          have qb : ∀ ob, (wr.alloc ob).cell? ⟨g, j, none⟩ = some (.int .i64 cs[i]) := fun ob => HRi.out _ (((bel1 wr ob).block g (Nat.lt_of_lt_of_le hl HI.out.bel.size)).trans (HI.out.bel.block g hl))
          have hij : IntKind.i64.wrap ((j : Int) - 2) = (i : Int) := by have := Hj.out; rw [wi64]; unfold wrap64; omega
          have HGw : Hid (∀ (w' : World) g' n' cap', w'.ownsRow w.heap.size 222 2 (.slice (some ⟨g', 0, none⟩) n' cap') ((cL 0 (cs.take i)).length + 1) (fl (cL 0 (cs.take i)) ++ fl [((i : Int), u)]) → (wr.alloc (.cells #[.int .i64 (i : Int), .int .u64 (u : Int)] 222)).grownBy w' (Value.slice ao n cap).ownBlock → Hid (w'.heap[k]? = some (.cells #[.int .i64 hi, .int .u64 lo1, .slice ao n cap, .int .u64 (nS (cs.take i) : Nat), .int .u64 0, .int .u64 0, .int .u64 0, .int .u64 0] 130 (0, 0))) ∧ w'.cell? ⟨g, j, none⟩ = some (.int .i64 cs[i]) ∧ Hid (PdJ k hi lo1 cs w (i + 1) ((w'.setCell ⟨k, 2, none⟩ (.slice (some ⟨g', 0, none⟩) n' cap')).setCell ⟨k, 3, none⟩ (.int .u64 (nS (cs.take (i + 1)) : Nat))))) := fun w' g' n' cap' a1 a2 => by
            obtain ⟨b1, b2, b3⟩ := HI.out.grow (n' := n') (cap' := cap') (g' := g') hk P2 O2 _ (by rw [e1, List.length_append, fl_append]; exact a1) a2
            exact ⟨b1, HRi.out w' (b2 g hl), b3⟩
          have HLn : Hid ((cL 0 (cs.take i)).length ≤ 16777216) := by unfold Hid; omega
          have hgk : ¬ g = k := by omega
          have hkg : ¬ k = g := by omega
          have HSz : Hid (w.heap.size ≤ wr.heap.size + 1) := by unfold Hid; have := HI.out.bel.size; omega
          have HOa : Hid (∀ ob, (wr.drew.alloc ob).ownsRow w.heap.size 222 2 (.slice ao n cap) (cL 0 (cs.take i)).length (fl (cL 0 (cs.take i)))) := fun ob => (World.ownsRow.drew O2).alloc ob
          have h0' : (cs[i] != 0) = true := by simpa using h0
          clear hx h0 e1 e2 hlen hN hu P2 O2 HRi
          generalize cs[i] = z at *
          generalize ((nS (cs.take (i + 1)) : Nat) : Int) = N1 at *
          generalize ((nS (cs.take i) : Nat) : Int) = N0 at *
          generalize cL 0 (cs.take i) = CL at *
          go_wp2_with fail
          go_region_law (refine step_append_lies _ (by rfl) _ _ 94 (by rfl) w.heap.size 222 i0 (.agg #[.int .i64 0, .int .u64 0]) 2 16 Tryz.underlying94 hi0 hz0 hz1 hz2 rfl (by decide) (.slice ao n cap) CL.length (fl CL) (by rfl) (HOa.out _) ⟨wr.heap.size, 0, none⟩ 1 1 (fl [((i : Int), u)]) (by rfl) rfl (World.news_of_block (cs := #[.int .i64 (i : Int), .int .u64 (u : Int)]) (new_1 wr.drew _)) (fl_one _) (by decide) (by have := HLn.out; unfold maxLen; omega) (by have := HLn.out; omega) (by have := HSz.out; simp; omega) (wr.heap.size + 1) (by simp) ?_; intro g' cap' w' hown hgr hat hgl; obtain ⟨G1, gq, G2⟩ := HGw.out w' g' (CL.length + 1) cap' hown ⟨hgr.os, hgr.tape, hgr.output, hgr.size, hgr.block⟩; obtain ⟨x0, x1, x2, x3, x4, x5, x6, x7⟩ := eight_cells G1; obtain ⟨f0, f1, f2, f3, f4, f5, f6, f7⟩ := eight_fr G1)
          all_goals
            clear hown hgr hat
            go_wp2_with fail
            go_region
            all_goals
              go_wp2_with fail
              exact ⟨⟨i + 1, by omega, by rw [Hj.out]; simp; omega, by first | exact G2.out | exact G2.out.drew⟩, by simp [intOf]; omega⟩
      · obtain rfl : i = m := by omega
        have hlt' : ¬ (j : Int) < (i : Int) + 2 := by omega
        have HRs : Hid _ := HI.out.res
        obtain ⟨ao, n, cap, hP, hO⟩ := HI.out.prt
        rw [Hm0.out, List.take_length] at hP hO
        obtain ⟨N, hN⟩ : ∃ N : Nat, N = nS cs := ⟨_, rfl⟩
        rw [← hN] at hP
        have HNe : Hid (N = nS cs) := hN
        have HPt : Hid _ := hP
        have HOw : Hid _ := hO
        obtain ⟨q0, q1, q2, q3, q4, q5, q6, q7⟩ := eight_cells HPt
        obtain ⟨p0, p1, p2, p3, p4, p5, p6, p7⟩ := eight_cells HRs
        obtain ⟨f0, f1, f2, f3, f4, f5, f6, f7⟩ := eight_fr HRs
        have HBw : Hid (Below w.heap.size w wr) := HI.out.bel
        have HQ : Hid (∀ v0 v1 v2 v3 v4 v5 v6 v7, PwQ hi lo1 cs w (.returned (rpart hi lo1 (.slice ao n cap) N 0 0 0 0)) (put8 wr w.heap.size v0 v1 v2 v3 v4 v5 v6 v7)) := fun v0 v1 v2 v3 v4 v5 v6 v7 => ⟨ao, n, cap, by rw [HNe.out], own_mid_ne HOw.out (mid_put8 _ _ _ _ _ _ _ _ _ _) (own_nty HOw.out HRs.out (by decide)), below_put8 HBw.out (Nat.le_refl _) (Nat.le_refl _) _ _ _ _ _ _ _ _⟩
        clear hP hO hN hj
        go_wp2_with fail
        rw [put8_eq]
        have HS := hid_of (set_eight (v0 := .int .i64 hi) (v1 := .int .u64 lo1) (v2 := .slice ao n cap) (v3 := .int .u64 (N : Int)) (v4 := .int .u64 0) (v5 := .int .u64 0) (v6 := .int .u64 0) (v7 := .int .u64 0) HRs.out)
        have HQ2 := hid_of (HQ.out (.int .i64 hi) (.int .u64 lo1) (.slice ao n cap) (.int .u64 (N : Int)) (.int .u64 0) (.int .u64 0) (.int .u64 0) (.int .u64 0))
        generalize put8 wr w.heap.size (.int .i64 hi) (.int .u64 lo1) (.slice ao n cap) (.int .u64 (N : Int)) (.int .u64 0) (.int .u64 0) (.int .u64 0) (.int .u64 0) = W at *
        obtain ⟨z0, z1, z2, z3, z4, z5, z6, z7⟩ := eight_cells HS
        simp [bodyPost, results, Tryz.results88, go_sem, z0, z1, z2, z3, z4, z5, z6, z7]
        exact HQ2.out
end Go.Proofs.YtaeapikhhbjlnaaGreatDoor
/- THE DOCUMENT's DRAIN of a buffer: its parts. Own work of the verifier. -/
namespace Go.Proofs.YtaeapikhhbjlnaaGreatDoor
open Go.RowKit

theorem Chg.row {S : Nat → Prop} {W W' : World} {B : Nat} {e : TypeId} {s n : Nat} {v : Value} {xs : List Value} (k : Chg S W W') (h : W.ownsRow B e s v n xs) (hS : ∀ x, v.ownBlock = some x → ¬ S x) : W'.ownsRow B e s v n xs := by
  refine ⟨h.1, ?_⟩
  rcases h.2 with hn | ⟨g, cap, cur, rfl, hb, hgg, rest⟩
  · exact .inl hn
  · exact .inr ⟨g, cap, cur, rfl, hb, (k.block g (Array.getElem?_eq_some_iff.1 hgg).1 (hS g rfl)).trans hgg, rest⟩
theorem MrgD.ok {M : Nat} {P X P' : Pt} (h : MrgD P X P') (hP : P.Ok M) (hX : X.Ok M) : P'.Ok M := by
  have e : ∀ {n n' x y p q : Nat}, x < 18446744073709551616 → y < 18446744073709551616 → endK n n' x y p q < 18446744073709551616 := fun hx hy => by
    unfold endK
    repeat' split
    all_goals assumption
  exact ⟨by rw [h.hi, h.lo]; exact wf_rnd _, h.L.rise, fun c hc => by
    obtain ⟨d, hd, e⟩ := merge_mem h.L hc
    rcases List.mem_append.1 hd with q | q
    · have := hP.ix d q; exact ⟨by omega, by omega, (h.L.nz c hc).2⟩
    · have := hX.ix d q; exact ⟨by omega, by omega, (h.L.nz c hc).2⟩, by rw [h.n]; omega, by rw [h.s]; exact Soft.fa_lt _ _, by rw [h.c]; exact Soft.fa_lt _ _, by rw [h.mn]; exact e hP.h1 hX.h1, by rw [h.mx]; exact e hP.h2 hX.h2⟩
theorem FoldD.ok {M : Nat} {X : Nat → Pt} {i : Nat} {P : Pt} (h : FoldD X i P) (hX : ∀ j, j < i → (X j).Ok M) : P.Ok M := by
  induction h with
  | nil => exact Pt.nil_ok M
  | next _ hm ih => exact hm.ok (ih (fun j hj => hX j (by omega))) (hX _ (Nat.lt_succ_self _))
/-- Merge, by parts, the document's. -/
theorem mergeD_p {M : Nat} (hM : M ≤ 1048576) {P X : Pt} (hP : P.Ok M) (hX : X.Ok M) (a1 a2 : Option Addr) (m1 c1 m2 c2 : Nat) (W : World) (sP : SN W (.slice a1 m1 c1) P.L) (sX : SN W (.slice a2 m2 c2) X.L) :
    Calls Tryz.prog 87 #[rpart P.hi P.lo (.slice a1 m1 c1) P.n P.s P.c P.mn P.mx, rpart X.hi X.lo (.slice a2 m2 c2) X.n X.s X.c X.mn X.mx] W fun e w' => ∃ (P' : Pt) (ao : Option Addr) (k cap : Nat), e = .returned (rpart P'.hi P'.lo (.slice ao k cap) P'.n P'.s P'.c P'.mn P'.mx) ∧ Hid (MrgD P X P') ∧ Hid (w'.ownsRow W.heap.size 222 2 (.slice ao k cap) P'.L.length (fl P'.L)) ∧ Hid (Below W.heap.size W w') := by
  refine Calls.mono (merge15_any M P X a1 a2 m1 c1 m2 c2 W hM hP hX sP sX) ?_
  rintro e w' ⟨v, O, rfl, hI, hG⟩
  obtain ⟨ao, k, cap, rfl⟩ := gc_form hG
  exact ⟨⟨_, _, O, _, _, _, _, _⟩, ao, k, cap, rfl, ⟨rfl, rfl, hI, rfl, rfl, rfl, rfl, rfl⟩, hG.own, hG.below⟩
/-- A part of any kind. -/
theorem part15_any {kd : Int} {p t : Nat} {row : List Int} (hr : RowOk kd p t row) (h1 : 1 ≤ p) (h2 : p ≤ 14) (ht : t < 70368744177664) (g : Nat) (W : World) (h : RowD W g row) :
    Calls Tryz.prog 88 #[.int .i64 kd, slc (wdF kd p) g] W fun e w' => ∃ (ao : Option Addr) (k cap : Nat), e = .returned (rpart (ptF kd row).hi (ptF kd row).lo (.slice ao k cap) (ptF kd row).n (ptF kd row).s (ptF kd row).c (ptF kd row).mn (ptF kd row).mx) ∧ Hid (SN w' (.slice ao k cap) (ptF kd row).L) ∧ Hid (Below W.heap.size W w') := by
  have hl := hr.len
  have hw : ∀ lo hi cs, row = lo :: hi :: cs → ¬ kd = 3 → Ws row → cs.length ≤ 16777216 → Calls Tryz.prog 88 #[.int .i64 kd, slc (wdF kd p) g] W fun e w' => ∃ (ao : Option Addr) (k cap : Nat), e = .returned (rpart (ptF kd row).hi (ptF kd row).lo (.slice ao k cap) (ptF kd row).n (ptF kd row).s (ptF kd row).c (ptF kd row).mn (ptF kd row).mx) ∧ Hid (SN w' (.slice ao k cap) (ptF kd row).L) ∧ Hid (Below W.heap.size W w') := fun lo hi cs e hk hws hc => by
    subst e
    rw [← hl]
    unfold ptF
    rw [if_neg hk]
    refine Calls.mono (part15_whole kd hk g lo hi cs hc (fun x hx => hws x (by simp [hx])) W h) ?_
    rintro e w' ⟨ao, n, cap, rfl, ho, hb⟩
    exact ⟨ao, n, cap, rfl, own_sn ho hb.size, hb⟩
  rcases hr with ⟨rfl, hl2, hws⟩ | ⟨rfl, hl2, hws⟩ | ⟨rfl, k, s, c, mn, mx, hk, rfl, hS⟩
  · obtain ⟨lo, hi, cs, e⟩ := two_list (row := row) (by omega)
    exact hw lo hi cs e (by decide) hws (by rw [e] at hl2; simp at hl2; rw [hl2]; decide)
  · obtain ⟨lo, hi, cs, e⟩ := two_list (row := row) (by omega)
    have := Lg_le14 h1 h2
    exact hw lo hi cs e (by decide) hws (by rw [e] at hl2; simp at hl2; omega)
  · have e5 : wdF 3 p = 5 := rfl
    rw [e5]
    unfold ptF
    rw [if_pos rfl, ptS_row hS.hs hS.hc hS.hmn hS.hmx]
    by_cases h0 : (k : Int) = 0
    · rw [if_pos h0]
      rw [h0] at h
      refine Calls.mono (part15_nil g s c mn mx W h) ?_
      rintro e w' ⟨rfl, hb⟩
      exact ⟨none, 0, 0, rfl, GC.sn (B := w'.heap.size) (W0 := w') ⟨World.ownsRow_nil _ _ _ _, Below.refl _ _, Nat.le_refl _⟩, hb⟩
    · rw [if_neg h0]
      have hn : (uw (k : Int)).toNat = k := by rw [uw_eq]; omega
      rw [hn]
      refine Calls.mono (part15_sum g (k : Int) s c mn mx k hS.hs hS.hc hS.hmn hS.hmx h0 (by rw [uw_eq]; omega) W h) ?_
      rintro e w' ⟨rfl, hb⟩
      exact ⟨none, 0, 0, rfl, GC.sn (B := w'.heap.size) (W0 := w') ⟨World.ownsRow_nil _ _ _ _, Below.refl _ _, Nat.le_refl _⟩, hb⟩
/-- A header: the rows of a buffer. -/
def HdD (w : World) (hb wd : Nat) (G : List Nat) : Prop := ∃ rest : List Value, w.heap[hb]? = some (.cells (G.map (slc wd) ++ rest).toArray 161 (0, 0))
theorem HdD.cell {w : World} {hb wd : Nat} {G : List Nat} (h : HdD w hb wd G) (i : Nat) (hi : i < G.length) : w.cell? ⟨hb, i, none⟩ = some (slc wd G[i]) := by
  obtain ⟨rest, h⟩ := h
  have e : (G.map (slc wd) ++ rest)[i]? = some (slc wd G[i]) := by rw [List.getElem?_append_left (by simpa using hi)]; simp [hi]
  simp [World.cell?, h, e]
theorem HdD.fr {w : World} {hb wd : Nat} {G : List Nat} (h : HdD w hb wd G) (i : Nat) : w.frozen? ⟨hb, i, none⟩ = false := by
  obtain ⟨rest, h⟩ := h
  simp [World.frozen?, h]
theorem HdD.set {w : World} {hb wd : Nat} {G : List Nat} (h : HdD w hb wd G) (i g : Nat) (hi : i < G.length) : HdD (w.setCell ⟨hb, i, none⟩ (slc wd g)) hb wd (G.set i g) := by
  obtain ⟨rest, h⟩ := h
  refine ⟨rest, ?_⟩
  rw [heap_setCell_same w hb i _ _ _ h]
  congr 2
  apply Array.ext'
  simp [List.map_set, hi]
theorem HdD.lt {w : World} {hb wd : Nat} {G : List Nat} (h : HdD w hb wd G) : hb < w.heap.size := by
  obtain ⟨rest, h⟩ := h
  exact (Array.getElem?_eq_some_iff.1 h).1
theorem HdD.heap {w w' : World} {hb wd : Nat} {G : List Nat} (h : HdD w hb wd G) (e : w'.heap[hb]? = w.heap[hb]?) : HdD w' hb wd G := by
  obtain ⟨rest, h⟩ := h
  exact ⟨rest, e.trans h⟩
theorem HdD.ne_row {w : World} {hb wd g : Nat} {G : List Nat} {xs : List Int} (h : HdD w hb wd G) (k : RowD w g xs) : g ≠ hb := fun e => by
  obtain ⟨rest, h⟩ := h
  unfold RowD at k
  rw [e, h] at k
  injection k with k
  injection k with _ k
  exact absurd k (by decide)
end Go.Proofs.YtaeapikhhbjlnaaGreatDoor
