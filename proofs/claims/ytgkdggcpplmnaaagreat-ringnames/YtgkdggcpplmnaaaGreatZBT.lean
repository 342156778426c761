/- WINDOWS: the walk. Own work of the verifier. -/
import Derived.Test.YtgkdggcpplmnaaaGreatZBN
namespace Go.Proofs.YtgkdggcpplmnaaaGreat.Ri
open Go.RowKit Go.Shelf Me

attribute [local go_sem] Oper.semAt_some
theorem wL_mem {T : List Int} {R : List Rs} {k j : Nat} {fr tO : Int} (h : j < (wL T R k fr tO).length) : (wL T R k fr tO).getD j dR ∈ R := by
  have e : (wL T R k fr tO).getD j dR = (wL T R k fr tO)[j] := by simp [List.getD, h]
  rw [e]
  have e2 : (wL T R k fr tO)[j] = R.getD (plc k (((List.range R.length).filter (inW T k R.length fr tO))[j]'(by unfold wL at h; rw [List.length_map] at h; exact h)) R.length) dR := by
    unfold wL
    exact List.getElem_map _
  rw [e2]
  have hm := List.getElem_mem (l := (List.range R.length).filter (inW T k R.length fr tO)) (n := j) (by unfold wL at h; rw [List.length_map] at h; exact h)
  generalize ((List.range R.length).filter (inW T k R.length fr tO))[j]'_ = i at hm ⊢
  have hi : i < R.length := List.mem_range.1 (List.mem_filter.1 hm).1
  have hp : plc k i R.length < R.length := Nat.mod_lt _ (by omega)
  simp only [List.getD, List.getElem?_eq_getElem hp, Option.getD_some]
  exact List.getElem_mem hp
theorem wL_len (T : List Int) (R : List Rs) (k : Nat) (fr tO : Int) : (wL T R k fr tO).length ≤ R.length := by
  unfold wL
  rw [List.length_map]
  exact Nat.le_trans (List.length_filter_le _ _) (by simp)
theorem up {W : World} {o x : Obj} {k : Nat} (h : W.heap[k]? = some x) : (W.alloc o).heap[k]? = some x := hkN h (bel1 _ _)
theorem newk {W : World} {o : Obj} {k : Nat} (h : W.heap.size = k) : (W.alloc o).heap[k]? = some o := by subst h; exact new_1 _ _
theorem put5_other (W : World) {A D : Nat} (h : A + 3 ≤ D) (x y z u v : Value) : (((put3 W A x y z).setCell ⟨A + 1, 0, none⟩ u).setCell ⟨A + 2, 0, none⟩ v).heap[D]? = W.heap[D]? := by
  rw [heap_other _ _ _ _ (by show _ ≠ A + 2; omega), heap_other _ _ _ _ (by show _ ≠ A + 1; omega), put3_other (by omega)]
theorem Wx.of {w W : World} {s : Sn} {v : Value} {j : Nat} (h : Ww w s v j W) (e : Int) : Wx w e (((put3 W w.heap.size (.int .i64 0) (.slice none 0 0) (.int .u64 0)).setCell ⟨w.heap.size + 1, 0, none⟩ (.int .i64 0)).setCell ⟨w.heap.size + 2, 0, none⟩ (.int .i64 e)) := by
  refine ⟨?_, ?_, ?_, Below.setCell (p := ⟨w.heap.size + 2, 0, none⟩) (Below.setCell (p := ⟨w.heap.size + 1, 0, none⟩) (put3_bel h.bl (Nat.le_refl _) _ _ _) (by show w.heap.size ≤ w.heap.size + 1; omega) _) (by show w.heap.size ≤ w.heap.size + 2; omega) _⟩
  · rw [heap_other _ _ _ _ (by show _ ≠ w.heap.size + 2; omega), heap_other _ _ _ _ (by show _ ≠ w.heap.size + 1; omega)]
    exact set_three h.g0
  · rw [heap_other _ _ _ _ (by show _ ≠ w.heap.size + 2; omega)]
    have g : (put3 W w.heap.size (.int .i64 0) (.slice none 0 0) (.int .u64 0)).heap[w.heap.size + 1]? = some (.cells #[.int .i64 0] 3 (0, 0)) := by rw [put3_other (by omega)]; exact h.g1
    rw [heap_setCell_same _ _ 0 _ _ _ g]
    rfl
  · have g : ((put3 W w.heap.size (.int .i64 0) (.slice none 0 0) (.int .u64 0)).setCell ⟨w.heap.size + 1, 0, none⟩ (.int .i64 0)).heap[w.heap.size + 2]? = some (.cells #[.int .i64 0] 24 (0, 0)) := by rw [heap_other _ _ _ _ (by show _ ≠ w.heap.size + 1; omega), put3_other (by omega)]; exact h.g2
    rw [heap_setCell_same _ _ 0 _ _ _ g]
    rfl
/-- The results of a window that was merged. -/
structure Wn (w : World) (s : Sn) (v : Value) (n : Int) (W : World) : Prop where
  g0 : W.heap[w.heap.size]? = some (.cells #[.int .i64 s.p, v, .int .u64 (s.r : Int)] 31 (0, 0))
  g1 : W.heap[w.heap.size + 1]? = some (.cells #[.int .i64 n] 3 (0, 0))
  g2 : W.heap[w.heap.size + 2]? = some (.cells #[.int .i64 0] 24 (0, 0))
  os : OS (w.heap.size + 5) (s, v) W
  bl : Below w.heap.size w W
theorem Wn.tn {w W W1 : World} {s : Sn} {v : Value} {n : Int} {B : Nat} (h : Wn w s v n W) (hb : Tn B W W1) (hB : w.heap.size ≤ B) : Wn w s v n W1 :=
  ⟨hb.cells h.g0, hb.cells h.g1, hb.cells h.g2, h.os.tn hb, h.bl.trans ((hb.mono hB).below (by have := (Array.getElem?_eq_some_iff.1 h.g0).1; omega))⟩
theorem Wn.of {w W : World} {s : Sn} {v : Value} {j : Nat} (h : Ww w s v j W) (n : Int) : Wn w s v n (((put3 W w.heap.size (.int .i64 s.p) v (.int .u64 (s.r : Int))).setCell ⟨w.heap.size + 1, 0, none⟩ (.int .i64 n)).setCell ⟨w.heap.size + 2, 0, none⟩ (.int .i64 0)).drew := by
  have hs := h.size
  have hos : OS (w.heap.size + 5) (s, v) (((put3 W w.heap.size (.int .i64 s.p) v (.int .u64 (s.r : Int))).setCell ⟨w.heap.size + 1, 0, none⟩ (.int .i64 n)).setCell ⟨w.heap.size + 2, 0, none⟩ (.int .i64 0)) := OS.set (OS.set (OS.put3 h.os (by omega) _ _ _) (by omega) _) (by omega) _
  have hbl : Below w.heap.size w (((put3 W w.heap.size (.int .i64 s.p) v (.int .u64 (s.r : Int))).setCell ⟨w.heap.size + 1, 0, none⟩ (.int .i64 n)).setCell ⟨w.heap.size + 2, 0, none⟩ (.int .i64 0)) := Below.setCell (p := ⟨w.heap.size + 2, 0, none⟩) (Below.setCell (p := ⟨w.heap.size + 1, 0, none⟩) (put3_bel h.bl (Nat.le_refl _) _ _ _) (by show w.heap.size ≤ w.heap.size + 1; omega) _) (by show w.heap.size ≤ w.heap.size + 2; omega) _
  have g0 : (((put3 W w.heap.size (.int .i64 s.p) v (.int .u64 (s.r : Int))).setCell ⟨w.heap.size + 1, 0, none⟩ (.int .i64 n)).setCell ⟨w.heap.size + 2, 0, none⟩ (.int .i64 0)).heap[w.heap.size]? = some (.cells #[.int .i64 s.p, v, .int .u64 (s.r : Int)] 31 (0, 0)) := by
    rw [heap_other _ _ _ _ (by show _ ≠ w.heap.size + 2; omega), heap_other _ _ _ _ (by show _ ≠ w.heap.size + 1; omega)]
    exact set_three h.g0
  have k1 : (put3 W w.heap.size (.int .i64 s.p) v (.int .u64 (s.r : Int))).heap[w.heap.size + 1]? = some (.cells #[.int .i64 0] 3 (0, 0)) := by rw [put3_other (by omega)]; exact h.g1
  have g1 : (((put3 W w.heap.size (.int .i64 s.p) v (.int .u64 (s.r : Int))).setCell ⟨w.heap.size + 1, 0, none⟩ (.int .i64 n)).setCell ⟨w.heap.size + 2, 0, none⟩ (.int .i64 0)).heap[w.heap.size + 1]? = some (.cells #[.int .i64 n] 3 (0, 0)) := by
    rw [heap_other _ _ _ _ (by show _ ≠ w.heap.size + 2; omega), heap_setCell_same _ _ 0 _ _ _ k1]
    rfl
  have k2 : ((put3 W w.heap.size (.int .i64 s.p) v (.int .u64 (s.r : Int))).setCell ⟨w.heap.size + 1, 0, none⟩ (.int .i64 n)).heap[w.heap.size + 2]? = some (.cells #[.int .i64 0] 24 (0, 0)) := by rw [heap_other _ _ _ _ (by show _ ≠ w.heap.size + 1; omega), put3_other (by omega)]; exact h.g2
  have g2 : (((put3 W w.heap.size (.int .i64 s.p) v (.int .u64 (s.r : Int))).setCell ⟨w.heap.size + 1, 0, none⟩ (.int .i64 n)).setCell ⟨w.heap.size + 2, 0, none⟩ (.int .i64 0)).heap[w.heap.size + 2]? = some (.cells #[.int .i64 0] 24 (0, 0)) := by
    rw [heap_setCell_same _ _ 0 _ _ _ k2]
    rfl
  generalize ((put3 W w.heap.size (.int .i64 s.p) v (.int .u64 (s.r : Int))).setCell ⟨w.heap.size + 1, 0, none⟩ (.int .i64 n)).setCell ⟨w.heap.size + 2, 0, none⟩ (.int .i64 0) = W2 at *
  exact ⟨g0, g1, g2, hos.below (drew_bel1 W2), bt hbl (drew_bel1 W2)⟩
/-- Memory at the start of a window's loop. -/
abbrev W8 (w : World) (b : Nat) (fr tO : Int) : World := (((((((w.alloc (.cells #[.int .i64 0, .slice none 0 0, .int .u64 0] 31)).alloc (.cells #[.int .i64 0] 3)).alloc (.cells #[.int .i64 0] 24)).alloc (.cells #[.int .i64 0, .slice none 0 0, .int .u64 0] 31)).alloc (.cells #[.int .i64 0] 3)).alloc (.cells #[.pointer (some ⟨b, 0, none⟩)] 23)).alloc (.cells #[.int .i64 fr] 2)).alloc (.cells #[.int .i64 tO] 2)
theorem w8_bel (w : World) (b : Nat) (fr tO : Int) : Below w.heap.size w (W8 w b fr tO) := bt (bt (bt (bt (bt (bt (bt (bel1 _ _) (bel1 _ _)) (bel1 _ _)) (bel1 _ _)) (bel1 _ _)) (bel1 _ _)) (bel1 _ _)) (bel1 _ _)
theorem w8_new (w : World) (b : Nat) (fr tO : Int) : Ww w zS (.slice none 0 0) 0 (W8 w b fr tO) ∧ (W8 w b fr tO).cell? ⟨w.heap.size + 5, 0, none⟩ = some (.pointer (some ⟨b, 0, none⟩)) ∧ (W8 w b fr tO).cell? ⟨w.heap.size + 6, 0, none⟩ = some (.int .i64 fr) ∧ (W8 w b fr tO).cell? ⟨w.heap.size + 7, 0, none⟩ = some (.int .i64 tO) ∧ (W8 w b fr tO).heap.size = w.heap.size + 8 := by
  have bx : ∀ {W : World} {k : Nat} {x : Value} {t : TypeId}, W.heap[k]? = some (.cells #[x] t (0, 0)) → W.cell? ⟨k, 0, none⟩ = some x := fun h => (box1 h).1
  exact ⟨⟨up (up (up (up (up (up (up (newk (by simp)))))))), up (up (up (up (up (up (newk (by simp))))))), up (up (up (up (up (newk (by simp)))))), up (up (up (up (newk (by simp))))), up (up (up (newk (by simp)))), OS.zero _ _, w8_bel w b fr tO⟩, bx (up (up (newk (by simp)))), bx (up (newk (by simp))), bx (newk (by simp)), by simp⟩
/-- A snapshot that may be merged and copied. -/
def Fit1 (s : Sn) : Prop := SnW s ∧ s.vs.length ≤ 1048576 ∧ ∀ x ∈ s.vs, x.d.labels.length ≤ 1048576 ∧ x.cs.length ≤ 1048576
set_option maxRecDepth 100000 in
set_option maxHeartbeats 8000000 in
theorem window_any (B b n k : Nat) (T : List Int) (R : List Rs) (tv sv : Value) (fr tO : Int) (w : World) (hg : Rg B b n T R k tv sv w) (hBw : B ≤ w.heap.size) (hF : ∀ r ∈ R, Fit1 r.1) (hS : ∀ j, 1 ≤ j → j ≤ (wL T R k fr tO).length → OkTo (wL T R k fr tO) j → SnW (wst (wL T R k fr tO) j).1) :
    Calls Tryz.prog 8 #[.pointer (some ⟨b, 0, none⟩), .int .i64 fr, .int .i64 tO] w fun e w' => WnQ w (wL T R k fr tO) e w' := by
  obtain ⟨tg, tc, sg, sc, ta, sa, rfl, rfl, hRw⟩ := hg.rw
  refine (callsIn_wide (n := 9)).1 ?_
  have HB : Hid (∀ W, _) := between_in 8 b fr tO
  refine callsIn_of_wp_marks Tryz.func8 rfl trivial ?_ rfl
  simp only [Tryz.ntmps8, List.size_toArray, List.length_cons, List.length_nil, Nat.reduceAdd, Nat.reduceSub, Array.replicate_succ, Array.replicate_zero, List.push_toArray, List.append_toArray, List.nil_append, List.cons_append]
  gi_wp2_with (refine ⟨trivial, ?_⟩; gi_at_call 16; refine (HB.out _).mono ?_; rintro e w' ⟨rfl, rfl⟩)
  simp only [Nat.add_assoc, Nat.reduceAdd]
  obtain ⟨h0, c5, c6, c7, hs8⟩ := w8_new w b fr tO
  have HL : Hid (∀ j, j < (wL T R k fr tO).length → (wL T R k fr tO).getD j dR ∈ R) := fun j hj => wL_mem hj
  have HRg := hid_of hg
  have hb8 := w8_bel w b fr tO
  have hlen : (wL T R k fr tO).length ≤ 256 := Nat.le_trans (wL_len T R k fr tO) (Nat.le_trans hg.hn hg.hm)
  obtain ⟨W0, hW0⟩ : ∃ W0, W8 w b fr tO = W0 := ⟨_, rfl⟩
  rw [hW0] at h0 c5 c6 c7 hs8 hb8
  unfold W8 at hW0
  rw [hW0]
  clear hW0
  generalize hLL : wL T R k fr tO = L at *
  refine wpIn_rangeFunc_seqX (gf := 27) (lb := #[.pointer (some ⟨w.heap.size + 5, 0, none⟩), .pointer (some ⟨w.heap.size + 6, 0, none⟩), .pointer (some ⟨w.heap.size + 7, 0, none⟩)]) (n0 := w.heap.size) (B := w.heap.size + 5) (N := L.length) (encs := fun j => #[sx (L.getD j dR)]) rfl (enters_of Tryz.func27 (by kernel_rfl) rfl) (by omega)
    (by
      have := between_seq (9 - 1) (w.heap.size + 5) (w.heap.size + 6) (w.heap.size + 7) w.heap.size (w.heap.size + 5) b k tg tc sg sc T R ta sa fr tO W0 c5 c6 c7 (by omega) (by omega) (by omega) (by omega) (fun W hb => hRw.below (hb8.trans hb))
      unfold encB at this
      rw [hLL] at this
      exact this) (fun _ => rfl)
    (fun j W => ∃ v, Hid (OkTo L j ∧ Ww w (wst L j).1 v j W)) (fun c j W => c = .ret ∧ ∃ i, Hid (i < L.length ∧ OkTo L i ∧ (wst L (i + 1)).2 ≠ 0 ∧ Wx w (wst L (i + 1)).2 W))
    (fun j A A' h hb => h.imp fun v q => ⟨q.out.1, q.out.2.tn hb (by omega)⟩) (fun c j A A' h hb => ⟨h.1, h.2.imp fun i q => ⟨q.out.1, q.out.2.1, q.out.2.2.1, q.out.2.2.2.tn hb (by omega)⟩⟩) ⟨_, (fun i hi => by rw [Nat.le_zero.1 hi]; rfl), h0⟩ ?round ?done ?stop
  case round =>
    rintro l' j W1 hj hl1 hl2 -
    clear c5 c6 c7 h0 hRw HB
    have hmem := HL.out j hj
    obtain ⟨hFw, hFl, hFx⟩ := hF _ hmem
    obtain ⟨ra, rc, hrs⟩ := (HRg.out.el _ hmem).form
    have HE : Hid (∀ W, Below w.heap.size w W → SnAt W (L.getD j dR).1 (sx (L.getD j dR))) := fun W hb => ((HRg.out.el _ hmem).at_ hBw).below hb
    have HO1 : Hid (j = 0 → wst L (j + 1) = ((L.getD j dR).1, 0)) := fun e => by subst e; rfl
    have HO2 : Hid (j ≠ 0 → wst L (j + 1) = mgS (wst L j).1 (L.getD j dR).1) := fun e => by
      obtain ⟨i, rfl⟩ : ∃ i, j = i + 1 := ⟨j - 1, by omega⟩
      rfl
    have HSj : Hid (j ≠ 0 → OkTo L j → SnW (wst L j).1) := fun e h => hS j (by omega) (by omega) h
    generalize L.getD j dR = r at *
    obtain ⟨rs, rv⟩ := r
    dsimp only at hrs
    subst hrs
    gi_wp2
    refine ⟨(Below.refl _ _).alloc (Nat.le_refl _) _, ?_⟩
    rintro W2 v HI hs2 hot
    have hnb := (hot W1.heap.size (by omega)).trans (World.alloc_heap_new W1 _)
    obtain ⟨v0, v1, v2, -, -, -⟩ := three_cells hnb
    have HXb := hid_of hnb
    have HZ : Hid (w.heap.size + 8 ≤ W1.heap.size) := by unfold Hid; omega
    obtain ⟨c4, f4⟩ := box1 HI.out.2.g4
    obtain ⟨vo, vc, hvs⟩ := HI.out.2.os.form
    dsimp only at hvs
    subst hvs
    obtain ⟨d0, d1, d2, e0, e1, e2⟩ := three_cells HI.out.2.g3
    obtain ⟨q, hqj⟩ : ∃ q : Nat, q = j + 1 := ⟨_, rfl⟩
    have HN := hid_of (HI.out.2.num q)
    have HM0 : Hid (Mid w.heap.size (w.heap.size + 5) W2 (W2.setCell ⟨w.heap.size + 4, 0, none⟩ (.int .i64 (q : Int)))) := (Mid.refl _ _ _).setCell (p := ⟨w.heap.size + 4, 0, none⟩) (.inl ⟨by show w.heap.size ≤ w.heap.size + 4; omega, by show w.heap.size + 4 < _; omega⟩) _
    have HX3 : Hid ((W2.setCell ⟨w.heap.size + 4, 0, none⟩ (.int .i64 (q : Int))).heap[W1.heap.size]? = some (.cells #[.int .i64 rs.p, .slice ra rs.vs.length rc, .int .u64 (rs.r : Int)] 31 (0, 0))) := by
      unfold Hid
      rw [heap_other _ _ _ _ (by show _ ≠ w.heap.size + 4; omega)]
      exact hnb
    clear hnb hot hs2 HRg hmem
    gi_upto_region 5 with fail
    rw [show ((j : Int) + 1) = (q : Int) by omega]
    generalize W2.setCell ⟨w.heap.size + 4, 0, none⟩ (.int .i64 (q : Int)) = W3 at *
    obtain ⟨c4', f4'⟩ := box1 HN.out.g4
    obtain ⟨d0', d1', d2', e0', e1', e2'⟩ := three_cells HN.out.g3
    obtain ⟨x0, x1, x2, -, -, -⟩ := three_cells HX3.out
    clear c4 f4 d0 d1 d2 e0 e1 e2 v0 v1 v2
    have HOk := hid_of HI.out.1
    have HS2 : Hid (W2.heap.size ≤ W3.heap.size) := HM0.out.size
    by_cases hj0 : j = 0
    · have hq : q = 1 := by omega
      have HQJ := hid_of hqj
      clear hqj
      subst hq
      have HC : Hid (CallsIn (Fence.wide.inRound l') 6 Tryz.prog 15 #[.agg #[.int .i64 rs.p, .slice ra rs.vs.length rc, .int .u64 (rs.r : Int)]] W3 fun e w' => CyQ W3 rs e w') := CallsIn.inRound l' (callsIn_wide.2 (rcopied_any rs _ W3 (HE.out W3 HN.out.bl) hFl hFx))
      gi_wp2_with (refine ⟨trivial, ?_⟩; gi_at_call 15; refine HC.out.mono ?_; rintro e w4 ⟨u, J, rfl, hb4, hj4, hJm⟩; obtain ⟨ua, ug, uc, rfl, -⟩ := own_slice hj4.g.own; have HW4 := hid_of (HN.out.below hb4); obtain ⟨y0, y1, y2, z0, z1, z2⟩ := three_cells HW4.out.g3)
      rw [put3_eq]
      have HP := HN.out.put hb4 (OS.of (r := (rs, .slice ua J.length uc)) hj4 hJm)
      refine ⟨mid_put3 (HM0.out.below hb4) (by omega) (by omega) _ _ _, .slice ua J.length uc, ?_, ?_⟩
      · intro i hi
        rcases Nat.lt_or_ge i (j + 1) with q | q
        · exact HOk.out i (by omega)
        · have : i = j + 1 := by omega
          rw [this, HO1.out hj0]
      · rw [HO1.out hj0, ← HQJ.out]
        exact HP
    · have hq : ¬ (q : Int) = 1 := by omega
      have HQJ := hid_of hqj
      have hSj := HSj.out hj0 HOk.out
      have HOe := hid_of (HO2.out hj0)
      have hA5 := HN.out.size
      have HC : Hid (CallsIn (Fence.wide.inRound l') 6 Tryz.prog 17 #[.agg #[.int .i64 (wst L j).1.p, .slice vo (wst L j).1.vs.length vc, .int .u64 ((wst L j).1.r : Int)], .agg #[.int .i64 rs.p, .slice ra rs.vs.length rc, .int .u64 (rs.r : Int)]] W3 fun e w' => MgQ W3 (wst L j).1 rs e w') := CallsIn.inRound l' (callsIn_wide.2 (merge_any (wst L j).1 rs _ _ hSj hFw W3 (HN.out.os.at_ hA5) (HE.out W3 HN.out.bl)))
      clear hqj HO1 HO2 HSj hSj
      generalize (wst L j).1 = sj at *
      gi_upto_region 8 with (refine ⟨trivial, ?_⟩; gi_at_call 17; refine HC.out.mono ?_; rintro e w4 ⟨u, J, rfl, hb4, hj4, hJm⟩; obtain ⟨ua, ug, uc, rfl, -⟩ := own_slice hj4.g.own)
      have hO4 := OS.of (r := ((mgS sj rs).1, .slice ua J.length uc)) hj4 hJm
      generalize hMM : mgS sj rs = M at *
      have hb5 := bt hb4 (bel1 w4 (.cells #[.int .i64 M.1.p, .slice ua J.length uc, .int .u64 (M.1.r : Int)] 31))
      have hO5 := hO4.below (bel1 w4 (.cells #[.int .i64 M.1.p, .slice ua J.length uc, .int .u64 (M.1.r : Int)] 31))
      have hn5 := new_1 w4 (.cells #[.int .i64 M.1.p, .slice ua J.length uc, .int .u64 (M.1.r : Int)] 31)
      generalize w4.alloc (.cells #[.int .i64 M.1.p, .slice ua J.length uc, .int .u64 (M.1.r : Int)] 31) = W5 at *
      have HW5 := hid_of (HN.out.below hb5)
      have HB5 := hid_of hb5
      have HO5 := hid_of hO5
      obtain ⟨t0, t1, t2, -, -, -⟩ := three_cells hn5
      clear hn5 hO5 hO4 hb5 hj4 hJm HC hMM c4' f4' d0' d1' d2' e0' e1' e2' x0 x1 x2 hb4
      by_cases he : M.2 = 0
      · obtain ⟨y0, y1, y2, z0, z1, z2⟩ := three_cells HW5.out.g3
        gi_wp2
        rw [put3_eq]
        have HP := HN.out.put HB5.out HO5.out
        refine ⟨mid_put3 (HM0.out.below HB5.out) (by omega) (by omega) _ _ _, .slice ua J.length uc, ?_, ?_⟩
        · intro i hi
          rcases Nat.lt_or_ge i (j + 1) with q' | q'
          · exact HOk.out i (by omega)
          · have : i = j + 1 := by omega
            rw [this, HOe.out]
            exact he
        · rw [HOe.out, ← HQJ.out]
          exact HP
      · obtain ⟨y0, y1, y2, z0, z1, z2⟩ := three_cells HW5.out.g0
        obtain ⟨s1, s2⟩ := box1 HW5.out.g1
        obtain ⟨s3, s4⟩ := box1 HW5.out.g2
        gi_wp2
        rw [put3_eq]
        refine ⟨((mid_put3 (HM0.out.below HB5.out) (by omega) (by omega) _ _ _).setCell (p := ⟨w.heap.size + 1, 0, none⟩) (.inl ⟨by show w.heap.size ≤ w.heap.size + 1; omega, by show w.heap.size + 1 < _; omega⟩) _).setCell (p := ⟨w.heap.size + 2, 0, none⟩) (.inl ⟨by show w.heap.size ≤ w.heap.size + 2; omega, by show w.heap.size + 2 < _; omega⟩) _, rfl, j, hj, HOk.out, by rw [HOe.out]; exact he, ?_⟩
        rw [HOe.out]
        exact Wx.of HW5.out M.2
  case done =>
    rintro D W hD ⟨v, HI⟩ hK
    obtain ⟨vo, vc, hvs⟩ := HI.out.2.os.form
    dsimp only at hvs
    subst hvs
    obtain ⟨c4, f4⟩ := box1 HI.out.2.g4
    obtain ⟨y0, y1, y2, z0, z1, z2⟩ := three_cells HI.out.2.g0
    obtain ⟨s1, s2⟩ := box1 HI.out.2.g1
    obtain ⟨s3, s4⟩ := box1 HI.out.2.g2
    have HK := hid_of hK
    rcases Nat.eq_zero_or_pos L.length with hz | hz
    · have hLn : L = [] := List.length_eq_zero_iff.1 hz
      rw [hz] at c4
      have hX := Wx.of HI.out.2 16
      have hK2 := (put5_other W (by omega : w.heap.size + 3 ≤ D) (.int .i64 0) (.slice none 0 0) (.int .u64 0) (.int .i64 0) (.int .i64 16)).trans hK
      have HX := hid_of (hX.tn (Tn.putD (B := w.heap.size) hK2 (by omega) (.deferred none)) (Nat.le_refl _))
      clear hX
      gi_wp2
      rw [put3_eq]
      generalize ((put3 W w.heap.size (.int .i64 0) (.slice none 0 0) (.int .u64 0)).setCell ⟨w.heap.size + 1, 0, none⟩ (.int .i64 0)).setCell ⟨w.heap.size + 2, 0, none⟩ (.int .i64 16) = W2 at *
      refine ⟨by simp, .inl ⟨_, _, rfl, run_takeDeferred hK2, ?_⟩⟩
      generalize W2.putObj D (.deferred none) = W' at *
      clear y0 y1 y2 z0 z1 z2 s1 s2 s3 s4
      obtain ⟨y0, y1, y2, -, -, -⟩ := three_cells HX.out.g0
      obtain ⟨s1, -⟩ := box1 HX.out.g1
      obtain ⟨s3, -⟩ := box1 HX.out.g2
      rw [hLL]
      exact ⟨.tuple #[zAgg, .int .i64 0, .int .i64 16], by simp [results, Tryz.results8, go_sem, y0, y1, y2, s1, s3], HX.out.bl, .inl ⟨hLn, rfl⟩⟩
    · obtain ⟨d0, d1, d2, e0, e1, e2⟩ := three_cells HI.out.2.g3
      have hN0 : ¬ (L.length : Int) = 0 := by omega
      have hmo : Tryz.prog.follows .mixedOrders = true := by kernel_rfl
      gi_upto_region 13 with fail
      gi_region_with_o (fail)
      all_goals
        have hX := Wn.of HI.out.2 (L.length : Int)
        have hK2 : (((put3 W w.heap.size (.int .i64 (wst L L.length).1.p) (.slice vo (wst L L.length).1.vs.length vc) (.int .u64 ((wst L L.length).1.r : Int))).setCell ⟨w.heap.size + 1, 0, none⟩ (.int .i64 (L.length : Int))).setCell ⟨w.heap.size + 2, 0, none⟩ (.int .i64 0)).drew.heap[D]? = _ := (put5_other W (by omega : w.heap.size + 3 ≤ D) _ _ _ _ _).trans hK
        have HX := hid_of (hX.tn (Tn.putD (B := w.heap.size) hK2 (by omega) (.deferred none)) (Nat.le_refl _))
        clear hX
        gi_wp2
        rw [put3_eq]
        generalize (((put3 W w.heap.size (.int .i64 (wst L L.length).1.p) (.slice vo (wst L L.length).1.vs.length vc) (.int .u64 ((wst L L.length).1.r : Int))).setCell ⟨w.heap.size + 1, 0, none⟩ (.int .i64 (L.length : Int))).setCell ⟨w.heap.size + 2, 0, none⟩ (.int .i64 0)).drew = W2 at *
        refine ⟨by simp, .inl ⟨_, _, rfl, run_takeDeferred hK2, ?_⟩⟩
        generalize W2.putObj D (.deferred none) = W' at *
        clear y0 y1 y2 z0 z1 z2 s1 s2 s3 s4
        obtain ⟨y0, y1, y2, -, -, -⟩ := three_cells HX.out.g0
        obtain ⟨s1, -⟩ := box1 HX.out.g1
        obtain ⟨s3, -⟩ := box1 HX.out.g2
        rw [hLL]
        exact ⟨.tuple #[sx ((wst L L.length).1, .slice vo (wst L L.length).1.vs.length vc), .int .i64 (L.length : Int), .int .i64 0], by simp [results, Tryz.results8, go_sem, y0, y1, y2, s1, s3], HX.out.bl, .inr (.inl ⟨(fun e => by rw [e] at hz; simp at hz), HI.out.1, _, rfl, HX.out.os.le (by omega)⟩)⟩
  case stop =>
    rintro D c j W hD hjN ⟨rfl, i, HI⟩ hK
    obtain ⟨hi, hok, hne, hX⟩ := HI.out
    obtain ⟨y0, y1, y2, z0, z1, z2⟩ := three_cells hX.g0
    obtain ⟨s1, s2⟩ := box1 hX.g1
    obtain ⟨s3, s4⟩ := box1 hX.g2
    gi_wp2
    have HX := hid_of (hX.tn (Tn.putD (B := w.heap.size) hK (by omega) (.deferred none)) (Nat.le_refl _))
    refine ⟨by simp, .inl ⟨_, _, rfl, run_takeDeferred hK, ?_⟩⟩
    generalize W.putObj D (.deferred none) = W' at *
    clear y0 y1 y2 z0 z1 z2 s1 s2 s3 s4
    obtain ⟨y0, y1, y2, -, -, -⟩ := three_cells HX.out.g0
    obtain ⟨s1, -⟩ := box1 HX.out.g1
    obtain ⟨s3, -⟩ := box1 HX.out.g2
    rw [hLL]
    exact ⟨.tuple #[zAgg, .int .i64 0, .int .i64 (wst L (i + 1)).2], by simp [results, Tryz.results8, go_sem, y0, y1, y2, s1, s3], HX.out.bl, .inr (.inr ⟨i, hi, hok, hne, rfl⟩)⟩
end Go.Proofs.YtgkdggcpplmnaaaGreat.Ri
