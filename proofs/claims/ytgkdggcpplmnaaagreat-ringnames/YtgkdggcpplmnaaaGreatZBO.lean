/- lay: the walk. Own work of the verifier. -/
import Derived.Test.YtgkdggcpplmnaaaGreatZBI
import Derived.Test.YtgkdggcpplmnaaaGreatZBN
import Derived.Sort.CutIn
namespace Go.Proofs.YtgkdggcpplmnaaaGreat.Ri
open Go.RowKit Me

theorem flS_one (r : Rs) (hr : ∃ a n c, r.2 = Value.slice a n c) : ∀ u ∈ flS [r], u.oneCell' = true := by
  obtain ⟨a, n, c, e⟩ := hr
  intro u hu
  simp only [flS, List.append_nil, c3, e, List.mem_cons, List.not_mem_nil, or_false] at hu
  rcases hu with rfl | rfl | rfl <;> rfl
/-- append of one snapshot, at a step of a region that draws. -/
theorem step_sn {w : World} {ops : Array Oper} {o : Oper} {a : Act} {K : Act → World → Prop} {Q : Exit → Act → World → Prop} {E : Prop} (hgd : o.guard = none) (s x : Operand)
    (ho : o.op = .call { callee := .builtin .append, args := #[s, x], argTypes := #[48, 48] }) {B : Nat} {v : Value} {R : List Rs} (hs : a.eval s = v) (hG : w.ownsRow B 31 3 v R.length (flS R)) (hB : B ≤ w.heap.size) (hl : R.length ≤ 1048576) (k : Nat) (hx : a.eval x = .slice (some ⟨k, 0, none⟩) 1 1) (r : Rs) (hr : ∃ a n c, r.2 = Value.slice a n c)
    (hk : w.heap[k]? = some (.cells (c3 r).toArray 31 (0, 0)))
    (hh : ∀ g cap w', w'.ownsRow B 31 3 (.slice (some ⟨g, 0, none⟩) (R.length + 1) cap) (R.length + 1) (flS R ++ flS [r]) → w.grownBy w' v.ownBlock → K (a.put o.dst (.slice (some ⟨g, 0, none⟩) (R.length + 1) cap)) w') :
    if Region.wanted o (yielded ops a.tmps) = true then Oper.wp Tryz.prog o a w K Q else E := by
  obtain ⟨i0, hi, hz0, hz1, hz2⟩ := info_parts infoS
  refine step_append_lies w hgd s x _ ho B 31 i0 (.agg #[.int .i64 0, .slice none 0 0, .int .u64 0]) 3 40 Tryz.underlying48 hi hz0 hz1 hz2 rfl (by decide) v R.length (flS R) hs hG ⟨k, 0, none⟩ 1 1 (flS [r]) hx (by rw [flS_length]; rfl) (World.news_of_block (by simpa [flS] using hk)) (flS_one _ hr) (by omega) (by unfold maxLen; omega) (by omega) hB _ rfl ?_
  intro g cap w' h1 h2 h3 h4
  exact hh g cap w' h1 h2
theorem Rh.drew {B b n k : Nat} {T : List Int} {R : List Rs} {tv sv : Value} {W : World} (h : Rh B b n T R k tv sv W) : Rh B b n T R k tv sv W.drew := h.below (drew_bel1 W)
set_option maxRecDepth 100000 in
set_option maxHeartbeats 4000000 in
theorem lay_grow (B b n : Nat) (T : List Int) (R : List Rs) (tv sv : Value) (tm : Int) (s : Sn) (u : Value) (w : World) (hg : Rg B b n T R 0 tv sv w) (hBw : B ≤ w.heap.size) (hlt : R.length < n) (ho : OS B (s, u) w) :
    Calls Tryz.prog 14 #[.pointer (some ⟨b, 0, none⟩), .int .i64 tm, sx (s, u)] w fun e w' => (∃ v, e = .returned v) ∧ ∃ tv' sv', Rg B b n (T ++ [tm]) (R ++ [(s, u)]) 0 tv' sv' w' ∧ Below B w w' := by
  obtain ⟨ua, uc, hu⟩ := ho.form
  dsimp only at hu
  subst hu
  have hl := hg.hl
  have hm := hg.hm
  have hlt' : (R.length : Int) < (n : Int) := by omega
  have HH := hid_of (hg.rh.below (bel1 w (.cells #[.int .i64 s.p, .slice ua s.vs.length uc, .int .u64 (s.r : Int)] 31)))
  have HO := hid_of (ho.below (bel1 w (.cells #[.int .i64 s.p, .slice ua s.vs.length uc, .int .u64 (s.r : Int)] 31)))
  have HX := hid_of (new_1 w (.cells #[.int .i64 s.p, .slice ua s.vs.length uc, .int .u64 (s.r : Int)] 31))
  have HB := hid_of ((bel1 w (.cells #[.int .i64 s.p, .slice ua s.vs.length uc, .int .u64 (s.r : Int)] 31)).mono hBw)
  obtain ⟨ta, tg, tc, e1, h1, -⟩ := own_slice hg.ti
  obtain ⟨sa, sg, sc, e2, h2, -⟩ := own_slice hg.sn
  rw [hl] at e1 h1
  subst e1 e2
  have HK : Hid (B ≤ w.heap.size ∧ b < w.heap.size) := ⟨hBw, hg.lt⟩
  have HRg := hid_of hg
  clear hg ho h1 h2
  go_enter Tryz.func14, Tryz.ntmps14
  go_upto_region 1 with fail
  generalize w.alloc (.cells #[.int .i64 s.p, .slice ua s.vs.length uc, .int .u64 (s.r : Int)] 31) = w1 at *
  obtain ⟨c0, c1, c2, c3, cf⟩ := four_cells HH.out.drew.hd
  have HL : Hid (∀ W, W.cell? ⟨b, 1, none⟩ = some (.slice ta R.length tc) → Calls Tryz.prog 10 #[.pointer (some ⟨b, 0, none⟩)] W fun e w' => e = .returned (.int .i64 (R.length : Int)) ∧ w' = W) := fun W h => len_any b R.length tc _ W h
  go_cut [12] from 6 to 12 (fun x W => x = .bool true ∧ W = w1.drew)
  case first =>
    go_region_with (go_at_call 10; with_reducible refine (HL.out _ c1).mono ?_; rintro e w2 ⟨rfl, rfl⟩)
    all_goals
      go_wp2
      go_meet
      exact ⟨rfl, rfl⟩
  case rest =>
  obtain ⟨rfl, rfl⟩ := hcut
  have HA := hid_of HH.out.drew
  have HOA := hid_of (HO.out.below (drew_bel1 w1))
  have HXA := hid_of (hkN HX.out (drew_bel1 w1))
  have HBA := hid_of HB.out.drew
  have HS1 : Hid (w.heap.size + 1 ≤ w1.drew.heap.size) := (Array.getElem?_eq_some_iff.1 HX.out).1
  generalize w1.drew = wA at *
  clear HH HO HX HB c0 c1 c2 c3 cf HL
  obtain ⟨i0, hi, hz0, hz1, hz2⟩ := info_parts infoT
  have hz0' := hid_of hz0
  have hz1' := hid_of hz1
  have hz2' := hid_of hz2
  clear hz0 hz1 hz2
  obtain ⟨c0, c1, c2, c3, cf⟩ := four_cells HA.out.hd
  have hbl := bel1 wA (.cells #[.int .i64 tm] 2)
  have HG1 := hid_of (HA.out.below hbl)
  have HNw := hid_of (new_1 wA (.cells #[.int .i64 tm] 2))
  have HBl := hid_of hbl
  have HSz : Hid (B ≤ (wA.alloc (.cells #[.int .i64 tm] 2)).heap.size) := by have := HK.out.1; have := HS1.out; have := hbl.size; unfold Hid; omega
  clear hbl
  go_upto_region 2 with fail
  go_cut [] from 13 to 22 (fun W => ∃ v, Hid (Rh B b n (T ++ [tm]) R 0 v (.slice sa R.length sc) W ∧ OS B (s, .slice ua s.vs.length uc) W ∧ W.heap[w.heap.size]? = some (.cells #[.int .i64 s.p, .slice ua s.vs.length uc, .int .u64 (s.r : Int)] 31 (0, 0)) ∧ Below B w W ∧ w.heap.size + 1 ≤ W.heap.size))
  case first =>
    go_wp2_with (at_builtin; refine wpList_append_own _ rfl _ _ 47 rfl B 2 i0 _ 1 8 Tryz.underlying47 hi hz0'.out hz1'.out hz2'.out rfl (by decide) _ T.length (flT T) rfl HG1.out.ti ⟨wA.heap.size, 0, none⟩ 1 1 (flT [tm]) rfl rfl (World.news_of_block HNw.out) (by simp [flT, Value.oneCell']) (by unfold maxLen; omega) (by omega) HSz.out ?_; intro v5 w5 hown5 hg5 _; obtain ⟨a5, b5, n5, rfl, -⟩ := own_slice hown5; obtain ⟨q1, q2, q3⟩ := HG1.out.grow1 hg5; obtain ⟨d0, d1, d2, d3, df⟩ := four_cells q1; have df1 := df 1)
    go_meet
    have hR := HG1.out.time (t := tm) hown5 hg5
    have hx5 : w5.heap[w.heap.size]? = some (.cells #[.int .i64 s.p, .slice ua s.vs.length uc, .int .u64 (s.r : Int)] 31 (0, 0)) := (hg5.block _ (by have := HS1.out; have := HBl.out.size; omega) (fun e => own_notype HG1.out.ti (hkN HXA.out HBl.out) (fun e => ne3 e.symm) e.symm)).trans (hkN HXA.out HBl.out)
    have hos : OS B (s, .slice ua s.vs.length uc) (w5.setCell ⟨b, 1, none⟩ (.slice a5 (T.length + 1) n5)) := (q3 _ (HOA.out.below HBl.out)).chg (chg_set w5 b 1 _) (fun p e => by subst e; exact ⟨_, _, _, q1, tRV⟩)
    have hbB : Below B w w5 := own_grown HG1.out.ti (HBA.out.trans (HBl.out.mono (by have := HK.out.1; have := HS1.out; omega))) HSz.out hg5
    rw [hl] at hR hos
    refine ⟨_, hR, hos, ?_, hbB.setCell (p := ⟨b, 1, none⟩) HRg.out.hB _, ?_⟩
    · rw [heap_other _ _ _ _ (by show _ ≠ b; have := HK.out.2; omega)]
      exact hx5
    · have := (Array.getElem?_eq_some_iff.1 hx5).1
      simp only [World.setCell, Array.size_modify]
      omega
  case rest =>
  obtain ⟨v6, H6⟩ := hcut
  clear HA HOA HXA HBA HG1 HNw HBl HSz c0 c1 c2 c3 cf hi hz0' hz1' hz2' HS1
  go_upto_region 3 with fail
  obtain ⟨e1, e2, e3, e4, e5⟩ := H6.out
  have H7 := hid_of e1.drew
  have HO7 := hid_of (e2.below (drew_bel1 wc))
  have HX7 := hid_of (hkN e3 (drew_bel1 wc))
  have HB7 := hid_of e4.drew
  have HS7 : Hid (w.heap.size + 1 ≤ wc.drew.heap.size) := e5
  obtain ⟨c0, c1, c2, c3, cf⟩ := four_cells H7.out.hd
  obtain ⟨x0, x1, x2, -, -, -⟩ := three_cells HX7.out
  clear e1 e2 e3 e4 e5 H6
  have hbl : Below wc.drew.heap.size wc.drew (wc.alloc (.cells #[.int .i64 s.p, .slice ua s.vs.length uc, .int .u64 (s.r : Int)] 31)).drew := bel1 wc.drew (.cells #[.int .i64 s.p, .slice ua s.vs.length uc, .int .u64 (s.r : Int)] 31)
  have HG8 := hid_of (H7.out.below hbl)
  have HN8 : Hid ((wc.alloc (.cells #[.int .i64 s.p, .slice ua s.vs.length uc, .int .u64 (s.r : Int)] 31)).drew.heap[wc.heap.size]? = some (.cells #[.int .i64 s.p, .slice ua s.vs.length uc, .int .u64 (s.r : Int)] 31 (0, 0))) := new_1 wc.drew (.cells #[.int .i64 s.p, .slice ua s.vs.length uc, .int .u64 (s.r : Int)] 31)
  have HBl := hid_of hbl
  obtain ⟨t0, t1, t2, t3, tf⟩ := four_cells HG8.out.hd
  have HSz : Hid (B ≤ (wc.alloc (.cells #[.int .i64 s.p, .slice ua s.vs.length uc, .int .u64 (s.r : Int)] 31)).drew.heap.size) := by have := HK.out.1; have := HS7.out; have := hbl.size; unfold Hid; omega
  clear hbl
  go_region_law (refine step_sn (by rfl) _ _ (by rfl) (v := .slice sa R.length sc) (by rfl) HG8.out.sn HSz.out (by omega) _ (by rfl) (s, .slice ua s.vs.length uc) ⟨_, _, _, rfl⟩ HN8.out ?_; intro g6 k6 w6 hown hgr; obtain ⟨q1, q2, q3⟩ := HG8.out.grow2 hgr; obtain ⟨d0, d1, d2, d3, df⟩ := four_cells q1; have df2 := df 2)
  all_goals
    have hR := HG8.out.snap (r := (s, .slice ua s.vs.length uc)) (HO7.out.below HBl.out) hown hgr
    have hbB : Below B w w6 := own_grown HG8.out.sn (HB7.out.trans (HBl.out.mono (by have := HK.out.1; have := HS7.out; omega))) HSz.out hgr
    have HQ : Hid (Rg B b n (T ++ [tm]) (R ++ [(s, .slice ua s.vs.length uc)]) 0 v6 (.slice (some ⟨g6, 0, none⟩) (R.length + 1) k6) (w6.setCell ⟨b, 2, none⟩ (.slice (some ⟨g6, 0, none⟩) (R.length + 1) k6)) ∧ Below B w (w6.setCell ⟨b, 2, none⟩ (.slice (some ⟨g6, 0, none⟩) (R.length + 1) k6))) := ⟨⟨hR.hd, hR.ti, hR.sn, hR.el, by simp [hl], by simp; omega, hm, Or.inl rfl, hR.hB⟩, hbB.setCell (p := ⟨b, 2, none⟩) HRg.out.hB _⟩
    clear hR hbB hown hgr q1 q2 q3 d0 d1 d2 d3 df df2 t0 t1 t2 t3 tf c0 c1 c2 c3 cf x0 x1 x2
    generalize w6.setCell ⟨b, 2, none⟩ (.slice (some ⟨g6, 0, none⟩) (R.length + 1) k6) = w7 at *
    go_wp2
    refine bodyPost_ret (results_none rfl _ _ _) rfl ?_
    exact ⟨⟨_, rfl⟩, _, _, HQ.out⟩
end Go.Proofs.YtgkdggcpplmnaaaGreat.Ri
