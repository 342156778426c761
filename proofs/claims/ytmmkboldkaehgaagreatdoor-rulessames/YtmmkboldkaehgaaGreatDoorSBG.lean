/- RULES: Print; Eval of a number. Own work of the verifier. -/
import Derived.Test.YtmmkboldkaehgaaGreatDoorSBE
namespace Go.Proofs.YtmmkboldkaehgaaGreatDoor.Ru
open Go.RowKit Go.Sort Me

theorem own_len {W : World} {B n : Nat} {v : Value} {xs : List Value} (h : W.ownsRowF B 5 1 v n xs) : ∃ ao cap, v = .slice ao n cap := by
  obtain ⟨-, h⟩ := h
  rcases h with ⟨rfl, rfl⟩ | ⟨g, cap, cur, fz, rfl, -⟩
  · exact ⟨_, _, rfl⟩
  · exact ⟨_, _, rfl⟩
theorem bs_buf {B k : Nat} {w0 W : World} {l : List UInt8} (h : La.BS B k w0 l W) : ∃ ao cap, W.cell? ⟨k, 1, none⟩ = some (.slice ao l.length cap) := by
  have key : ∀ p, Lib.BuilderAtF 58 5 B k p (Lib.byteCells l) W → ∃ ao cap, W.cell? ⟨k, 1, none⟩ = some (.slice ao l.length cap) := fun p h => by
    obtain ⟨-, v, hv, hown, -⟩ := h
    rw [Lib.byteCells_length] at hown
    obtain ⟨ao, cap, rfl⟩ := own_len hown
    exact ⟨ao, cap, by simp [World.cell?, hv]⟩
  exact h.ib.elim (key _) (key _)
set_option maxHeartbeats 1000000 in
theorem blen_any {B k : Nat} {w0 W : World} {l : List UInt8} (h : La.BS B k w0 l W) :
    Calls Tryz.prog 23 #[.pointer (some ⟨k, 0, none⟩)] W fun e w' => e = .returned (.int .i64 (l.length : Int)) ∧ w' = W := by
  obtain ⟨ao, cap, hc⟩ := bs_buf h
  clear h
  go_enter Tryz.func23, Tryz.ntmps23
  go_wp2_with fail
  go_ret
  exact ⟨rfl, rfl⟩
/-- What Print tells. -/
def PnQ (t : RT) (e : Ending) : Prop :=
  (ckE t ≠ 0 ∧ e = .returned (.tuple #[.string ⟨#[]⟩, .int .i64 (ckE t)])) ∨
  (ckE t = 0 ∧ 65536 < (wrT t).length ∧ e = .returned (.tuple #[.string ⟨#[]⟩, .int .i64 4])) ∨
  (ckE t = 0 ∧ (wrT t).length ≤ 65536 ∧ e = .returned (.tuple #[.string ⟨(wrT t).toArray⟩, .int .i64 0]))
set_option maxHeartbeats 2000000 in
set_option maxRecDepth 100000 in
/-- PRINT OF ANY RULE. -/
theorem rprint_any (t : RT) (v : Value) (w : World) (hv : RV 0 w t v) (hz : ∀ s ∈ nds t, szN s ∧ szI s) (hT : ckE t = 0 → (wrT t).length ≤ 140737488355328) (he : Env w) :
    Calls Tryz.prog 10 #[v] w fun e w' => PnQ t e ∧ Below w.heap.size w w' := by
  have HC : Hid (∀ W, Below w.heap.size w W → Calls Tryz.prog 21 #[v] W fun e w' => e = .returned (.int .i64 (ckE t)) ∧ Below W.heap.size W w') := fun W hb => check_any t v W (hv.below hb) (fun s hs => (hz s hs).1) (he.kd.below hb)
  have HWr : Hid (ckE t = 0 → ∀ W, Below w.heap.size w W → Calls Tryz.prog 22 #[.pointer (some ⟨W.heap.size, 0, none⟩), v] (W.alloc (.cells #[.pointer none, .slice none 0 0] 58)) fun e w' => e = .returned (.tuple #[]) ∧ La.BS W.heap.size W.heap.size W (wrT t) w') := fun h0 W hb => by
    have hc : chkE t = 0 := by
      unfold ckE at h0
      by_cases q : chkE t ≠ 0
      · rw [if_pos q] at h0; exact absurd h0 q
      · exact Classical.not_not.1 q
    have := write_any W (he.below hb) W.heap.size t v W (W.alloc (.cells #[.pointer none, .slice none 0 0] 58)) [] (hv.below hb) (fun s hs => ⟨chkE_zero hc s hs, (hz s hs).1, (hz s hs).2⟩) (bel1 _ _) (La.BS.new W) (by simpa using hT h0)
    simpa using this
  obtain ⟨k, x, nm, la, ln, lc, wi, n, d, aa, an, ac, rfl⟩ := hv.form
  have HQ1 : Hid (ckE t ≠ 0 → PnQ t (.returned (.tuple #[.string ⟨#[]⟩, .int .i64 (ckE t)]))) := fun h => Or.inl ⟨h, rfl⟩
  have HQ2 : Hid (ckE t = 0 → 65536 < (wrT t).length → PnQ t (.returned (.tuple #[.string ⟨#[]⟩, .int .i64 4]))) := fun h g => Or.inr (Or.inl ⟨h, g, rfl⟩)
  have HQ3 : Hid (ckE t = 0 → (wrT t).length ≤ 65536 → PnQ t (.returned (.tuple #[.string ⟨(wrT t).toArray⟩, .int .i64 0]))) := fun h g => Or.inr (Or.inr ⟨h, g, rfl⟩)
  clear hv hz he hT
  generalize wrT t = T at *
  generalize ckE t = z at *
  generalize PnQ t = Q at *
  go_enter Tryz.func10, Tryz.ntmps10
  have hb0 := bel1 w (.cells (rc k x nm (.slice la ln lc) wi n d (.slice aa an ac)) 26)
  have hn0 := new_1 w (.cells (rc k x nm (.slice la ln lc) wi n d (.slice aa an ac)) 26)
  go_wp2_with fail
  refine Calls.mono (HC.out _ hb0) ?_
  rintro e w1 ⟨rfl, hb1⟩
  have hn1 := (hb1.block w.heap.size (by simp)).trans hn0
  have HB1 := hid_of (bt hb0 hb1)
  obtain ⟨y0, y1, y2, y3, y4, y5, y6, y7⟩ := eight hn1
  clear hb0 hn0 hb1 HC
  by_cases hz : z = 0
  · have HWr0 := hid_of (HWr.out hz w1 HB1.out)
    have HQ2' := hid_of (HQ2.out hz)
    have HQ3' := hid_of (HQ3.out hz)
    subst hz
    clear HWr HQ1 HQ2 HQ3
    have hn2 := ((bel1 w1 (.cells #[.pointer none, .slice none 0 0] 58)).block w.heap.size (Array.getElem?_eq_some_iff.1 hn1).1).trans hn1
    clear y0 y1 y2 y3 y4 y5 y6 y7 hn1
    obtain ⟨y0, y1, y2, y3, y4, y5, y6, y7⟩ := eight hn2
    clear hn2
    go_wp2_with fail
    refine Calls.mono HWr0.out ?_
    rintro e w2 ⟨rfl, hs2⟩
    have HS2 := hid_of hs2
    have D : La.HidC _ _ _ _ _ := blen_any hs2
    have HB2 : Hid (Below w.heap.size w w2) := HB1.out.trans (hs2.bl.mono (by have := HB1.out.size; omega))
    clear HWr0 hs2 y0 y1 y2 y3 y4 y5 y6 y7
    go_wp2_with fail
    refine Calls.mono D.out ?_
    rintro e w3 ⟨rfl, rfl⟩
    by_cases hl : T.length ≤ 65536
    · have hl' : ¬ (65536 : Int) < (T.length : Int) := by omega
      have D2 : La.HidC _ _ _ _ _ := La.bstr_any HS2.out
      have HE := hid_of (HQ3'.out hl)
      have HSz := hid_of HS2.out.sz
      have HB1' := hid_of HB1.out.size
      clear D HQ2' HQ3' hl HS2
      go_wp2_with fail
      refine Calls.mono D2.out ?_
      rintro e w4 ⟨rfl, hs4⟩
      have HB4 : Hid (Below w.heap.size w w4) := HB1.out.trans (hs4.bl.mono HB1'.out)
      clear D2 hs4
      go_wp2_with fail
      go_ret2
      exact ⟨HE.out, HB4.out⟩
    · have hl' : (65536 : Int) < (T.length : Int) := by omega
      have HE := hid_of (HQ2'.out (by omega))
      clear D HQ2' HQ3' hl HS2
      go_wp2_with fail
      go_ret2
      exact ⟨HE.out, HB2.out⟩
  · have hz' : (z == 0) = false := beq_eq_false_iff_ne.2 hz
    have HN0 := hid_of (HQ1.out hz)
    clear HWr HQ1 HQ2 HQ3
    go_wp2_with fail
    go_ret2
    exact ⟨HN0.out, HB1.out⟩
def put3 (W : World) (g : Nat) (a0 a1 a2 : Value) : World := ((W.setCell ⟨g, 0, none⟩ a0).setCell ⟨g, 1, none⟩ a1).setCell ⟨g, 2, none⟩ a2
theorem put3_heap {W : World} {g : Nat} {z0 z1 z2 : Value} {t : TypeId} (h : W.heap[g]? = some (.cells #[z0, z1, z2] t)) (a0 a1 a2 : Value) : (put3 W g a0 a1 a2).heap[g]? = some (.cells #[a0, a1, a2] t) := by
  have h0 := Lib.heap_setCell_same (i := 0) h a0
  have h1 := Lib.heap_setCell_same (i := 1) h0 a1
  have h2 := Lib.heap_setCell_same (i := 2) h1 a2
  unfold put3
  rw [h2]
  simp
theorem put3_bel {w W : World} {g : Nat} (h : Below w.heap.size w W) (hg : w.heap.size ≤ g) (a0 a1 a2 : Value) : Below w.heap.size w (put3 W g a0 a1 a2) :=
  ((h.setCell (p := ⟨g, 0, none⟩) hg _).setCell (p := ⟨g, 1, none⟩) hg _).setCell (p := ⟨g, 2, none⟩) hg _
theorem three {W : World} {g : Nat} {x y z : Value} {t : TypeId} (h : W.heap[g]? = some (.cells #[x, y, z] t)) : (W.cell? ⟨g, 0, none⟩ = some x ∧ W.cell? ⟨g, 1, none⟩ = some y ∧ W.cell? ⟨g, 2, none⟩ = some z) ∧ ∀ i, W.frozen? ⟨g, i, none⟩ = false := by
  refine ⟨⟨?_, ?_, ?_⟩, fun i => ?_⟩ <;> simp [World.cell?, World.frozen?, h]
theorem results_ct {P : Program} {fn : Func} {p a : Tmp} {ty : TypeId} (h : fn.results = #[.cell p ty, .tmp a]) (tmps : Array Value) (w : World) (g : Nat) (t : TypeId) (cs : Array Value) (fr : Nat × Nat) (d : TypeDesc)
    (hp : tmps.getD p undef = .pointer (some ⟨g, 0, none⟩)) (hg : w.heap[g]? = some (.cells cs t fr))
    (hu : P.underlying ty = some d) (hd : (match d with | .struct _ | .array _ _ => true | _ => false) = true) (hi : (P.info? ty).map (·.size) = some cs.size) :
    (results fn tmps).run P w = .ok (.tuple #[.agg cs, tmps.getD a undef]) w := by
  have hp' : tmps[p]?.getD undef = .pointer (some ⟨g, 0, none⟩) := by simpa using hp
  simp [results, h, hp', asAddr, run_loadVar_row w g t ty cs fr d hg hu hd hi, Result.andThen]
set_option maxHeartbeats 1000000 in
theorem num_any (x : Nat) (W : World) : Calls Tryz.prog 230 #[.float .f64 x] W fun e w' => e = .returned (.agg #[.bool false, .bool false, .float .f64 x]) ∧ Below W.heap.size W w' := by
  have sF := store_f
  go_enter Tryz.func230, Tryz.ntmps230
  go_wp2_with fail
  refine bodyPost_ret (results_cell_row (P := Tryz.prog) rfl _ _ W.heap.size 42 _ (0, 0) _ rfl (new_1 W _) Tryz.underlying42 rfl (by kernel_rfl)) rfl ?_
  exact ⟨rfl, bel1 _ _⟩
set_option maxHeartbeats 1000000 in
theorem work_const (x : Nat) (p : Option Addr) (z : Int) (w : World) : Calls Tryz.prog 229 #[.float .f64 x, .agg #[.pointer p, .int .i64 z]] w fun e w' => e = .returned (.tuple #[.agg #[.bool false, .bool false, .float .f64 x], .int .i64 0]) ∧ Below w.heap.size w w' := by
  have sF := store_f
  have HN : Hid (∀ W : World, Calls Tryz.prog 230 #[.float .f64 x] W fun e w' => e = .returned (.agg #[.bool false, .bool false, .float .f64 x]) ∧ Below W.heap.size W w') := fun W => num_any x W
  obtain ⟨W0, hW0⟩ : ∃ W0, W0 = (w.alloc (.cells #[.pointer p, .int .i64 z] 73)).alloc (.cells #[.bool false, .bool false, .float .f64 0] 42) := ⟨_, rfl⟩
  have hb0 : Below w.heap.size w W0 := by rw [hW0]; exact La.bel2 w _ _
  have hn0 : W0.heap[w.heap.size + 1]? = some (.cells #[.bool false, .bool false, .float .f64 0] 42) := by
    rw [hW0]
    have := new_1 (w.alloc (.cells #[.pointer p, .int .i64 z] 73)) (.cells #[.bool false, .bool false, .float .f64 0] 42)
    simpa using this
  have HW0 := hid_of hW0
  clear hW0
  go_enter Tryz.func229, Tryz.ntmps229
  go_upto_region 1 with fail
  rw [← HW0.out]
  go_wp2_with fail
  refine Calls.mono (HN.out W0) ?_
  rintro e w1 ⟨rfl, hb1⟩
  have hn1 := (hb1.block _ (Array.getElem?_eq_some_iff.1 hn0).1).trans hn0
  have hb := bt hb0 hb1
  obtain ⟨⟨z0, z1, z2⟩, zf⟩ := three hn1
  obtain ⟨W9, hW9⟩ : ∃ W9, W9 = put3 w1 (w.heap.size + 1) (.bool false) (.bool false) (.float .f64 x) := ⟨_, rfl⟩
  have HW9 := hid_of hW9
  have HH : Hid (W9.heap[w.heap.size + 1]? = some (.cells #[.bool false, .bool false, .float .f64 x] 42)) := by show _ = _; rw [hW9]; exact put3_heap hn1 _ _ _
  have HB : Hid (Below w.heap.size w W9) := by show Below _ _ _; rw [hW9]; exact put3_bel hb (by omega) _ _ _
  clear hW9 hn1 hb hn0 hb0 hb1 HN HW0
  go_wp2_with fail
  obtain rfl := HW9.out
  refine bodyPost_ret (results_ct rfl _ _ (w.heap.size + 1) 42 _ (0, 0) _ rfl HH.out Tryz.underlying42 rfl (by kernel_rfl)) rfl ?_
  exact ⟨rfl, HB.out⟩
/-- A number, as a rule. -/
abbrev numR (x : Nat) : RT := .mk 1 x [] [] 0 0 0 []
theorem ck_num : ckE (numR 4611686018427387904) = 0 := by decide +kernel
set_option maxHeartbeats 2000000 in
set_option maxRecDepth 100000 in
theorem eval_two (r : Value) (hr : ∃ p, r = .pointer p) (w : World) (h : Kd w) :
    Calls Tryz.prog 13 #[r, .int .i64 0, rx 1 4611686018427387904 [] (.slice none 0 0) 0 0 0 (.slice none 0 0)] w fun e w' => e = .returned (.tuple #[.agg #[.bool false, .bool false, .float .f64 4611686018427387904], .int .i64 0]) ∧ Below w.heap.size w w' := by
  obtain ⟨p, rfl⟩ := hr
  have sF := store_f
  have HM : Hid (∀ W, Below w.heap.size w W → Calls Tryz.prog 25 #[rx 1 4611686018427387904 [] (.slice none 0 0) 0 0 0 (.slice none 0 0)] W fun e w' => e = .returned (.tuple #[.iface 107 (.float .f64 4611686018427387904), .int .i64 0]) ∧ Below W.heap.size W w') := fun W hb => (made_any (numR 4611686018427387904) _ W (RV.num 0 W _) (fun s hs => by
      have : s = numR 4611686018427387904 := by simpa [nds, ndsL] using hs
      subst this
      exact ⟨by decide, by decide, by decide, fun a ha => by cases ha⟩) (h.below hb)).mono (by
    rintro e w1 ⟨⟨hk, q, h1, h2⟩ | ⟨hk, h1⟩, hb1⟩
    · obtain rfl := h2 (by decide)
      exact ⟨h1, hb1⟩
    · exact absurd ck_num hk)
  have HWk : Hid (∀ W, Calls Tryz.prog 229 #[.float .f64 4611686018427387904, .agg #[.pointer p, .int .i64 0]] W fun e w' => e = .returned (.tuple #[.agg #[.bool false, .bool false, .float .f64 4611686018427387904], .int .i64 0]) ∧ Below W.heap.size W w') := fun W => work_const _ p 0 W
  obtain ⟨W0, hW0⟩ : ∃ W0, W0 = (w.alloc (.cells (rc 1 4611686018427387904 [] (.slice none 0 0) 0 0 0 (.slice none 0 0)) 26)).alloc (.cells #[.bool false, .bool false, .float .f64 0] 42) := ⟨_, rfl⟩
  have hb0 : Below w.heap.size w W0 := by rw [hW0]; exact La.bel2 w _ _
  have hn0 : W0.heap[w.heap.size + 1]? = some (.cells #[.bool false, .bool false, .float .f64 0] 42) := by
    rw [hW0]
    have := new_1 (w.alloc (.cells (rc 1 4611686018427387904 [] (.slice none 0 0) 0 0 0 (.slice none 0 0)) 26)) (.cells #[.bool false, .bool false, .float .f64 0] 42)
    simpa using this
  have hr0 : W0.heap[w.heap.size]? = some (.cells (rc 1 4611686018427387904 [] (.slice none 0 0) 0 0 0 (.slice none 0 0)) 26) := by
    rw [hW0]
    exact ((bel1 _ _).block _ (by simp)).trans (new_1 w _)
  obtain ⟨y0, y1, y2, y3, y4, y5, y6, y7⟩ := eight hr0
  have HW0 := hid_of hW0
  clear hW0 h hr0
  go_enter Tryz.func13, Tryz.ntmps13
  go_upto_region 1 with fail
  rw [← HW0.out]
  go_wp2_with fail
  refine Calls.mono (HM.out W0 hb0) ?_
  rintro e w1 ⟨rfl, hb1⟩
  have hn1 := (hb1.block _ (Array.getElem?_eq_some_iff.1 hn0).1).trans hn0
  have hb := bt hb0 hb1
  have HN1 := hid_of hn1
  have HB1 := hid_of hb
  clear HM hn0 hb0 hb1 hn1 hb HW0 y0 y1 y2 y3 y4 y5 y6 y7
  go_wp2_with fail
  refine Calls.mono (HWk.out _) ?_
  rintro e w2 ⟨rfl, hb2⟩
  have hn2 := (hb2.block _ (Array.getElem?_eq_some_iff.1 HN1.out).1).trans HN1.out
  have hb := bt HB1.out hb2
  obtain ⟨⟨z0, z1, z2⟩, zf⟩ := three hn2
  obtain ⟨W9, hW9⟩ : ∃ W9, W9 = put3 w2 (w.heap.size + 1) (.bool false) (.bool false) (.float .f64 4611686018427387904) := ⟨_, rfl⟩
  have HW9 := hid_of hW9
  have HH : Hid (W9.heap[w.heap.size + 1]? = some (.cells #[.bool false, .bool false, .float .f64 4611686018427387904] 42)) := by show _ = _; rw [hW9]; exact put3_heap hn2 _ _ _
  have HB : Hid (Below w.heap.size w W9) := by show Below _ _ _; rw [hW9]; exact put3_bel hb (by omega) _ _ _
  clear hW9 hn2 hb hb2 HN1 HB1 HWk
  go_wp2_with fail
  obtain rfl := HW9.out
  refine bodyPost_ret (results_ct rfl _ _ (w.heap.size + 1) 42 _ (0, 0) _ rfl HH.out Tryz.underlying42 rfl (by kernel_rfl)) rfl ?_
  exact ⟨rfl, HB.out⟩
end Go.Proofs.YtmmkboldkaehgaaGreatDoor.Ru
