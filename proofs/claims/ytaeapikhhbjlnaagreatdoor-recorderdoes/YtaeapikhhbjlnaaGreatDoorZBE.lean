/- COUNTS: the document's counts. Own work of the verifier. -/
import Derived.Test.YtaeapikhhbjlnaaGreatDoorZBD
import Derived.Test.YtaeapikhhbjlnaaGreatDoorZBB
import Derived.Deep.RegionHeld3
import Derived.Test.YtaeapikhhbjlnaaGreatDoorZBC
namespace Go.Proofs.YtaeapikhhbjlnaaGreatDoor
open Go.RowKit

/-- A row of counts that is told by its slice. -/
def SK (w : World) (v : Value) (L : List Cn) : Prop := ∃ ao b o cap, v = .slice ao L.length cap ∧ L.length ≤ cap ∧ (L ≠ [] → ao = some ⟨b, o, none⟩) ∧ RowC w b o L
theorem SK.below {w : World} {v : Value} {L : List Cn} {w' : World} (h : SK w v L) (hb : Below w.heap.size w w') : SK w' v L := by
  obtain ⟨ao, b, o, cap, rfl, hc, ha, hr⟩ := h
  exact ⟨ao, b, o, cap, rfl, hc, ha, fun i hi => ⟨(World.cell?_of_block (hb.block b (lt_of_cell (hr i hi).1))).trans (hr i hi).1, (World.cell?_of_block (hb.block b (lt_of_cell (hr i hi).1))).trans (hr i hi).2⟩⟩
theorem SK.head {w : World} {ao : Option Addr} {c : Cn} {L : List Cn} {cap : Nat} (h : SK w (.slice ao (c :: L).length cap) (c :: L)) : ∃ b o, ao = some ⟨b, o, none⟩ ∧ L.length + 1 ≤ cap ∧ w.cell? ⟨b, o, none⟩ = some (.int .i64 c.1) ∧ w.cell? ⟨b, o + 1, none⟩ = some (.int .u64 (c.2 : Int)) ∧ RowC w b (o + 2) L := by
  obtain ⟨ao', b, o, cap', e, hc, ha, hr⟩ := h
  injection e with e1 e2 e3
  subst e1; subst e3
  have h0 := hr 0 (by simp)
  refine ⟨b, o, ha (by simp), by simpa using hc, by simpa using h0.1, by simpa using h0.2, fun i hi => ?_⟩
  have h1 := hr (i + 1) (by simpa using hi)
  rw [show o + (i + 1) * 2 = o + 2 + i * 2 by omega] at h1
  simpa using h1
theorem SK.tail {w : World} {b o cap : Nat} {L : List Cn} (hc : L.length + 1 ≤ cap) (hr : RowC w b (o + 2) L) : SK w (.slice (if cap = 1 then some ⟨b, o, none⟩ else some ⟨b, o + 2, none⟩) L.length (cap - 1)) L :=
  ⟨_, b, o + 2, cap - 1, rfl, by omega, fun hne => if_neg (fun e => hne (List.length_eq_zero_iff.1 (by omega))), hr⟩
theorem CtI.wa {A B A' B' O : List Cn} {c : Cn} (h : CtI A B (c :: A') B' O) (hW : Wc (A ++ B)) : c.2 < 18446744073709551616 := by
  obtain ⟨PA, PB, e1, e2, _⟩ := h.ex
  exact (hW c (by rw [e1]; simp)).2.2
theorem CtI.wb {A B A' B' O : List Cn} {c : Cn} (h : CtI A B A' (c :: B') O) (hW : Wc (A ++ B)) : c.2 < 18446744073709551616 := by
  obtain ⟨PA, PB, e1, e2, _⟩ := h.ex
  exact (hW c (by rw [e2]; simp)).2.2
theorem psh_len (O : List Cn) (x : Int) (n : Nat) : (psh O x n).length ≤ O.length + 1 := by unfold psh; split <;> simp
theorem x_below {wr w1 : World} {xb : Nat} (h : Below xb wr w1) (hx : wr.heap.size = xb) (v u : Value) : Below wr.heap.size wr ((w1.setCell ⟨xb, 0, none⟩ v).setCell ⟨xb, 1, none⟩ u) := by
  rw [hx]
  exact (h.setCell (p := ⟨xb, 0, none⟩) (Nat.le_refl _) _).setCell (p := ⟨xb, 1, none⟩) (Nat.le_refl _) _
theorem x_cells {w1 : World} {xb : Nat} {v0 u0 : Value} (x0 : w1.cell? ⟨xb, 0, none⟩ = some v0) (x1 : w1.cell? ⟨xb, 1, none⟩ = some u0) (v u : Value) : ((w1.setCell ⟨xb, 0, none⟩ v).setCell ⟨xb, 1, none⟩ u).cell? ⟨xb, 0, none⟩ = some v ∧ ((w1.setCell ⟨xb, 0, none⟩ v).setCell ⟨xb, 1, none⟩ u).cell? ⟨xb, 1, none⟩ = some u := by
  have a1 : (w1.setCell ⟨xb, 0, none⟩ v).cell? ⟨xb, 1, none⟩ = some u0 := by rw [World.cell?_setCell_other w1 ⟨xb, 0, none⟩ ⟨xb, 1, none⟩ v (fun e => by injection e with _ e; exact absurd e (by decide))]; exact x1
  refine ⟨?_, World.cell?_setCell_same _ _ _ a1⟩
  rw [World.cell?_setCell_other _ ⟨xb, 1, none⟩ ⟨xb, 0, none⟩ u (fun e => by injection e with _ e; exact absurd e (by decide))]
  exact World.cell?_setCell_same w1 _ _ x0
set_option maxRecDepth 10000 in
set_option maxHeartbeats 8000000 in
theorem counts15_any (w : World) (va vb : Value) (A B : List Cn) (hA : SK w va A) (hB : SK w vb B) (hrA : Rise A) (hrB : Rise B) (hW : Wc (A ++ B)) (hlA : A.length ≤ 1048576) (hlB : B.length ≤ 1048576) :
    Calls Tryz.prog 140 #[va, vb] w fun e w' => Md w (A ++ B) e w' := by
  have HC0 : Hid (CtI A B A B []) := CtI.start hrA hrB
  have HA : Hid (SK w va A) := hA
  have HB : Hid (SK w vb B) := hB
  have HW : Hid (Wc (A ++ B)) := hW
  obtain ⟨i0, hi, hz0, hz1, hz2⟩ := info_parts infoC
  clear hA hB hrA hrB hW
  go_enter Tryz.func140, Tryz.ntmps140
  go_wp2_with fail
  go_loopw [0, 1, 5] (fun a b o wr => ∃ A' B' O ao ca bo cb x y oo, a = .slice ao A'.length ca ∧ b = .slice bo B'.length cb ∧ o = .slice oo x y ∧ Hid (CtI A B A' B' O) ∧ Hid (SK w (.slice ao A'.length ca) A') ∧ Hid (SK w (.slice bo B'.length cb) B') ∧ Hid (GC w.heap.size w (.slice oo x y) O wr) ∧ Hid (O.length + A'.length + B'.length ≤ 2097152)) (fun a b _ _ => (match a with | .slice _ n _ => n | _ => 0) + (match b with | .slice _ n _ => n | _ => 0))
  case atStart =>
    obtain ⟨ao, b1, o1, ca, rfl, _⟩ := id HA.out
    obtain ⟨bo, b2, o2, cb, rfl, _⟩ := id HB.out
    exact ⟨A, B, [], ao, ca, bo, cb, 0, 0, some ⟨w.heap.size, 0, none⟩, rfl, rfl, rfl, HC0, HA, HB, gc_new w, by unfold Hid; simp; omega⟩
  case round =>
    obtain ⟨A', B', O, ao, ca, bo, cb, x, y, oo, rfl, rfl, rfl, HC, HA', HB', HG, HL⟩ := hrel
    have hgs : w.heap.size ≤ wr.heap.size := HG.out.size
    rcases A' with _ | ⟨⟨k1, n1⟩, A'⟩
    · rcases B' with _ | ⟨⟨k2, n2⟩, B'⟩
      · go_wp2_with fail
        go_ret
        exact ⟨_, O, rfl, HC.out.fin, HG.out⟩
      · obtain ⟨b2, o2, rfl, hcb, r1, r2, HRb⟩ := HB'.out.head
        dsimp only at r1 r2
        have hlen2 : ((((k2, n2) : Cn) :: B').length : Int) = (B'.length : Int) + 1 := by simp
        have nzb : (((B'.length : Int) + 1) == 0) = false := by rw [beq_eq_false_iff_ne]; omega
        have HCn : Hid (CtI A B ([] : List Cn) B' (psh O k2 n2)) := HC.out.right (HC.out.wb HW.out) (fun d hd => by cases hd)
        have HSa : Hid (SK w (.slice ao ([] : List Cn).length ca) ([] : List Cn)) := HA'.out
        have HSb : Hid (SK w (.slice (if cb = 1 then some ⟨b2, o2, none⟩ else some ⟨b2, o2 + 2, none⟩) B'.length (cb - 1)) B') := SK.tail hcb HRb
        have HLn : Hid ((psh O k2 n2).length + ([] : List Cn).length + B'.length ≤ 2097152 ∧ O.length ≤ 2097152) := ⟨by have := HL.out; have := psh_len O k2 n2; simp only [List.length_cons, List.length_nil] at *; omega, by have := HL.out; omega⟩
        go_upto_region 7 with fail
        have HX := hid_of (new_1 wr (.cells #[.int .i64 0, .int .u64 0] 222))
        have HBw : Hid (Below wr.heap.size wr (wr.alloc (.cells #[.int .i64 0, .int .u64 0] 222))) := bel1 _ _
        have hlt2 := Nat.lt_of_lt_of_le (lt_of_cell r1) hgs
        generalize wr.alloc (.cells #[.int .i64 0, .int .u64 0] 222) = w1 at *
        generalize hxb : wr.heap.size = xb at *
        have Hxb := hid_of hxb
        clear hxb
        have hnb2 : ¬ b2 = xb := fun e => by have h : b2 < xb := hlt2; omega
        have pr1 := (World.cell?_of_block (HBw.out.block b2 hlt2)).trans ((World.cell?_of_block (HG.out.below.block b2 (lt_of_cell r1))).trans r1)
        have pr2 := (World.cell?_of_block (HBw.out.block b2 hlt2)).trans ((World.cell?_of_block (HG.out.below.block b2 (lt_of_cell r2))).trans r2)
        clear r1 r2
        have x0 : w1.cell? ⟨xb, 0, none⟩ = some (.int .i64 0) := by simp [World.cell?, HX.out]
        have x1 : w1.cell? ⟨xb, 1, none⟩ = some (.int .u64 0) := by simp [World.cell?, HX.out]
        have f0 := hid_fr HX 0
        have f1 := hid_fr HX 1
        have HGk := hid_of (HG.out.keep (x_below HBw.out Hxb.out (.int .i64 k2) (.int .u64 (n2 : Int))))
        have HZ : Hid (((w1.setCell ⟨xb, 0, none⟩ (.int .i64 k2)).setCell ⟨xb, 1, none⟩ (.int .u64 (n2 : Int))).cell? ⟨xb, 0, none⟩ = some (.int .i64 k2) ∧ ((w1.setCell ⟨xb, 0, none⟩ (.int .i64 k2)).setCell ⟨xb, 1, none⟩ (.int .u64 (n2 : Int))).cell? ⟨xb, 1, none⟩ = some (.int .u64 (n2 : Int))) := x_cells x0 x1 _ _
        go_region
        all_goals
          go_upto_region 10 with fail
          go_region
          go_upto_region 13 with fail
          generalize (w1.setCell ⟨xb, 0, none⟩ (.int .i64 k2)).setCell ⟨xb, 1, none⟩ (.int .u64 (n2 : Int)) = W at *
          obtain ⟨z0, z1⟩ := HZ.out
          clear x0 x1 f0 f1 HX HBw
          have hGs := HGk.out.size
          by_cases hN0 : n2 = 0
          · have e0 : psh O k2 n2 = O := if_pos hN0
            rw [e0] at HCn HLn
            have t1 : ((n2 : Int) != 0) = false := by rw [hN0]; rfl
            clear hN0 e0
            go_wp2_with fail
            exact ⟨⟨([] : List Cn), B', O, _, _, _, _, x, y, oo, rfl, rfl, rfl, HCn, HSa, HSb, (by first | exact HGk.out.drew | exact HGk.out.drew.drew | exact HGk.out.drew.drew.drew), HLn.out.1⟩, by simp <;> omega⟩
          · have e0 : psh O k2 n2 = O ++ [(k2, n2)] := if_neg hN0
            rw [e0] at HCn HLn
            have t1 : ((n2 : Int) != 0) = true := by rw [bne_iff_ne]; omega
            have hGd : GC w.heap.size w (.slice oo x y) O W.drew.drew := HGk.out.drew.drew
            have hO2 := HLn.out.2
            clear hN0 e0
            go_wp2_with (at_builtin; refine wpList_append_own _ rfl _ _ 94 rfl w.heap.size 222 i0 (.agg #[.int .i64 0, .int .u64 0]) 2 16 Tryz.underlying94 hi hz0 hz1 hz2 rfl (by decide) _ _ _ rfl (hGd.own.alloc _) ⟨_, 0, none⟩ 1 1 [_, _] rfl rfl (cell_two_new _ _ _ _) (two_one k2 n2) (by unfold maxLen; omega) (by omega) (by simp; omega) ?_; intro v5 w5 hown hgrow hnil; have hg' := hGd.push (k2, n2) _ hown hgrow; clear hown hgrow hnil; obtain ⟨o5, x5, y5, rfl⟩ := gc_form hg')
            go_round
            case rel => exact ⟨([] : List Cn), B', O ++ [(k2, n2)], _, _, _, _, x5, y5, o5, rfl, rfl, rfl, HCn, HSa, HSb, hg', HLn.out.1⟩
            case measure => simp <;> omega
    · obtain ⟨b1, o1, rfl, hca, q1, q2, HRa⟩ := HA'.out.head
      dsimp only at q1 q2
      rcases B' with _ | ⟨⟨k2, n2⟩, B'⟩
      · have hlen : ((((k1, n1) : Cn) :: A').length : Int) = (A'.length : Int) + 1 := by simp
        have HCn : Hid (CtI A B A' ([] : List Cn) (psh O k1 n1)) := HC.out.left (HC.out.wa HW.out) (fun d hd => by cases hd)
        have HSa : Hid (SK w (.slice (if ca = 1 then some ⟨b1, o1, none⟩ else some ⟨b1, o1 + 2, none⟩) A'.length (ca - 1)) A') := SK.tail hca HRa
        have HSb : Hid (SK w (.slice bo ([] : List Cn).length cb) ([] : List Cn)) := HB'.out
        have HLn : Hid ((psh O k1 n1).length + A'.length + ([] : List Cn).length ≤ 2097152 ∧ O.length ≤ 2097152) := ⟨by have := HL.out; have := psh_len O k1 n1; simp only [List.length_cons, List.length_nil] at *; omega, by have := HL.out; omega⟩
        go_upto_region 7 with fail
        have HX := hid_of (new_1 wr (.cells #[.int .i64 0, .int .u64 0] 222))
        have HBw : Hid (Below wr.heap.size wr (wr.alloc (.cells #[.int .i64 0, .int .u64 0] 222))) := bel1 _ _
        have hlt1 := Nat.lt_of_lt_of_le (lt_of_cell q1) hgs
        generalize wr.alloc (.cells #[.int .i64 0, .int .u64 0] 222) = w1 at *
        generalize hxb : wr.heap.size = xb at *
        have Hxb := hid_of hxb
        clear hxb
        have hnb1 : ¬ b1 = xb := fun e => by have h : b1 < xb := hlt1; omega
        have pq1 := (World.cell?_of_block (HBw.out.block b1 hlt1)).trans ((World.cell?_of_block (HG.out.below.block b1 (lt_of_cell q1))).trans q1)
        have pq2 := (World.cell?_of_block (HBw.out.block b1 hlt1)).trans ((World.cell?_of_block (HG.out.below.block b1 (lt_of_cell q2))).trans q2)
        clear q1 q2
        have x0 : w1.cell? ⟨xb, 0, none⟩ = some (.int .i64 0) := by simp [World.cell?, HX.out]
        have x1 : w1.cell? ⟨xb, 1, none⟩ = some (.int .u64 0) := by simp [World.cell?, HX.out]
        have f0 := hid_fr HX 0
        have f1 := hid_fr HX 1
        have HGk := hid_of (HG.out.keep (x_below HBw.out Hxb.out (.int .i64 k1) (.int .u64 (n1 : Int))))
        have HZ : Hid (((w1.setCell ⟨xb, 0, none⟩ (.int .i64 k1)).setCell ⟨xb, 1, none⟩ (.int .u64 (n1 : Int))).cell? ⟨xb, 0, none⟩ = some (.int .i64 k1) ∧ ((w1.setCell ⟨xb, 0, none⟩ (.int .i64 k1)).setCell ⟨xb, 1, none⟩ (.int .u64 (n1 : Int))).cell? ⟨xb, 1, none⟩ = some (.int .u64 (n1 : Int))) := x_cells x0 x1 _ _
        go_region
        all_goals
          go_upto_region 13 with fail
          generalize (w1.setCell ⟨xb, 0, none⟩ (.int .i64 k1)).setCell ⟨xb, 1, none⟩ (.int .u64 (n1 : Int)) = W at *
          obtain ⟨z0, z1⟩ := HZ.out
          clear x0 x1 f0 f1 HX HBw
          have hGs := HGk.out.size
          by_cases hN0 : n1 = 0
          · have e0 : psh O k1 n1 = O := if_pos hN0
            rw [e0] at HCn HLn
            have t1 : ((n1 : Int) != 0) = false := by rw [hN0]; rfl
            clear hN0 e0
            go_wp2_with fail
            exact ⟨⟨A', ([] : List Cn), O, _, _, _, _, x, y, oo, rfl, rfl, rfl, HCn, HSa, HSb, (by first | exact HGk.out.drew | exact HGk.out.drew.drew | exact HGk.out.drew.drew.drew), HLn.out.1⟩, by simp <;> omega⟩
          · have e0 : psh O k1 n1 = O ++ [(k1, n1)] := if_neg hN0
            rw [e0] at HCn HLn
            have t1 : ((n1 : Int) != 0) = true := by rw [bne_iff_ne]; omega
            have hGd : GC w.heap.size w (.slice oo x y) O W.drew := HGk.out.drew
            have hO2 := HLn.out.2
            clear hN0 e0
            go_wp2_with (at_builtin; refine wpList_append_own _ rfl _ _ 94 rfl w.heap.size 222 i0 (.agg #[.int .i64 0, .int .u64 0]) 2 16 Tryz.underlying94 hi hz0 hz1 hz2 rfl (by decide) _ _ _ rfl (hGd.own.alloc _) ⟨_, 0, none⟩ 1 1 [_, _] rfl rfl (cell_two_new _ _ _ _) (two_one k1 n1) (by unfold maxLen; omega) (by omega) (by simp; omega) ?_; intro v5 w5 hown hgrow hnil; have hg' := hGd.push (k1, n1) _ hown hgrow; clear hown hgrow hnil; obtain ⟨o5, x5, y5, rfl⟩ := gc_form hg')
            go_round
            case rel => exact ⟨A', ([] : List Cn), O ++ [(k1, n1)], _, _, _, _, x5, y5, o5, rfl, rfl, rfl, HCn, HSa, HSb, hg', HLn.out.1⟩
            case measure => simp <;> omega
      · obtain ⟨b2, o2, rfl, hcb, r1, r2, HRb⟩ := HB'.out.head
        dsimp only at r1 r2
        have hlen : ((((k1, n1) : Cn) :: A').length : Int) = (A'.length : Int) + 1 := by simp
        have hlen2 : ((((k2, n2) : Cn) :: B').length : Int) = (B'.length : Int) + 1 := by simp
        have nza : (((A'.length : Int) + 1) == 0) = false := by rw [beq_eq_false_iff_ne]; omega
        have nzb : (((B'.length : Int) + 1) == 0) = false := by rw [beq_eq_false_iff_ne]; omega
        by_cases hk12 : k1 < k2
        · have HCn : Hid (CtI A B A' (((k2, n2) : Cn) :: B') (psh O k1 n1)) := HC.out.left (HC.out.wa HW.out) (fun e he => by rcases List.mem_cons.1 he with q | q; rw [q]; exact hk12; exact Int.lt_trans hk12 (rise_hd HC.out.rb q))
          have HSa : Hid (SK w (.slice (if ca = 1 then some ⟨b1, o1, none⟩ else some ⟨b1, o1 + 2, none⟩) A'.length (ca - 1)) A') := SK.tail hca HRa
          have HSb : Hid (SK w (.slice (some ⟨b2, o2, none⟩) (((k2, n2) : Cn) :: B').length cb) (((k2, n2) : Cn) :: B')) := HB'.out
          have HLn : Hid ((psh O k1 n1).length + A'.length + (((k2, n2) : Cn) :: B').length ≤ 2097152 ∧ O.length ≤ 2097152) := ⟨by have := HL.out; have := psh_len O k1 n1; simp only [List.length_cons] at *; omega, by have := HL.out; omega⟩
          go_upto_region 7 with fail
          have HX := hid_of (new_1 wr (.cells #[.int .i64 0, .int .u64 0] 222))
          have HBw : Hid (Below wr.heap.size wr (wr.alloc (.cells #[.int .i64 0, .int .u64 0] 222))) := bel1 _ _
          have hlt1 := Nat.lt_of_lt_of_le (lt_of_cell q1) hgs
          have hlt2 := Nat.lt_of_lt_of_le (lt_of_cell r1) hgs
          generalize wr.alloc (.cells #[.int .i64 0, .int .u64 0] 222) = w1 at *
          generalize hxb : wr.heap.size = xb at *
          have Hxb := hid_of hxb
          clear hxb
          have hnb1 : ¬ b1 = xb := fun e => by have h : b1 < xb := hlt1; omega
          have pq1 := (World.cell?_of_block (HBw.out.block b1 hlt1)).trans ((World.cell?_of_block (HG.out.below.block b1 (lt_of_cell q1))).trans q1)
          have pq2 := (World.cell?_of_block (HBw.out.block b1 hlt1)).trans ((World.cell?_of_block (HG.out.below.block b1 (lt_of_cell q2))).trans q2)
          clear q1 q2
          have hnb2 : ¬ b2 = xb := fun e => by have h : b2 < xb := hlt2; omega
          have pr1 := (World.cell?_of_block (HBw.out.block b2 hlt2)).trans ((World.cell?_of_block (HG.out.below.block b2 (lt_of_cell r1))).trans r1)
          have pr2 := (World.cell?_of_block (HBw.out.block b2 hlt2)).trans ((World.cell?_of_block (HG.out.below.block b2 (lt_of_cell r2))).trans r2)
          clear r1 r2
          have x0 : w1.cell? ⟨xb, 0, none⟩ = some (.int .i64 0) := by simp [World.cell?, HX.out]
          have x1 : w1.cell? ⟨xb, 1, none⟩ = some (.int .u64 0) := by simp [World.cell?, HX.out]
          have f0 := hid_fr HX 0
          have f1 := hid_fr HX 1
          have HGk := hid_of (HG.out.keep (x_below HBw.out Hxb.out (.int .i64 k1) (.int .u64 (n1 : Int))))
          have HZ : Hid (((w1.setCell ⟨xb, 0, none⟩ (.int .i64 k1)).setCell ⟨xb, 1, none⟩ (.int .u64 (n1 : Int))).cell? ⟨xb, 0, none⟩ = some (.int .i64 k1) ∧ ((w1.setCell ⟨xb, 0, none⟩ (.int .i64 k1)).setCell ⟨xb, 1, none⟩ (.int .u64 (n1 : Int))).cell? ⟨xb, 1, none⟩ = some (.int .u64 (n1 : Int))) := x_cells x0 x1 _ _
          go_region
          all_goals
            go_upto_region 13 with fail
            generalize (w1.setCell ⟨xb, 0, none⟩ (.int .i64 k1)).setCell ⟨xb, 1, none⟩ (.int .u64 (n1 : Int)) = W at *
            obtain ⟨z0, z1⟩ := HZ.out
            clear x0 x1 f0 f1 HX HBw
            have hGs := HGk.out.size
            by_cases hN0 : n1 = 0
            · have e0 : psh O k1 n1 = O := if_pos hN0
              rw [e0] at HCn HLn
              have t1 : ((n1 : Int) != 0) = false := by rw [hN0]; rfl
              clear hN0 e0
              go_wp2_with fail
              exact ⟨⟨A', (((k2, n2) : Cn) :: B'), O, _, _, _, _, x, y, oo, rfl, rfl, rfl, HCn, HSa, HSb, (by first | exact HGk.out.drew | exact HGk.out.drew.drew | exact HGk.out.drew.drew.drew), HLn.out.1⟩, by simp <;> omega⟩
            · have e0 : psh O k1 n1 = O ++ [(k1, n1)] := if_neg hN0
              rw [e0] at HCn HLn
              have t1 : ((n1 : Int) != 0) = true := by rw [bne_iff_ne]; omega
              have hGd : GC w.heap.size w (.slice oo x y) O W.drew := HGk.out.drew
              have hO2 := HLn.out.2
              clear hN0 e0
              go_wp2_with (at_builtin; refine wpList_append_own _ rfl _ _ 94 rfl w.heap.size 222 i0 (.agg #[.int .i64 0, .int .u64 0]) 2 16 Tryz.underlying94 hi hz0 hz1 hz2 rfl (by decide) _ _ _ rfl (hGd.own.alloc _) ⟨_, 0, none⟩ 1 1 [_, _] rfl rfl (cell_two_new _ _ _ _) (two_one k1 n1) (by unfold maxLen; omega) (by omega) (by simp; omega) ?_; intro v5 w5 hown hgrow hnil; have hg' := hGd.push (k1, n1) _ hown hgrow; clear hown hgrow hnil; obtain ⟨o5, x5, y5, rfl⟩ := gc_form hg')
              go_round
              case rel => exact ⟨A', (((k2, n2) : Cn) :: B'), O ++ [(k1, n1)], _, _, _, _, x5, y5, o5, rfl, rfl, rfl, HCn, HSa, HSb, hg', HLn.out.1⟩
              case measure => simp <;> omega
        · by_cases hk21 : k2 < k1
          · have HCn : Hid (CtI A B (((k1, n1) : Cn) :: A') B' (psh O k2 n2)) := HC.out.right (HC.out.wb HW.out) (fun e he => by rcases List.mem_cons.1 he with q | q; rw [q]; exact hk21; exact Int.lt_trans hk21 (rise_hd HC.out.ra q))
            have HSa : Hid (SK w (.slice (some ⟨b1, o1, none⟩) (((k1, n1) : Cn) :: A').length ca) (((k1, n1) : Cn) :: A')) := HA'.out
            have HSb : Hid (SK w (.slice (if cb = 1 then some ⟨b2, o2, none⟩ else some ⟨b2, o2 + 2, none⟩) B'.length (cb - 1)) B') := SK.tail hcb HRb
            have HLn : Hid ((psh O k2 n2).length + (((k1, n1) : Cn) :: A').length + B'.length ≤ 2097152 ∧ O.length ≤ 2097152) := ⟨by have := HL.out; have := psh_len O k2 n2; simp only [List.length_cons] at *; omega, by have := HL.out; omega⟩
            go_upto_region 7 with fail
            have HX := hid_of (new_1 wr (.cells #[.int .i64 0, .int .u64 0] 222))
            have HBw : Hid (Below wr.heap.size wr (wr.alloc (.cells #[.int .i64 0, .int .u64 0] 222))) := bel1 _ _
            have hlt1 := Nat.lt_of_lt_of_le (lt_of_cell q1) hgs
            have hlt2 := Nat.lt_of_lt_of_le (lt_of_cell r1) hgs
            generalize wr.alloc (.cells #[.int .i64 0, .int .u64 0] 222) = w1 at *
            generalize hxb : wr.heap.size = xb at *
            have Hxb := hid_of hxb
            clear hxb
            have hnb1 : ¬ b1 = xb := fun e => by have h : b1 < xb := hlt1; omega
            have pq1 := (World.cell?_of_block (HBw.out.block b1 hlt1)).trans ((World.cell?_of_block (HG.out.below.block b1 (lt_of_cell q1))).trans q1)
            have pq2 := (World.cell?_of_block (HBw.out.block b1 hlt1)).trans ((World.cell?_of_block (HG.out.below.block b1 (lt_of_cell q2))).trans q2)
            clear q1 q2
            have hnb2 : ¬ b2 = xb := fun e => by have h : b2 < xb := hlt2; omega
            have pr1 := (World.cell?_of_block (HBw.out.block b2 hlt2)).trans ((World.cell?_of_block (HG.out.below.block b2 (lt_of_cell r1))).trans r1)
            have pr2 := (World.cell?_of_block (HBw.out.block b2 hlt2)).trans ((World.cell?_of_block (HG.out.below.block b2 (lt_of_cell r2))).trans r2)
            clear r1 r2
            have x0 : w1.cell? ⟨xb, 0, none⟩ = some (.int .i64 0) := by simp [World.cell?, HX.out]
            have x1 : w1.cell? ⟨xb, 1, none⟩ = some (.int .u64 0) := by simp [World.cell?, HX.out]
            have f0 := hid_fr HX 0
            have f1 := hid_fr HX 1
            have HGk := hid_of (HG.out.keep (x_below HBw.out Hxb.out (.int .i64 k2) (.int .u64 (n2 : Int))))
            have HZ : Hid (((w1.setCell ⟨xb, 0, none⟩ (.int .i64 k2)).setCell ⟨xb, 1, none⟩ (.int .u64 (n2 : Int))).cell? ⟨xb, 0, none⟩ = some (.int .i64 k2) ∧ ((w1.setCell ⟨xb, 0, none⟩ (.int .i64 k2)).setCell ⟨xb, 1, none⟩ (.int .u64 (n2 : Int))).cell? ⟨xb, 1, none⟩ = some (.int .u64 (n2 : Int))) := x_cells x0 x1 _ _
            go_region
            all_goals
              go_upto_region 10 with fail
              go_region
              go_upto_region 13 with fail
              generalize (w1.setCell ⟨xb, 0, none⟩ (.int .i64 k2)).setCell ⟨xb, 1, none⟩ (.int .u64 (n2 : Int)) = W at *
              obtain ⟨z0, z1⟩ := HZ.out
              clear x0 x1 f0 f1 HX HBw
              have hGs := HGk.out.size
              by_cases hN0 : n2 = 0
              · have e0 : psh O k2 n2 = O := if_pos hN0
                rw [e0] at HCn HLn
                have t1 : ((n2 : Int) != 0) = false := by rw [hN0]; rfl
                clear hN0 e0
                go_wp2_with fail
                exact ⟨⟨(((k1, n1) : Cn) :: A'), B', O, _, _, _, _, x, y, oo, rfl, rfl, rfl, HCn, HSa, HSb, (by first | exact HGk.out.drew | exact HGk.out.drew.drew | exact HGk.out.drew.drew.drew), HLn.out.1⟩, by simp <;> omega⟩
              · have e0 : psh O k2 n2 = O ++ [(k2, n2)] := if_neg hN0
                rw [e0] at HCn HLn
                have t1 : ((n2 : Int) != 0) = true := by rw [bne_iff_ne]; omega
                have hGd : GC w.heap.size w (.slice oo x y) O W.drew.drew := HGk.out.drew.drew
                have hO2 := HLn.out.2
                clear hN0 e0
                go_wp2_with (at_builtin; refine wpList_append_own _ rfl _ _ 94 rfl w.heap.size 222 i0 (.agg #[.int .i64 0, .int .u64 0]) 2 16 Tryz.underlying94 hi hz0 hz1 hz2 rfl (by decide) _ _ _ rfl (hGd.own.alloc _) ⟨_, 0, none⟩ 1 1 [_, _] rfl rfl (cell_two_new _ _ _ _) (two_one k2 n2) (by unfold maxLen; omega) (by omega) (by simp; omega) ?_; intro v5 w5 hown hgrow hnil; have hg' := hGd.push (k2, n2) _ hown hgrow; clear hown hgrow hnil; obtain ⟨o5, x5, y5, rfl⟩ := gc_form hg')
                go_round
                case rel => exact ⟨(((k1, n1) : Cn) :: A'), B', O ++ [(k2, n2)], _, _, _, _, x5, y5, o5, rfl, rfl, rfl, HCn, HSa, HSb, hg', HLn.out.1⟩
                case measure => simp <;> omega
          · obtain rfl : k1 = k2 := by omega
            clear hk12 hk21
            have hke : ¬ k1 < k1 := by omega
            · obtain ⟨m, hm⟩ : ∃ m, m = (n1 + n2) % 18446744073709551616 := ⟨_, rfl⟩
              have hsum : IntKind.u64.wrap ((n1 : Int) + (n2 : Int)) = (m : Int) := by rw [IntKind.wrap_u64, hm]; omega
              have HCn : Hid (CtI A B A' B' (psh O k1 m)) := by rw [hm]; exact HC.out.both rfl
              have HSa : Hid (SK w (.slice (if ca = 1 then some ⟨b1, o1, none⟩ else some ⟨b1, o1 + 2, none⟩) A'.length (ca - 1)) A') := SK.tail hca HRa
              have HSb : Hid (SK w (.slice (if cb = 1 then some ⟨b2, o2, none⟩ else some ⟨b2, o2 + 2, none⟩) B'.length (cb - 1)) B') := SK.tail hcb HRb
              have HLn : Hid ((psh O k1 m).length + A'.length + B'.length ≤ 2097152 ∧ O.length ≤ 2097152) := ⟨by have := HL.out; have := psh_len O k1 m; simp only [List.length_cons] at *; omega, by have := HL.out; omega⟩
              go_upto_region 7 with fail
              have HX := hid_of (new_1 wr (.cells #[.int .i64 0, .int .u64 0] 222))
              have HBw : Hid (Below wr.heap.size wr (wr.alloc (.cells #[.int .i64 0, .int .u64 0] 222))) := bel1 _ _
              have hlt1 := Nat.lt_of_lt_of_le (lt_of_cell q1) hgs
              have hlt2 := Nat.lt_of_lt_of_le (lt_of_cell r1) hgs
              generalize wr.alloc (.cells #[.int .i64 0, .int .u64 0] 222) = w1 at *
              generalize hxb : wr.heap.size = xb at *
              have Hxb := hid_of hxb
              clear hxb
              have hnb1 : ¬ b1 = xb := fun e => by have h : b1 < xb := hlt1; omega
              have pq1 := (World.cell?_of_block (HBw.out.block b1 hlt1)).trans ((World.cell?_of_block (HG.out.below.block b1 (lt_of_cell q1))).trans q1)
              have pq2 := (World.cell?_of_block (HBw.out.block b1 hlt1)).trans ((World.cell?_of_block (HG.out.below.block b1 (lt_of_cell q2))).trans q2)
              clear q1 q2
              have hnb2 : ¬ b2 = xb := fun e => by have h : b2 < xb := hlt2; omega
              have pr1 := (World.cell?_of_block (HBw.out.block b2 hlt2)).trans ((World.cell?_of_block (HG.out.below.block b2 (lt_of_cell r1))).trans r1)
              have pr2 := (World.cell?_of_block (HBw.out.block b2 hlt2)).trans ((World.cell?_of_block (HG.out.below.block b2 (lt_of_cell r2))).trans r2)
              clear r1 r2
              have x0 : w1.cell? ⟨xb, 0, none⟩ = some (.int .i64 0) := by simp [World.cell?, HX.out]
              have x1 : w1.cell? ⟨xb, 1, none⟩ = some (.int .u64 0) := by simp [World.cell?, HX.out]
              have f0 := hid_fr HX 0
              have f1 := hid_fr HX 1
              have HGk := hid_of (HG.out.keep (x_below HBw.out Hxb.out (.int .i64 k1) (.int .u64 (m : Int))))
              have HZ : Hid (((w1.setCell ⟨xb, 0, none⟩ (.int .i64 k1)).setCell ⟨xb, 1, none⟩ (.int .u64 (m : Int))).cell? ⟨xb, 0, none⟩ = some (.int .i64 k1) ∧ ((w1.setCell ⟨xb, 0, none⟩ (.int .i64 k1)).setCell ⟨xb, 1, none⟩ (.int .u64 (m : Int))).cell? ⟨xb, 1, none⟩ = some (.int .u64 (m : Int))) := x_cells x0 x1 _ _
              clear hm
              go_region
              all_goals
                go_upto_region 10 with fail
                go_region
                go_upto_region 4 with fail
                go_region
                go_upto_region 13 with fail
                generalize (w1.setCell ⟨xb, 0, none⟩ (.int .i64 k1)).setCell ⟨xb, 1, none⟩ (.int .u64 (m : Int)) = W at *
                obtain ⟨z0, z1⟩ := HZ.out
                clear x0 x1 f0 f1 HX HBw
                have hGs := HGk.out.size
                by_cases hN0 : m = 0
                · have e0 : psh O k1 m = O := if_pos hN0
                  rw [e0] at HCn HLn
                  have t1 : ((m : Int) != 0) = false := by rw [hN0]; rfl
                  clear hN0 e0
                  go_wp2_with fail
                  exact ⟨⟨A', B', O, _, _, _, _, x, y, oo, rfl, rfl, rfl, HCn, HSa, HSb, (by first | exact HGk.out.drew | exact HGk.out.drew.drew | exact HGk.out.drew.drew.drew), HLn.out.1⟩, by simp <;> omega⟩
                · have e0 : psh O k1 m = O ++ [(k1, m)] := if_neg hN0
                  rw [e0] at HCn HLn
                  have t1 : ((m : Int) != 0) = true := by rw [bne_iff_ne]; omega
                  have hGd : GC w.heap.size w (.slice oo x y) O W.drew.drew.drew := HGk.out.drew.drew.drew
                  have hO2 := HLn.out.2
                  clear hN0 e0
                  go_wp2_with (at_builtin; refine wpList_append_own _ rfl _ _ 94 rfl w.heap.size 222 i0 (.agg #[.int .i64 0, .int .u64 0]) 2 16 Tryz.underlying94 hi hz0 hz1 hz2 rfl (by decide) _ _ _ rfl (hGd.own.alloc _) ⟨_, 0, none⟩ 1 1 [_, _] rfl rfl (cell_two_new _ _ _ _) (two_one k1 m) (by unfold maxLen; omega) (by omega) (by simp; omega) ?_; intro v5 w5 hown hgrow hnil; have hg' := hGd.push (k1, m) _ hown hgrow; clear hown hgrow hnil; obtain ⟨o5, x5, y5, rfl⟩ := gc_form hg')
                  go_round
                  case rel => exact ⟨A', B', O ++ [(k1, m)], _, _, _, _, x5, y5, o5, rfl, rfl, rfl, HCn, HSa, HSb, hg', HLn.out.1⟩
                  case measure => simp <;> omega
end Go.Proofs.YtaeapikhhbjlnaaGreatDoor
/- PARTS: the document's Merge of parts as they may be. Own work of the verifier. -/
namespace Go.Proofs.YtaeapikhhbjlnaaGreatDoor
open Go.RowKit

theorem SN.sk {w : World} {v : Value} {L : List Cn} (h : SN w v L) : SK w v L := by
  rcases h with ⟨rfl, rfl⟩ | ⟨b, o, cap, rfl, hc, hr⟩
  · exact ⟨none, 0, 0, 0, rfl, Nat.le_refl _, fun k => absurd rfl k, fun i hi => by simp at hi⟩
  · exact ⟨_, b, o, cap, rfl, hc, fun _ => rfl, hr⟩
theorem merge15_any (M : Nat) (P X : Pt) (a1 a2 : Option Addr) (m1 c1 m2 c2 : Nat) (w : World) (hM : M ≤ 1048576) (hP : P.Ok M) (hX : X.Ok M) (hA : SN w (.slice a1 m1 c1) P.L) (hC : SN w (.slice a2 m2 c2) X.L) :
    Calls Tryz.prog 87 #[rpart P.hi P.lo (.slice a1 m1 c1) P.n P.s P.c P.mn P.mx, rpart X.hi X.lo (.slice a2 m2 c2) X.n X.s X.c X.mn X.mx] w fun e w' => MdR w (hiOf (rnd (val P.hi P.lo + val X.hi X.lo))) (loOf (rnd (val P.hi P.lo + val X.hi X.lo))) ((P.n + X.n) % 18446744073709551616) (endK P.n X.n P.mn X.mn X.mn P.mn) (endK P.n X.n P.mx X.mx P.mx X.mx) (Soft.fa P.s X.s) (Soft.fa (Soft.fa P.c X.c) (Soft.fl P.s X.s)) (P.L ++ X.L) e w' :=
  rp15_any P.hi P.lo X.hi X.lo a1 a2 m1 c1 m2 c2 P.n X.n P.s P.c X.s X.c P.mn P.mx X.mn X.mx P.L X.L w hP.wf hX.wf hA hC
    (fun W v v' h1 h2 => counts15_any W v v' P.L X.L h1.sk h2.sk hP.rise hX.rise (fun c hc => by
      rcases List.mem_append.1 hc with q | q
      · exact hP.wc hM c q
      · exact hX.wc hM c q) (Nat.le_trans hP.len hM) (Nat.le_trans hX.len hM))
    hP.hs hP.hc hX.hs hX.hc hP.h1 hP.h2 hX.h1 hX.h2
end Go.Proofs.YtaeapikhhbjlnaaGreatDoor
/- THE DOCUMENT's MACHINE: the steps of a summary, its ends. Own work of the verifier. -/
namespace Go.Proofs.YtaeapikhhbjlnaaGreatDoor
open Go.RowKit

set_option maxRecDepth 10000 in
set_option maxHeartbeats 4000000 in
theorem float_7 (cb mb rb : Nat) (c : Cl) (m : Mc) (k : Int) (s cc mn mx cap : Nat) (w : World) (H : Dst cb mb rb c m (sRow k s cc mn mx) w) (ha : c.at_ = 7) (ht : c.tov = .slice (some ⟨rb, 0, none⟩) 5 cap) (x : Nat) (h3 : c.f = (x : Int)) (hx : x < 18446744073709551616) (hmn : mn < 18446744073709551616) (_hmx : mx < 18446744073709551616) (nx : Int) (hnx : nx = if keyN x < keyN mn then 8 else 9) :
    Calls Tryz.prog 250 #[.pointer (some ⟨cb, 0, none⟩)] w fun e w' => e = .returned (.tuple #[]) ∧ Hid (Dst cb mb rb { c with at_ := nx } m (sRow k s cc mn mx) w') ∧ Hid (Chg (D3 cb mb rb) w w') := by
  obtain ⟨a1, a2, a3, a4, a5, a6⟩ := H.ne
  have c9 : w.cell? ⟨cb, 9, none⟩ = some (.int .i64 7) := H.cc 9 _ (by rw [← ha]; rfl)
  have c17 : w.cell? ⟨cb, 17, none⟩ = some (.slice (some ⟨rb, 0, none⟩) 5 cap) := H.cc 17 _ (by rw [← ht]; rfl)
  have f9 := H.cf 9
  have H1 := H.putC 9 (.int .i64 8) { c with at_ := 8 } rfl
  obtain ⟨w1, hw1⟩ : ∃ w1, w1 = w.setCell ⟨cb, 9, none⟩ (.int .i64 8) := ⟨_, rfl⟩
  have hc1 : Chg (D3 cb mb rb) w w1 := by rw [hw1]; exact d3_c (Chg.refl _ _) _ _
  rw [← hw1] at H1
  have d9 : w1.cell? ⟨cb, 9, none⟩ = some (.int .i64 8) := H1.cc 9 _ rfl
  have g9 := H1.cf 9
  have d17 : w1.cell? ⟨cb, 17, none⟩ = some (.slice (some ⟨rb, 0, none⟩) 5 cap) := H1.cc 17 _ (by rw [← ht]; rfl)
  have d8 : w1.cell? ⟨cb, 8, none⟩ = some (.int .u64 (x : Int)) := H1.cc 8 _ (by rw [← h3]; rfl)
  have d3 : w1.cell? ⟨rb, 3, none⟩ = some (.int .i64 (fw64 mn)) := H1.rr 3 _ rfl
  have hu := fw64_u mn hmn
  have HS : Hid (∀ W, _) := stands_any x mn hx hmn
  by_cases hs : keyN x < keyN mn
  · rw [if_pos hs] at hnx
    subst hnx
    rw [decide_eq_true hs] at HS
    have HQ : Hid (Dst cb mb rb { c with at_ := 8 } m (sRow k s cc mn mx) w1.drew) := H1.drew
    have HC : Hid (Chg (D3 cb mb rb) w w1.drew) := hc1.drew
    clear H H1 ha ht h3 hx hmn _hmx hs hc1
    generalize fw64 mn = z at *
    go_enter Tryz.func250, Tryz.ntmps250
    go_upto_region 15 with fail
    rw [← hw1]
    clear hw1
    go_region_held3 (fun V => V.cell? ⟨cb, 17, none⟩ = some (.slice (some ⟨rb, 0, none⟩) 5 cap) ∧ V.cell? ⟨cb, 8, none⟩ = some (.int .u64 (x : Int)) ∧ V.cell? ⟨rb, 3, none⟩ = some (.int .i64 z)) (first | with_reducible assumption | exact ⟨d17, d8, d3⟩)
      ((go_at_call 142; with_reducible refine Calls.mono (HS.out _) ?_; rintro e w2 ⟨rfl, rfl⟩))
    all_goals
      go_wp2_with fail
      first | go_end0 | refine bodyPost_ret (results_none rfl _ _ _) rfl ?_
      first | exact ⟨rfl, HQ, HC⟩ | (rw [wi64]; exact ⟨rfl, HQ, HC⟩)
  · rw [if_neg hs] at hnx
    subst hnx
    rw [decide_eq_false hs] at HS
    have HQ : Hid (Dst cb mb rb { c with at_ := 9 } m (sRow k s cc mn mx) (w1.drew.setCell ⟨cb, 9, none⟩ (.int .i64 9))) := H1.drew.putC 9 _ _ rfl
    have HC : Hid (Chg (D3 cb mb rb) w (w1.drew.setCell ⟨cb, 9, none⟩ (.int .i64 9))) := d3_c hc1.drew _ _
    clear H H1 ha ht h3 hx hmn _hmx hs hc1
    generalize fw64 mn = z at *
    go_enter Tryz.func250, Tryz.ntmps250
    go_upto_region 15 with fail
    rw [← hw1]
    clear hw1
    go_region_held3 (fun V => V.cell? ⟨cb, 17, none⟩ = some (.slice (some ⟨rb, 0, none⟩) 5 cap) ∧ V.cell? ⟨cb, 8, none⟩ = some (.int .u64 (x : Int)) ∧ V.cell? ⟨rb, 3, none⟩ = some (.int .i64 z)) (first | with_reducible assumption | exact ⟨d17, d8, d3⟩)
      ((go_at_call 142; with_reducible refine Calls.mono (HS.out _) ?_; rintro e w2 ⟨rfl, rfl⟩))
    all_goals
      go_wp2_with fail
      first | go_end0 | refine bodyPost_ret (results_none rfl _ _ _) rfl ?_
      first | exact ⟨rfl, HQ, HC⟩ | (rw [wi64]; exact ⟨rfl, HQ, HC⟩)
set_option maxRecDepth 10000 in
set_option maxHeartbeats 4000000 in
theorem float_8 (cb mb rb : Nat) (c : Cl) (m : Mc) (k : Int) (s cc mn mx cap : Nat) (w : World) (H : Dst cb mb rb c m (sRow k s cc mn mx) w) (ha : c.at_ = 8) (ht : c.tov = .slice (some ⟨rb, 0, none⟩) 5 cap) (x : Nat) (h3 : c.f = (x : Int)) (_hx : x < 18446744073709551616) (_hmn : mn < 18446744073709551616) (_hmx : mx < 18446744073709551616) :
    Calls Tryz.prog 250 #[.pointer (some ⟨cb, 0, none⟩)] w fun e w' => e = .returned (.tuple #[]) ∧ Hid (Dst cb mb rb { c with at_ := 9 } m (sRow k s cc x mx) w') ∧ Hid (Chg (D3 cb mb rb) w w') := by
  obtain ⟨a1, a2, a3, a4, a5, a6⟩ := H.ne
  have c9 : w.cell? ⟨cb, 9, none⟩ = some (.int .i64 8) := H.cc 9 _ (by rw [← ha]; rfl)
  have c17 : w.cell? ⟨cb, 17, none⟩ = some (.slice (some ⟨rb, 0, none⟩) 5 cap) := H.cc 17 _ (by rw [← ht]; rfl)
  have f9 := H.cf 9
  have H1 := H.putC 9 (.int .i64 9) { c with at_ := 9 } rfl
  obtain ⟨w1, hw1⟩ : ∃ w1, w1 = w.setCell ⟨cb, 9, none⟩ (.int .i64 9) := ⟨_, rfl⟩
  have hc1 : Chg (D3 cb mb rb) w w1 := by rw [hw1]; exact d3_c (Chg.refl _ _) _ _
  rw [← hw1] at H1
  have d9 : w1.cell? ⟨cb, 9, none⟩ = some (.int .i64 9) := H1.cc 9 _ rfl
  have g9 := H1.cf 9
  have d17 : w1.cell? ⟨cb, 17, none⟩ = some (.slice (some ⟨rb, 0, none⟩) 5 cap) := H1.cc 17 _ (by rw [← ht]; rfl)
  have d8 : w1.cell? ⟨cb, 8, none⟩ = some (.int .u64 (x : Int)) := H1.cc 8 _ (by rw [← h3]; rfl)
  have d3 : w1.cell? ⟨rb, 3, none⟩ = some (.int .i64 (fw64 mn)) := H1.rr 3 _ rfl
  have g3 := H1.rf 3
  have HQ : Hid (Dst cb mb rb { c with at_ := 9 } m (sRow k s cc x mx) (w1.drew.setCell ⟨rb, 3, none⟩ (.int .i64 (wrap64 (x : Int))))) := by
    have := H1.drew.putR 3 (fw64 x)
    rw [sRow_3] at this
    exact this
  have HC : Hid (Chg (D3 cb mb rb) w (w1.drew.setCell ⟨rb, 3, none⟩ (.int .i64 (wrap64 (x : Int))))) := d3_r hc1.drew _ _
  clear H H1 ha ht h3 _hx _hmn _hmx hc1
  generalize fw64 mn = z at *
  go_enter Tryz.func250, Tryz.ntmps250
  go_upto_region 18 with fail
  rw [← hw1]
  clear hw1
  go_region
  all_goals
    go_wp2_with fail
    first | go_end0 | refine bodyPost_ret (results_none rfl _ _ _) rfl ?_
    first | exact ⟨rfl, HQ, HC⟩ | (rw [wi64]; exact ⟨rfl, HQ, HC⟩)
set_option maxRecDepth 10000 in
set_option maxHeartbeats 4000000 in
theorem float_9 (cb mb rb : Nat) (c : Cl) (m : Mc) (k : Int) (s cc mn mx cap : Nat) (w : World) (H : Dst cb mb rb c m (sRow k s cc mn mx) w) (ha : c.at_ = 9) (ht : c.tov = .slice (some ⟨rb, 0, none⟩) 5 cap) (x : Nat) (h3 : c.f = (x : Int)) (hx : x < 18446744073709551616) (_hmn : mn < 18446744073709551616) (hmx : mx < 18446744073709551616) (nx : Int) (hnx : nx = if keyN mx < keyN x then 10 else 99) :
    Calls Tryz.prog 250 #[.pointer (some ⟨cb, 0, none⟩)] w fun e w' => e = .returned (.tuple #[]) ∧ Hid (Dst cb mb rb { c with at_ := nx } m (sRow k s cc mn mx) w') ∧ Hid (Chg (D3 cb mb rb) w w') := by
  obtain ⟨a1, a2, a3, a4, a5, a6⟩ := H.ne
  have c9 : w.cell? ⟨cb, 9, none⟩ = some (.int .i64 9) := H.cc 9 _ (by rw [← ha]; rfl)
  have c17 : w.cell? ⟨cb, 17, none⟩ = some (.slice (some ⟨rb, 0, none⟩) 5 cap) := H.cc 17 _ (by rw [← ht]; rfl)
  have f9 := H.cf 9
  have H0 := H.putC 9 (.int .i64 10) { c with at_ := 10 } rfl
  have H1 := H0.putC 9 (.int .i64 10) { c with at_ := 10 } rfl
  obtain ⟨w1, hw1⟩ : ∃ w1, w1 = (w.setCell ⟨cb, 9, none⟩ (.int .i64 10)).setCell ⟨cb, 9, none⟩ (.int .i64 10) := ⟨_, rfl⟩
  have hc1 : Chg (D3 cb mb rb) w w1 := by rw [hw1]; exact d3_c (d3_c (Chg.refl _ _) _ _) _ _
  rw [← hw1] at H1
  have d9 : w1.cell? ⟨cb, 9, none⟩ = some (.int .i64 10) := H1.cc 9 _ rfl
  have g9 := H1.cf 9
  have d17 : w1.cell? ⟨cb, 17, none⟩ = some (.slice (some ⟨rb, 0, none⟩) 5 cap) := H1.cc 17 _ (by rw [← ht]; rfl)
  have d8 : w1.cell? ⟨cb, 8, none⟩ = some (.int .u64 (x : Int)) := H1.cc 8 _ (by rw [← h3]; rfl)
  have d4 : w1.cell? ⟨rb, 4, none⟩ = some (.int .i64 (fw64 mx)) := H1.rr 4 _ rfl
  have hu := fw64_u mx hmx
  have HS : Hid (∀ W, _) := stands_any mx x hmx hx
  by_cases hs : keyN mx < keyN x
  · rw [if_pos hs] at hnx
    subst hnx
    rw [decide_eq_true hs] at HS
    have HQ : Hid (Dst cb mb rb { c with at_ := 10 } m (sRow k s cc mn mx) (w1.drew)) := H1.drew
    have HC : Hid (Chg (D3 cb mb rb) w (w1.drew)) := hc1.drew
    clear H H0 H1 ha ht h3 hx _hmn hmx hs hc1
    generalize fw64 mx = z at *
    go_enter Tryz.func250, Tryz.ntmps250
    go_upto_region 21 with fail
    rw [← hw1]
    clear hw1
    go_region_held3 (fun V => V.cell? ⟨cb, 17, none⟩ = some (.slice (some ⟨rb, 0, none⟩) 5 cap) ∧ V.cell? ⟨cb, 8, none⟩ = some (.int .u64 (x : Int)) ∧ V.cell? ⟨rb, 4, none⟩ = some (.int .i64 z)) (first | with_reducible assumption | exact ⟨d17, d8, d4⟩)
      ((go_at_call 142; with_reducible refine Calls.mono (HS.out _) ?_; rintro e w2 ⟨rfl, rfl⟩))
    all_goals
      go_wp2_with fail
      first | go_end0 | refine bodyPost_ret (results_none rfl _ _ _) rfl ?_
      first | exact ⟨rfl, HQ, HC⟩ | (rw [wi64]; exact ⟨rfl, HQ, HC⟩)
  · rw [if_neg hs] at hnx
    subst hnx
    rw [decide_eq_false hs] at HS
    have HQ : Hid (Dst cb mb rb { c with at_ := 99 } m (sRow k s cc mn mx) (w1.drew.setCell ⟨cb, 9, none⟩ (.int .i64 99))) := H1.drew.putC 9 _ _ rfl
    have HC : Hid (Chg (D3 cb mb rb) w (w1.drew.setCell ⟨cb, 9, none⟩ (.int .i64 99))) := d3_c hc1.drew _ _
    clear H H0 H1 ha ht h3 hx _hmn hmx hs hc1
    generalize fw64 mx = z at *
    go_enter Tryz.func250, Tryz.ntmps250
    go_upto_region 21 with fail
    rw [← hw1]
    clear hw1
    go_region_held3 (fun V => V.cell? ⟨cb, 17, none⟩ = some (.slice (some ⟨rb, 0, none⟩) 5 cap) ∧ V.cell? ⟨cb, 8, none⟩ = some (.int .u64 (x : Int)) ∧ V.cell? ⟨rb, 4, none⟩ = some (.int .i64 z)) (first | with_reducible assumption | exact ⟨d17, d8, d4⟩)
      ((go_at_call 142; with_reducible refine Calls.mono (HS.out _) ?_; rintro e w2 ⟨rfl, rfl⟩))
    all_goals
      go_wp2_with fail
      first | go_end0 | refine bodyPost_ret (results_none rfl _ _ _) rfl ?_
      first | exact ⟨rfl, HQ, HC⟩ | (rw [wi64]; exact ⟨rfl, HQ, HC⟩)
end Go.Proofs.YtaeapikhhbjlnaaGreatDoor
