/- THE LAW'S few. Own work of the verifier. -/
import Derived.Test.YtckdkcnnfjbdmaaGreatZQA
namespace Go.Proofs.YtckdkcnnfjbdmaaGreat
open Go.RowKit Me

/-- What a value weighs. -/
def wgtV (x : Vl) : Nat := 1 + x.cs.length + x.d.labels.length
def wgtL (L : List Vl) : Nat := (L.map wgtV).sum
def wgtS (l : List Sn) : Nat := (l.map (fun s => wgtL s.vs)).sum
theorem wgt_mem {L : List Vl} {x : Vl} (h : x ∈ L) : x.cs.length + x.d.labels.length + 1 ≤ wgtL L := by
  induction L with
  | nil => cases h
  | cons a L ih =>
    unfold wgtL at *
    rw [List.map_cons, List.sum_cons]
    rcases List.mem_cons.1 h with rfl | k
    · unfold wgtV; omega
    · have := ih k; omega
theorem wgtL_len (L : List Vl) : L.length ≤ wgtL L := by
  induction L with
  | nil => simp [wgtL]
  | cons a L ih =>
    have e : wgtL (a :: L) = wgtV a + wgtL L := by unfold wgtL; rw [List.map_cons, List.sum_cons]
    have e2 : 1 ≤ wgtV a := by unfold wgtV; omega
    rw [e, List.length_cons]
    omega
theorem wgtL_take (L : List Vl) (k : Nat) (h : k < L.length) : wgtL (L.take (k + 1)) = wgtL (L.take k) + wgtV L[k] := by
  unfold wgtL
  rw [List.take_succ_eq_append_getElem h, List.map_append, List.sum_append]
  simp
theorem wgtL_takes (L : List Vl) (k : Nat) : wgtL (L.take k) ≤ wgtL L := by
  unfold wgtL
  conv => rhs; rw [← List.take_append_drop k L]
  rw [List.map_append, List.sum_append]
  omega
theorem wgtS_take (l : List Sn) (i : Nat) (h : i < l.length) : wgtS (l.take (i + 1)) = wgtS (l.take i) + wgtL l[i].vs := by
  unfold wgtS
  rw [List.take_succ_eq_append_getElem h, List.map_append, List.sum_append]
  simp
theorem wgtS_takes (l : List Sn) (i : Nat) : wgtS (l.take i) ≤ wgtS l := by
  unfold wgtS
  conv => rhs; rw [← List.take_append_drop i l]
  rw [List.map_append, List.sum_append]
  omega
/-- A row of snapshots. -/
def RowS (W : World) (b : Nat) (l : List Sn) : Prop := ∀ i (h : i < l.length), ∃ u, W.cell? ⟨b, i * 3, none⟩ = some (.int .i64 l[i].p) ∧ W.cell? ⟨b, i * 3 + 1, none⟩ = some u ∧ W.cell? ⟨b, i * 3 + 2, none⟩ = some (.int .u64 (l[i].r : Int)) ∧ SV W u l[i].vs
theorem sizeSn (W : World) : (sizeOf 26).run Tryz.prog W = .ok 3 W := by simp [sizeOf]; rfl
theorem index_sn (b len cap j : Nat) (z : Int) (hz : z = (j : Int)) (hj : j < len) (W : World) :
    (Instr.indexAt 67 (.slice (some ⟨b, 0, none⟩) len cap) (.int .i64 z)).run Tryz.prog W = .ok (.pointer (some ⟨b, j * 3, none⟩)) W := by
  subst hz
  have he : Tryz.prog.elem 67 = 26 := by simp [Program.elem, Tryz.underlying67]
  rw [run_indexAt_slice W 67 ⟨b, 0, none⟩ len cap .i64 (j : Int) (by rw [he]; exact Tryz.underlying67), if_pos (by omega), he, sizeSn]
  simp [Addr.add]
  omega
set_option maxRecDepth 100000 in
set_option maxHeartbeats 8000000 in
theorem few_any (b cap : Nat) (l : List Sn) (hl : l.length ≤ 3) (w : World) (hr : RowS w b l) (hw : ∀ s ∈ l, ∀ x ∈ s.vs, x.cs.length ≤ 8796093022208 ∧ x.d.labels.length ≤ 4398046511104) :
    Calls Tryz.prog 15 #[.slice (some ⟨b, 0, none⟩) l.length cap] w fun e w' => e = .returned (.bool (decide (wgtS l ≤ 1048576))) ∧ Below w.heap.size w w' := by
  have HR := hid_of hr
  have HW := hid_of hw
  obtain ⟨Q, hQ⟩ : ∃ Q, Q = decide (wgtS l ≤ 1048576) := ⟨_, rfl⟩
  rw [← hQ]
  have HQ := hid_of hQ
  have H0 : Hid ((1048576 : Int) = 1048576 - (wgtS (l.take 0) : Int) ∧ (0 : Int) ≤ 1048576 ∨ (1048576 : Int) < 0 ∧ 1048576 < wgtS l) := Or.inl ⟨rfl, by decide⟩
  clear hr hw hQ
  go_enter Tryz.func15, Tryz.ntmps15
  go_upto_region 3 with fail
  go_loopw [3, 4] (fun x y W => ∃ (acc : Int) (i n : Nat), i ≤ l.length ∧ -281474976710656 ≤ acc ∧ acc ≤ 1048576 ∧ x = .int .i64 acc ∧ y = .int .i64 (i : Int) ∧ W = w.drewN n ∧ Hid (acc = 1048576 - (wgtS (l.take i) : Int) ∧ 0 ≤ acc ∨ acc < 0 ∧ 1048576 < wgtS l)) (fun _ y _ => l.length - (intOf y).toNat)
  case atStart => exact ⟨1048576, 0, 0, by omega, by omega, by omega, rfl, rfl, rfl, H0⟩
  case round =>
    clear H0
    obtain ⟨acc, i, n, hi, ha1, ha2, rfl, rfl, rfl, HI⟩ := hrel
    by_cases hlt : i < l.length
    · have hlt' : (i : Int) < (l.length : Int) := by omega
      have hix := index_sn b l.length cap i (i : Int) rfl hlt
      obtain ⟨u, c0, c1, c2, hs⟩ := HR.out i hlt
      obtain ⟨ao, vb, vo, vcap, rfl, hao, hvc, hvc2, hv⟩ := hs.open
      have HV := hid_of hv
      have HWi := hid_of (HW.out _ (List.getElem_mem hlt))
      have HI0 : Hid (acc = 1048576 - ((wgtS (l.take i) + wgtL (l[i].vs.take 0) : Nat) : Int) ∧ 0 ≤ acc ∨ acc < 0 ∧ 1048576 < wgtS l) := HI.out
      have HTk := hid_of (wgtS_take l i hlt)
      have HTs := hid_of (wgtS_takes l (i + 1))
      clear HI hs hv HW
      go_upto_region 6 with fail
      go_loopw [3, 5] (fun x y W => ∃ (acc : Int) (k m : Nat), k ≤ l[i].vs.length ∧ -281474976710656 ≤ acc ∧ acc ≤ 1048576 ∧ x = .int .i64 acc ∧ y = .int .i64 (k : Int) ∧ W = w.drewN m ∧ Hid (acc = 1048576 - ((wgtS (l.take i) + wgtL (l[i].vs.take k) : Nat) : Int) ∧ 0 ≤ acc ∨ acc < 0 ∧ 1048576 < wgtS l)) (fun _ y _ => l[i].vs.length - (intOf y).toNat)
      case atStart => exact ⟨acc, 0, n, by omega, ha1, ha2, rfl, rfl, rfl, HI0⟩
      case round =>
        clear HI0
        obtain ⟨acc, k, m, hk, hb1, hb2, rfl, rfl, rfl, HI⟩ := hrel
        by_cases hkt : k < l[i].vs.length
        · have hkt' : (k : Int) < (l[i].vs.length : Int) := by omega
          by_cases hac : 0 ≤ acc
          · obtain rfl := hao (by intro e; rw [e] at hkt; simp at hkt)
            have hiy := index_val vb vo l[i].vs.length vcap k (k : Int) rfl hkt
            obtain ⟨lx, cx, g1, g2, g3⟩ := HV.out k hkt
            obtain ⟨xa, xc, rfl⟩ := g2.form
            obtain ⟨ya, yc, rfl⟩ := g3.form
            obtain ⟨q1, q2⟩ := HWi.out _ (List.getElem_mem hkt)
            have hr3 := g1.c3
            have hr6 := g1.c6
            have HTv := hid_of (wgtL_take l[i].vs k hkt)
            have HTl := hid_of (wgtL_takes l[i].vs (k + 1))
            obtain ⟨C, hC⟩ : ∃ C, l[i].vs[k].cs.length = C := ⟨_, rfl⟩
            obtain ⟨D, hD⟩ : ∃ D, l[i].vs[k].d.labels.length = D := ⟨_, rfl⟩
            have HI2 : Hid (acc - (1 + (C : Int) + (D : Int)) = 1048576 - ((wgtS (l.take i) + wgtL (l[i].vs.take (k + 1)) : Nat) : Int) ∧ 0 ≤ acc - (1 + (C : Int) + (D : Int)) ∨ acc - (1 + (C : Int) + (D : Int)) < 0 ∧ 1048576 < wgtS l) := by
              have e1 := HTv.out
              have e2 := HTk.out
              have e3 := HTs.out
              have e4 := HTl.out
              unfold wgtV at e1
              rw [hC, hD] at e1
              unfold Hid
              rcases HI.out with q | q <;> omega
            rw [hC] at hr6 q1
            rw [hD] at hr3 q2
            clear g1 g2 g3 hC hD HI HTv HTl HTk HTs
            obtain ⟨acc2, hacc2⟩ : ∃ acc2, acc - (1 + (C : Int) + (D : Int)) = acc2 := ⟨_, rfl⟩
            have w1 : IntKind.i64.wrap (1 + (C : Int)) = 1 + (C : Int) := by rw [IntKind.wrap_i64]; omega
            have w2 : IntKind.i64.wrap (1 + (C : Int) + (D : Int)) = 1 + (C : Int) + (D : Int) := by rw [IntKind.wrap_i64]; omega
            have w3 : IntKind.i64.wrap (acc - (1 + (C : Int) + (D : Int))) = acc2 := by rw [IntKind.wrap_i64]; omega
            have hb3 : Hid (-281474976710656 ≤ acc2 ∧ acc2 ≤ 1048576) := by unfold Hid; omega
            rw [hacc2] at HI2
            clear hacc2
            go_upto_region 8 with fail
            go_region
            go_wp2_with fail
            exact ⟨⟨acc2, k + 1, m + 1, by omega, hb3.out.1, hb3.out.2, rfl, by go_num, rfl, HI2⟩, by simp [intOf]; omega⟩
          · have hac' : ¬ 0 ≤ acc := hac
            as_aux_lemma =>
              go_wp2_with fail
              exact ⟨⟨acc, i + 1, m, by omega, hb1, hb2, rfl, by go_num, rfl, by
                rcases HI.out with q | q
                · omega
                · exact Or.inr q⟩, by simp [intOf]; omega⟩
        · have hkt' : ¬ (k : Int) < (l[i].vs.length : Int) := by omega
          have HI2 : Hid (acc = 1048576 - (wgtS (l.take (i + 1)) : Int) ∧ 0 ≤ acc ∨ acc < 0 ∧ 1048576 < wgtS l) := by
            have := HI.out
            rw [show l[i].vs.take k = l[i].vs from List.take_of_length_le (by omega), ← HTk.out] at this
            exact this
          clear HI
          as_aux_lemma =>
            go_wp2_with fail
            exact ⟨⟨acc, i + 1, m, by omega, hb1, hb2, rfl, by go_num, rfl, HI2⟩, by simp [intOf]; omega⟩
    · have hlt' : ¬ (i : Int) < (l.length : Int) := by omega
      have HE : Hid (Q = decide (0 ≤ acc)) := by
        unfold Hid
        rw [HQ.out]
        apply decide_eq_decide.2
        have := HI.out
        rw [List.take_of_length_le (by omega)] at this
        rcases this with q | q <;> omega
      clear HI
      as_aux_lemma =>
        go_wp2_with fail
        go_ret
        exact ⟨retB HE.out.symm, bel_drewNB (Below.refl _ _) n⟩
end Go.Proofs.YtckdkcnnfjbdmaaGreat
