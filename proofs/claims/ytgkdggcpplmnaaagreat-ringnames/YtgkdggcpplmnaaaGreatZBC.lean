/- TWO SNAPSHOTS AS ONE: Merge, the code's. Own work of the verifier. -/
import Derived.Test.YtgkdggcpplmnaaaGreatZBB
namespace Go.Proofs.YtgkdggcpplmnaaaGreat
open Go.RowKit Me

def zS : Sn := ⟨0, [], 0⟩
/-- What the code's Merge tells. -/
noncomputable def mgS (a b : Sn) : Sn × Int :=
  if (chkS a).1 ≠ 0 then (zS, (chkS a).1) else if (chkS b).1 ≠ 0 then (zS, (chkS b).1) else if a.p ≠ b.p then (zS, 12)
  else if (mvL (mAllV a.vs b.vs)).2 ≠ 0 then (zS, (mvL (mAllV a.vs b.vs)).2) else if (a.r + b.r) % 18446744073709551616 < a.r then (zS, 3)
  else (⟨a.p, (mvL (mAllV a.vs b.vs)).1, (a.r + b.r) % 18446744073709551616⟩, 0)
def MgQ (w : World) (a b : Sn) (e : Ending) (w' : World) : Prop := ∃ u J, e = .returned (.tuple #[.agg #[.int .i64 (mgS a b).1.p, u, .int .u64 ((mgS a b).1.r : Int)], .int .i64 (mgS a b).2]) ∧ Below w.heap.size w w' ∧ JV w u J w' ∧ J.map (·.1) = (mgS a b).1.vs
/-- mergeValues, of the values of two snapshots that may be. -/
theorem mvals_any (A B : List Vl) (va vb : Value) (w : World) (hA : SV w va A) (hB : SV w vb B) (sA : A.length ≤ 256) (sB : B.length ≤ 256) (fA : ∀ x ∈ A, Fit x) (fB : ∀ x ∈ B, Fit x) (oA : Srd A) (oB : Srd B) :
    Calls Tryz.prog 28 #[va, vb] w fun e w' => MvQ w (mAllV A B) e w' := by
  obtain ⟨ao, b, o, cap, RA, rfl, eA, lA, kA, rA, zA⟩ := hA.lf
  obtain ⟨bo, c, p, cap', RB, rfl, eB, lB, kB, rB, zB⟩ := hB.lf
  refine mvals_walk _ _ w (mAllV A B) (by rw [mAllV_len]; omega) (fun x hx => ?_) (no3_of oA oB) (fun _ => ?_)
  · rcases mAllV_mem hx with h | h
    · exact fA x h
    · exact fB x h
  · rw [← lA, ← lB]
    refine (merge_walk ao bo b o cap c p cap' RA RB w kA kB rA rB zA zB (by omega) (by omega)).mono ?_
    rintro e w' ⟨v, rfl, hG⟩
    refine ⟨v, rfl, ?_, hG.below⟩
    have := hG.sv (fun r hr => by
      rcases mAll_mem hr with h | h
      · exact ⟨(zA r h).1.below hG.below, (zA r h).2.below hG.below⟩
      · exact ⟨(zB r h).1.below hG.below, (zB r h).2.below hG.below⟩)
    rw [mAll_map, eA, eB] at this
    exact this
/-- The three blocks of Merge. -/
structure Mb (w : World) (a b : Sn) (ua ub : Value) (W : World) : Prop where
  g1 : W.heap[w.heap.size]? = some (.cells #[.int .i64 a.p, ua, .int .u64 (a.r : Int)] 31 (0, 0))
  g2 : W.heap[w.heap.size + 1]? = some (.cells #[.int .i64 b.p, ub, .int .u64 (b.r : Int)] 31 (0, 0))
  g3 : W.heap[w.heap.size + 1 + 1]? = some (.cells #[.int .i64 0, .slice none 0 0, .int .u64 0] 31 (0, 0))
  bl : Below w.heap.size w W
theorem Mb.below {w W W1 : World} {a b : Sn} {ua ub : Value} (h : Mb w a b ua ub W) (hb : Below W.heap.size W W1) : Mb w a b ua ub W1 := ⟨hkN h.g1 hb, hkN h.g2 hb, hkN h.g3 hb, bt h.bl hb⟩
theorem three_cells {W : World} {b : Nat} {x y z : Value} {t : TypeId} (h : W.heap[b]? = some (.cells #[x, y, z] t (0, 0))) : W.cell? ⟨b, 0, none⟩ = some x ∧ W.cell? ⟨b, 1, none⟩ = some y ∧ W.cell? ⟨b, 2, none⟩ = some z ∧ W.frozen? ⟨b, 0, none⟩ = false ∧ W.frozen? ⟨b, 1, none⟩ = false ∧ W.frozen? ⟨b, 2, none⟩ = false := by
  refine ⟨?_, ?_, ?_, ?_, ?_, ?_⟩ <;> simp [World.cell?, World.frozen?, h]
theorem Mb.new (w : World) (a b : Sn) (ua ub : Value) : Mb w a b ua ub (((w.alloc (.cells #[.int .i64 a.p, ua, .int .u64 (a.r : Int)] 31)).alloc (.cells #[.int .i64 b.p, ub, .int .u64 (b.r : Int)] 31)).alloc (.cells #[.int .i64 0, .slice none 0 0, .int .u64 0] 31)) := by
  have n1 := new_1 w (.cells #[.int .i64 a.p, ua, .int .u64 (a.r : Int)] 31)
  have n2 := new_1 (w.alloc (.cells #[.int .i64 a.p, ua, .int .u64 (a.r : Int)] 31)) (.cells #[.int .i64 b.p, ub, .int .u64 (b.r : Int)] 31)
  have n3 := new_1 ((w.alloc (.cells #[.int .i64 a.p, ua, .int .u64 (a.r : Int)] 31)).alloc (.cells #[.int .i64 b.p, ub, .int .u64 (b.r : Int)] 31)) (.cells #[.int .i64 0, .slice none 0 0, .int .u64 0] 31)
  have e1 : (w.alloc (.cells #[.int .i64 a.p, ua, .int .u64 (a.r : Int)] 31)).heap.size = w.heap.size + 1 := by simp
  have e2 : ((w.alloc (.cells #[.int .i64 a.p, ua, .int .u64 (a.r : Int)] 31)).alloc (.cells #[.int .i64 b.p, ub, .int .u64 (b.r : Int)] 31)).heap.size = w.heap.size + 1 + 1 := by simp
  rw [e1] at n2
  rw [e2] at n3
  exact ⟨hkN (hkN n1 (bel1 _ _)) (bel1 _ _), hkN n2 (bel1 _ _), n3, bt (bt (bel1 _ _) (bel1 _ _)) (bel1 _ _)⟩
def put3 (W : World) (b : Nat) (x y z : Value) : World := ((W.setCell ⟨b, 0, none⟩ x).setCell ⟨b, 1, none⟩ y).setCell ⟨b, 2, none⟩ z
theorem put3_eq (W : World) (b : Nat) (x y z : Value) : ((W.setCell ⟨b, 0, none⟩ x).setCell ⟨b, 1, none⟩ y).setCell ⟨b, 2, none⟩ z = put3 W b x y z := rfl
theorem set_three {W : World} {b : Nat} {u0 u1 u2 x y z : Value} {t : TypeId} (h : W.heap[b]? = some (.cells #[u0, u1, u2] t (0, 0))) : (put3 W b x y z).heap[b]? = some (.cells #[x, y, z] t (0, 0)) := by
  have h1 : (W.setCell ⟨b, 0, none⟩ x).heap[b]? = some (.cells #[x, u1, u2] t (0, 0)) := by rw [heap_setCell_same _ b 0 _ _ _ h]; rfl
  have h2 : ((W.setCell ⟨b, 0, none⟩ x).setCell ⟨b, 1, none⟩ y).heap[b]? = some (.cells #[x, y, u2] t (0, 0)) := by rw [heap_setCell_same _ b 1 _ _ _ h1]; rfl
  unfold put3
  rw [heap_setCell_same _ b 2 _ _ _ h2]; rfl
theorem put3_bel {a W : World} {B b : Nat} (h : Below B a W) (hb : B ≤ b) (x y z : Value) : Below B a (put3 W b x y z) := ((h.setCell (p := ⟨b, 0, none⟩) hb x).setCell (p := ⟨b, 1, none⟩) hb y).setCell (p := ⟨b, 2, none⟩) hb z
theorem own_put3 {W : World} {B b : Nat} {e : TypeId} {s n : Nat} {v : Value} {xs : List Value} (h : W.ownsRow B e s v n xs) (ha : v.ownBlock ≠ some b) (x y z : Value) : (put3 W b x y z).ownsRow B e s v n xs := own_set (own_set (own_set h (a := ⟨b, 0, none⟩) ha x) (a := ⟨b, 1, none⟩) ha y) (a := ⟨b, 2, none⟩) ha z
/-- Joined values stay while a block is written that was there ahead of them. -/
theorem JV.rebase3 {w0 w W : World} {v : Value} {J : List Rv} (h : JV w v J W) (hb : Below w0.heap.size w0 w) {b : Nat} (h1 : w0.heap.size ≤ b) (h2 : b < w.heap.size) (x y z : Value) : JV w0 v J (put3 W b x y z) := by
  have h3 := h.rebase hb
  refine ⟨⟨own_leG (own_put3 h.g.own (own_ne h.g.own h2) x y z) hb.size, put3_bel h3.g.below h1 x y z, ?_⟩, fun r hr => ?_, h.dj⟩
  · unfold put3
    simp only [World.setCell, Array.size_modify]
    exact h3.g.size
  · obtain ⟨k1, k2⟩ := h.el r hr
    exact ⟨own_leG (own_put3 k1 (own_ne k1 h2) x y z) hb.size, own_leG (own_put3 k2 (own_ne k2 h2) x y z) hb.size⟩
theorem mg_err {w W : World} {a b : Sn} {e : Int} (h : mgS a b = (zS, e)) (hb : Below w.heap.size w W) : MgQ w a b (.returned (.tuple #[.agg #[.int .i64 0, .slice none 0 0, .int .u64 0], .int .i64 e])) W :=
  ⟨.slice none 0 0, [], by rw [h]; rfl, hb, ⟨GV.nil hb hb.size, (fun r hr => by cases hr), Dj.nil⟩, by rw [h]; rfl⟩
set_option maxRecDepth 100000 in
set_option maxHeartbeats 8000000 in
theorem merge_any (a b : Sn) (v u : Value) (ha : SnW a) (hb : SnW b) (w : World) (hv : SnAt w a v) (hu : SnAt w b u) :
    Calls Tryz.prog 17 #[v, u] w fun e w' => MgQ w a b e w' := by
  obtain ⟨ua, rfl, sa⟩ := hv
  obtain ⟨ub, rfl, sb⟩ := hu
  have HC1 : Hid (∀ W, Below w.heap.size w W → Calls Tryz.prog 11 #[.agg #[.int .i64 a.p, ua, .int .u64 (a.r : Int)]] W fun e w' => e = two (chkS a).1 ((chkS a).2 : Nat) ∧ Below W.heap.size W w') := fun W h => check_any a _ ha W ⟨ua, rfl, sa.below h⟩
  have HC2 : Hid (∀ W, Below w.heap.size w W → Calls Tryz.prog 11 #[.agg #[.int .i64 b.p, ub, .int .u64 (b.r : Int)]] W fun e w' => e = two (chkS b).1 ((chkS b).2 : Nat) ∧ Below W.heap.size W w') := fun W h => check_any b _ hb W ⟨ub, rfl, sb.below h⟩
  have HMv : Hid ((chkS a).1 = 0 → (chkS b).1 = 0 → ∀ W, Below w.heap.size w W → Calls Tryz.prog 28 #[ua, ub] W fun e w' => MvQ W (mAllV a.vs b.vs) e w') := fun h1 h2 W h => by
    obtain ⟨_, _, l1, k1⟩ := chkS_ok h1
    obtain ⟨_, _, l2, k2⟩ := chkS_ok h2
    refine mvals_any a.vs b.vs ua ub W (sa.below h) (sb.below h) l1 l2 (fun x hx => ?_) (fun x hx => ?_) (chkS_srd h1).1 (chkS_srd h2).1
    · obtain ⟨i, hi, rfl⟩ := List.mem_iff_getElem.1 hx
      exact fit_of (ha.vs _ hx) (k1 i hi)
    · obtain ⟨i, hi, rfl⟩ := List.mem_iff_getElem.1 hx
      exact fit_of (hb.vs _ hx) (k2 i hi)
  obtain ⟨ao, b1, o1, cp1, rfl, -⟩ := sa.open
  obtain ⟨bo, b2, o2, cp2, rfl, -⟩ := sb.open
  have HN := hid_of (Mb.new w a b (.slice ao a.vs.length cp1) (.slice bo b.vs.length cp2))
  have HW := hid_of (⟨ha.r, hb.r⟩ : _ ∧ _)
  obtain ⟨R, hR⟩ : ∃ R, mgS a b = R := ⟨_, rfl⟩
  have HRR := hid_of hR
  unfold mgS at hR
  have HD := hid_of hR
  clear hR
  clear sa sb ha hb
  generalize hk1 : chkS a = ka at *
  generalize hk2 : chkS b = kb at *
  obtain ⟨z1, y1⟩ := ka
  obtain ⟨z2, y2⟩ := kb
  simp only at HC1 HC2 HMv HD
  clear hk1 hk2
  go_enter Tryz.func17, Tryz.ntmps17
  go_upto_region 1 with fail
  generalize ((w.alloc (.cells #[.int .i64 a.p, .slice ao a.vs.length cp1, .int .u64 (a.r : Int)] 31)).alloc (.cells #[.int .i64 b.p, .slice bo b.vs.length cp2, .int .u64 (b.r : Int)] 31)).alloc (.cells #[.int .i64 0, .slice none 0 0, .int .u64 0] 31) = w0 at HN ⊢
  obtain ⟨c0, c1, c2, _, _, _⟩ := three_cells HN.out.g1
  go_upto_region 2 with (go_at_call 11; with_reducible refine (HC1.out _ HN.out.bl).mono ?_; rintro e w1 ⟨rfl, hb1⟩)
  have HJ1 := hid_of (HN.out.below hb1)
  clear c0 c1 c2 HN HC1 hb1
  by_cases hz1 : z1 = 0
  · have hz1' : (z1 != 0) = false := by simpa using hz1
    have HMv1 := hid_of (HMv.out hz1)
    rw [if_neg (by simpa using hz1)] at HD
    clear hz1 HMv
    obtain ⟨d0, d1, d2, _, _, _⟩ := three_cells HJ1.out.g2
    go_upto_region 5 with (go_at_call 11; with_reducible refine (HC2.out _ HJ1.out.bl).mono ?_; rintro e w2 ⟨rfl, hb2⟩)
    have HJ2 := hid_of (HJ1.out.below hb2)
    clear d0 d1 d2 HJ1 HC2 hb2
    by_cases hz2 : z2 = 0
    · have hz2' : (z2 != 0) = false := by simpa using hz2
      have HMv2 := hid_of (HMv1.out hz2)
      rw [if_neg (by simpa using hz2)] at HD
      clear hz2 HMv1
      obtain ⟨c0, c1, c2, _, _, _⟩ := three_cells HJ2.out.g1
      obtain ⟨d0, d1, d2, _, _, _⟩ := three_cells HJ2.out.g2
      by_cases hp : a.p = b.p
      · have hp' : (a.p != b.p) = false := by simpa using hp
        rw [if_neg (by simpa using hp)] at HD
        clear hp
        generalize hL : mAllV a.vs b.vs = L at *
        clear hL
        go_upto_region 10 with (go_at_call 28; (with_reducible refine (HMv2.out _ HJ2.out.bl).mono ?_); rintro e w3 ⟨u3, J3, rfl, hb3, hj3⟩)
        have HJ3 := hid_of (HJ2.out.below hb3)
        have HV3 := hid_of hj3
        have HB2 := hid_of HJ2.out.bl
        have HS2 : Hid (w.heap.size + 1 + 1 < w2.heap.size) := (Array.getElem?_eq_some_iff.1 HJ2.out.g3).1
        clear c0 c1 c2 d0 d1 d2 HJ2 HMv2 hb3 hj3
        obtain ⟨ml, hml⟩ : ∃ ml, mvL L = ml := ⟨_, rfl⟩
        rw [hml] at HD HV3 ⊢
        clear hml
        obtain ⟨mv, me⟩ := ml
        simp only at HD HV3 ⊢
        by_cases hme : me = 0
        · have hme' : (me != 0) = false := by simpa using hme
          obtain ⟨hv1, hv2⟩ := HV3.out hme
          have HVs := hid_of (⟨fun x y z => hv1.rebase3 HB2.out (b := w.heap.size + 1 + 1) (by omega) HS2.out x y z, hv2⟩ : (∀ x y z, _) ∧ _)
          obtain ⟨ua3, ug3, uc3, rfl, -⟩ := own_slice hv1.g.own
          rw [if_neg (by simpa using hme)] at HD
          clear hme HV3 hv1 hv2
          obtain ⟨c0, c1, c2, _, _, _⟩ := three_cells HJ3.out.g1
          obtain ⟨d0, d1, d2, _, _, _⟩ := three_cells HJ3.out.g2
          obtain ⟨Rn, hRn⟩ : ∃ Rn, (a.r + b.r) % 18446744073709551616 = Rn := ⟨_, rfl⟩
          have hwr := wrap_n a.r b.r
          rw [hRn] at hwr HD
          clear hRn
          obtain ⟨s0, s1, s2, f0, f1, f2⟩ := three_cells HJ3.out.g3
          by_cases hlr : Rn < a.r
          · have hlr' : (Rn : Int) < (a.r : Int) := by omega
            rw [if_pos hlr] at HD
            clear hlr HVs
            go_wp2_with fail
            rw [put3_eq]
            obtain ⟨y0, y1, y2, _, _, _⟩ := three_cells (set_three (x := .int .i64 0) (y := .slice none 0 0) (z := .int .u64 0) HJ3.out.g3)
            simp [bodyPost, results, go_sem, y0, y1, y2]
            exact mg_err (HRR.out.trans HD.out.symm) (put3_bel HJ3.out.bl (by omega) _ _ _)
          · have hlr' : ¬ (Rn : Int) < (a.r : Int) := by omega
            rw [if_neg hlr] at HD
            clear hlr
            go_wp2_with fail
            rw [put3_eq]
            obtain ⟨y0, y1, y2, _, _, _⟩ := three_cells (set_three (x := .int .i64 a.p) (y := .slice ua3 J3.length uc3) (z := .int .u64 (Rn : Int)) HJ3.out.g3)
            simp [bodyPost, results, go_sem, y0, y1, y2]
            have hE := HRR.out.trans HD.out.symm
            exact ⟨.slice ua3 J3.length uc3, J3, by rw [hE], put3_bel HJ3.out.bl (by omega) _ _ _, HVs.out.1 _ _ _, by rw [hE]; exact HVs.out.2⟩
        · have hme' : (me != 0) = true := by simpa using hme
          rw [if_pos hme] at HD
          clear hme HV3
          obtain ⟨s0, s1, s2, f0, f1, f2⟩ := three_cells HJ3.out.g3
          go_wp2_with fail
          rw [put3_eq]
          obtain ⟨y0, y1, y2, _, _, _⟩ := three_cells (set_three (x := .int .i64 0) (y := .slice none 0 0) (z := .int .u64 0) HJ3.out.g3)
          simp [bodyPost, results, go_sem, y0, y1, y2]
          exact mg_err (HRR.out.trans HD.out.symm) (put3_bel HJ3.out.bl (by omega) _ _ _)
      · have hp' : (a.p != b.p) = true := by simpa using hp
        rw [if_pos hp] at HD
        clear hp HMv2
        obtain ⟨s0, s1, s2, f0, f1, f2⟩ := three_cells HJ2.out.g3
        go_wp2_with fail
        rw [put3_eq]
        obtain ⟨y0, y1, y2, _, _, _⟩ := three_cells (set_three (x := .int .i64 0) (y := .slice none 0 0) (z := .int .u64 0) HJ2.out.g3)
        simp [bodyPost, results, go_sem, y0, y1, y2]
        exact mg_err (HRR.out.trans HD.out.symm) (put3_bel HJ2.out.bl (by omega) _ _ _)
    · have hz2' : (z2 != 0) = true := by simpa using hz2
      rw [if_pos hz2] at HD
      clear hz2 HMv1
      obtain ⟨s0, s1, s2, f0, f1, f2⟩ := three_cells HJ2.out.g3
      go_wp2_with fail
      rw [put3_eq]
      obtain ⟨y0, y1, y2, _, _, _⟩ := three_cells (set_three (x := .int .i64 0) (y := .slice none 0 0) (z := .int .u64 0) HJ2.out.g3)
      simp [bodyPost, results, go_sem, y0, y1, y2]
      exact mg_err (HRR.out.trans HD.out.symm) (put3_bel HJ2.out.bl (by omega) _ _ _)
  · have hz1' : (z1 != 0) = true := by simpa using hz1
    rw [if_pos hz1] at HD
    clear hz1 HMv HC2
    obtain ⟨s0, s1, s2, f0, f1, f2⟩ := three_cells HJ1.out.g3
    go_wp2_with fail
    rw [put3_eq]
    obtain ⟨y0, y1, y2, _, _, _⟩ := three_cells (set_three (x := .int .i64 0) (y := .slice none 0 0) (z := .int .u64 0) HJ1.out.g3)
    simp [bodyPost, results, go_sem, y0, y1, y2]
    exact mg_err (HRR.out.trans HD.out.symm) (put3_bel HJ1.out.bl (by omega) _ _ _)
end Go.Proofs.YtgkdggcpplmnaaaGreat
