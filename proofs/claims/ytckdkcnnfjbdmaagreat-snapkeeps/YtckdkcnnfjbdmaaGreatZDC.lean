/- TWO SNAPSHOTS AS ONE, the document's: the walk of Merge, and where what it tells lies. Own work of the verifier. -/
import Derived.Test.YtckdkcnnfjbdmaaGreatZD9
namespace Go.Proofs.YtckdkcnnfjbdmaaGreat
open Go.RowKit Me

/-- Where the merged values lie at the end. -/
theorem Mo.fin2 {wb wo W : World} {p : Int} {r : Nat} {v : Value} {R : List Rv} (h : Mo wb wo p r v R W) {b B : Nat} (h2 : b < wo.heap.size) (hB : B ≤ wo.heap.size) (x y z : Value) : (put3 W b x y z).ownsRow B 45 11 v R.length (flV R) ∧ ∀ q ∈ R, SLb wb q.2.1 q.1.d.labels ∧ (SN wb q.2.2 q.1.cs ∨ OwnC B q.2.2 q.1.cs (put3 W b x y z)) := by
  refine ⟨own_leG (own_put3 h.own (own_ne h.own (by omega)) x y z) (by omega), fun q hq => ?_⟩
  obtain ⟨k1, k2⟩ := h.el q hq
  refine ⟨k1, k2.imp id (fun k => ?_)⟩
  exact own_leG (own_put3 k (own_ne k (by omega)) x y z) (by omega)
/-- What the document's Merge tells, and where it lies: its row is new; each list is new, or lay in the memory that the two lie in. -/
def RwQ (wb w : World) (a b : Sn) (e : Ending) (w' : World) : Prop := ∃ x R, e = .returned (.tuple #[.agg #[.int .i64 (mgS a b).1.p, x, .int .u64 ((mgS a b).1.r : Int)], .int .i64 (mgS a b).2]) ∧ w'.ownsRow w.heap.size 45 11 x R.length (flV R) ∧ (∀ q ∈ R, SLb wb q.2.1 q.1.d.labels ∧ (SN wb q.2.2 q.1.cs ∨ OwnC w.heap.size q.2.2 q.1.cs w')) ∧ R.map (·.1) = (mgS a b).1.vs ∧ Below w.heap.size w w'
theorem rw_err {wb w W : World} {a b : Sn} {e : Int} (h : mgS a b = (zS, e)) (hb : Below w.heap.size w W) : RwQ wb w a b (.returned (.tuple #[.agg #[.int .i64 0, .slice none 0 0, .int .u64 0], .int .i64 e])) W := ⟨.slice none 0 0, [], by rw [h]; rfl, World.ownsRow_nil _ _ _ _, (fun q hq => by cases hq), by rw [h]; rfl, hb⟩
/-- What a round holds on to: the two snapshots, the merged one. -/
structure Mr (wb w wo : World) (a b : Sn) (ua ub : Value) (p : Int) (r : Nat) (v : Value) (R : List Rv) (i k : Nat) (f : Int) (W : World) : Prop where
  mb : Mb w a b ua ub wo
  mo : Mo wb wo p r v R W
  di : DI a.vs b.vs i k f R
theorem Mr.mbW {wb w wo W : World} {a b : Sn} {ua ub : Value} {p : Int} {r : Nat} {v : Value} {R : List Rv} {i k : Nat} {f : Int} (h : Mr wb w wo a b ua ub p r v R i k f W) : Mb w a b ua ub W := h.mb.below h.mo.bl
/-- What a region of a round holds on to that reads a value of each. -/
abbrev S2m (wb w w3 : World) (a b : Sn) (ua ub : Value) (p : Int) (r : Nat) (v : Value) (R : List Rv) (ba oa bb ob : Nat) (x y : Vl) (lx cx ly cy : Value) (W : World) : Prop := W.cell? ⟨w.heap.size, 1, none⟩ = some ua ∧ W.cell? ⟨w.heap.size + 1, 1, none⟩ = some ub ∧ cC ba oa x lx cx W ∧ cC bb ob y ly cy W ∧ KR ba oa x lx cx W ∧ KR bb ob y ly cy W ∧ Mb w a b ua ub W ∧ Mo wb w3 p r v R W
theorem s2m_of {wb w w3 W : World} {a b : Sn} {ua ub : Value} {p : Int} {r : Nat} {v : Value} {R : List Rv} {ba oa bb ob : Nat} {x y : Vl} {lx cx ly cy : Value} (h1 : KR ba oa x lx cx W) (h2 : KR bb ob y ly cy W) (h3 : Mb w a b ua ub W) (h4 : Mo wb w3 p r v R W) : S2m wb w w3 a b ua ub p r v R ba oa bb ob x y lx cx ly cy W := ⟨(three_cells h3.g1).2.1, (three_cells h3.g2).2.1, h1.c.cC, h2.c.cC, h1, h2, h3, h4⟩
theorem keep2m {wb w w3 W W1 : World} {a b : Sn} {ua ub : Value} {p : Int} {r : Nat} {v : Value} {R : List Rv} {ba oa bb ob : Nat} {x y : Vl} {lx cx ly cy : Value} (hb : Below W.heap.size W W1) (h : S2m wb w w3 a b ua ub p r v R ba oa bb ob x y lx cx ly cy W) : S2m wb w w3 a b ua ub p r v R ba oa bb ob x y lx cx ly cy W1 := s2m_of (h.2.2.2.2.1.below hb) (h.2.2.2.2.2.1.below hb) (h.2.2.2.2.2.2.1.below hb) (h.2.2.2.2.2.2.2.keep hb)
set_option maxRecDepth 100000 in
set_option maxHeartbeats 8000000 in
theorem rmerge_at (a b : Sn) (v u : Value) (ha : SnW a) (hb : SnW b) (wb w : World) (hbw : Below wb.heap.size wb w) (hv : SnAt wb a v) (hu : SnAt wb b u) :
    Calls Tryz.prog 13 #[v, u] w fun e w' => RwQ wb w a b e w' := by
  obtain ⟨ua, rfl, sa⟩ := hv
  obtain ⟨ub, rfl, sb⟩ := hu
  have HC1 : Hid (∀ W, Below w.heap.size w W → Calls Tryz.prog 11 #[.agg #[.int .i64 a.p, ua, .int .u64 (a.r : Int)]] W fun e w' => e = two (chkS a).1 ((chkS a).2 : Nat) ∧ Below W.heap.size W w') := fun W h => rcheck_any a _ ha W ⟨ua, rfl, sa.below (bt hbw h)⟩
  have HC2 : Hid (∀ W, Below w.heap.size w W → Calls Tryz.prog 11 #[.agg #[.int .i64 b.p, ub, .int .u64 (b.r : Int)]] W fun e w' => e = two (chkS b).1 ((chkS b).2 : Nat) ∧ Below W.heap.size W w') := fun W h => rcheck_any b _ hb W ⟨ub, rfl, sb.below (bt hbw h)⟩
  have HUn : Hid ((chkS a).1 = 0 → (chkS b).1 = 0 → ∀ W, Below w.heap.size w W → Calls Tryz.prog 33 #[ua, ub] W fun e w' => e = .returned (.bool (unX a.vs b.vs)) ∧ Below W.heap.size W w') := fun h1 h2 W h => runlike_any a.vs b.vs ua ub W (sa.below (bt hbw h)) (sb.below (bt hbw h)) (chkS_ok h1).2.2.1 (chkS_ok h2).2.2.1
  have HFt : Hid ((chkS a).1 = 0 → (chkS b).1 = 0 → (a.vs.length ≤ 256 ∧ b.vs.length ≤ 256 ∧ (∀ x ∈ a.vs, Fit x) ∧ ∀ x ∈ b.vs, Fit x)) := fun h1 h2 => by
    obtain ⟨_, _, l1, k1⟩ := chkS_ok h1
    obtain ⟨_, _, l2, k2⟩ := chkS_ok h2
    refine ⟨l1, l2, fun x hx => ?_, fun x hx => ?_⟩
    · obtain ⟨i, hi, rfl⟩ := List.mem_iff_getElem.1 hx
      exact fit_of (ha.vs _ hx) (k1 i hi)
    · obtain ⟨i, hi, rfl⟩ := List.mem_iff_getElem.1 hx
      exact fit_of (hb.vs _ hx) (k2 i hi)
  have HD0 : Hid ((chkS a).1 ≠ 0 → mgS a b = (zS, (chkS a).1)) := fun h => by unfold mgS; rw [if_pos h]
  have HD1 : Hid ((chkS a).1 = 0 → (chkS b).1 ≠ 0 → mgS a b = (zS, (chkS b).1)) := fun h k => by unfold mgS; rw [if_neg (by simpa using h), if_pos k]
  have HD2 : Hid ((chkS a).1 = 0 → (chkS b).1 = 0 → _) := fun h1 h2 => mg_doc h1 h2
  obtain ⟨ao, b1, o1, cp1, rfl, hao, hcA, hcA2, hrA⟩ := sa.open
  obtain ⟨bo, b2, o2, cp2, rfl, hbo, hcB, hcB2, hrB⟩ := sb.open
  have HN := hid_of (Mb.new w a b (.slice ao a.vs.length cp1) (.slice bo b.vs.length cp2))
  have HBW := hid_of hbw
  have HRA := hid_of hrA
  have HRB := hid_of hrB
  clear sa sb ha hb hrA hrB hbw
  generalize hk1 : chkS a = ka at *
  generalize hk2 : chkS b = kb at *
  obtain ⟨z1, y1⟩ := ka
  obtain ⟨z2, y2⟩ := kb
  simp only at HC1 HC2 HUn HD0 HD1 HD2 HFt
  clear hk1 hk2
  go_enter Tryz.func13, Tryz.ntmps13
  go_upto_region 1 with fail
  generalize ((w.alloc (.cells #[.int .i64 a.p, .slice ao a.vs.length cp1, .int .u64 (a.r : Int)] 26)).alloc (.cells #[.int .i64 b.p, .slice bo b.vs.length cp2, .int .u64 (b.r : Int)] 26)).alloc (.cells #[.int .i64 0, .slice none 0 0, .int .u64 0] 26) = w0 at HN ⊢
  obtain ⟨c0, c1, c2, _, _, _⟩ := three_cells HN.out.g1
  go_upto_region 2 with (go_at_call 11; with_reducible refine (HC1.out _ HN.out.bl).mono ?_; rintro e w1 ⟨rfl, hb1⟩)
  have HJ1 := hid_of (HN.out.below hb1)
  clear c0 c1 c2 HN HC1 hb1
  by_cases hz1 : z1 = 0
  case neg =>
    have hz1' : (z1 != 0) = true := by simpa using hz1
    have HD := hid_of (HD0.out hz1)
    clear hz1 HUn HC2 HD0 HD1 HD2 HFt HRA HRB
    obtain ⟨s0, s1, s2, f0, f1, f2⟩ := three_cells HJ1.out.g3
    go_wp2_with fail
    rw [put3_eq]
    obtain ⟨y0, y1, y2, _, _, _⟩ := three_cells (set_three (x := .int .i64 0) (y := .slice none 0 0) (z := .int .u64 0) HJ1.out.g3)
    simp [bodyPost, results, go_sem, y0, y1, y2]
    exact rw_err HD.out (put3_bel HJ1.out.bl (by omega) _ _ _)
  case pos =>
  have hz1' : (z1 != 0) = false := by simpa using hz1
  have HU1 := hid_of (HUn.out hz1)
  have HF1 := hid_of (HFt.out hz1)
  have HE1 := hid_of (HD1.out hz1)
  have HE2 := hid_of (HD2.out hz1)
  clear hz1 HUn HFt HD0 HD1 HD2
  obtain ⟨d0, d1, d2, _, _, _⟩ := three_cells HJ1.out.g2
  go_upto_region 5 with (go_at_call 11; with_reducible refine (HC2.out _ HJ1.out.bl).mono ?_; rintro e w2 ⟨rfl, hb2⟩)
  have HJ2 := hid_of (HJ1.out.below hb2)
  clear d0 d1 d2 HJ1 HC2 hb2
  by_cases hz2 : z2 = 0
  case neg =>
    have hz2' : (z2 != 0) = true := by simpa using hz2
    have HD := hid_of (HE1.out hz2)
    clear hz2 HU1 HF1 HE1 HE2 HRA HRB
    obtain ⟨s0, s1, s2, f0, f1, f2⟩ := three_cells HJ2.out.g3
    go_wp2_with fail
    rw [put3_eq]
    obtain ⟨y0, y1, y2, _, _, _⟩ := three_cells (set_three (x := .int .i64 0) (y := .slice none 0 0) (z := .int .u64 0) HJ2.out.g3)
    simp [bodyPost, results, go_sem, y0, y1, y2]
    exact rw_err HD.out (put3_bel HJ2.out.bl (by omega) _ _ _)
  case pos =>
  have hz2' : (z2 != 0) = false := by simpa using hz2
  have HU2 := hid_of (HU1.out hz2)
  obtain ⟨l1, l2, fitA, fitB⟩ := HF1.out hz2
  have HFa := hid_of fitA
  have HFb := hid_of fitB
  have HE := hid_of (HE2.out hz2)
  clear hz2 HU1 HF1 HE1 HE2 fitA fitB
  obtain ⟨c0, c1, c2, _, _, _⟩ := three_cells HJ2.out.g1
  obtain ⟨d0, d1, d2, _, _, _⟩ := three_cells HJ2.out.g2
  obtain ⟨ux, hux⟩ : ∃ ux, unX a.vs b.vs = ux := ⟨_, rfl⟩
  rw [hux] at HU2 HE
  clear hux
  go_upto_region 8 with (go_at_call 33; with_reducible refine (HU2.out _ HJ2.out.bl).mono ?_; rintro e w3 ⟨rfl, hb3⟩)
  have HJ3 := hid_of (HJ2.out.below hb3)
  clear c0 c1 c2 d0 d1 d2 HJ2 HU2 hb3
  obtain ⟨c0, c1, c2, _, _, _⟩ := three_cells HJ3.out.g1
  obtain ⟨d0, d1, d2, _, _, _⟩ := three_cells HJ3.out.g2
  by_cases hp : a.p = b.p
  case neg =>
    have hp' : (a.p != b.p) = true := by simpa using hp
    rw [if_pos hp] at HE
    clear hp HFa HFb HRA HRB
    obtain ⟨s0, s1, s2, f0, f1, f2⟩ := three_cells HJ3.out.g3
    go_wp2_with fail
    rw [put3_eq]
    obtain ⟨y0, y1, y2, _, _, _⟩ := three_cells (set_three (x := .int .i64 0) (y := .slice none 0 0) (z := .int .u64 0) HJ3.out.g3)
    simp [bodyPost, results, go_sem, y0, y1, y2]
    exact rw_err HE.out (put3_bel HJ3.out.bl (by omega) _ _ _)
  case pos =>
  have hp' : (a.p != b.p) = false := by simpa using hp
  rw [if_neg (by simpa using hp)] at HE
  clear hp
  cases ux
  case true =>
    rw [if_pos rfl] at HE
    clear HFa HFb HRA HRB
    obtain ⟨s0, s1, s2, f0, f1, f2⟩ := three_cells HJ3.out.g3
    go_wp2_with fail
    rw [put3_eq]
    obtain ⟨y0, y1, y2, _, _, _⟩ := three_cells (set_three (x := .int .i64 0) (y := .slice none 0 0) (z := .int .u64 0) HJ3.out.g3)
    simp [bodyPost, results, go_sem, y0, y1, y2]
    exact rw_err HE.out (put3_bel HJ3.out.bl (by omega) _ _ _)
  case false =>
  rw [if_neg (by decide)] at HE
  obtain ⟨Rn, hRn⟩ : ∃ Rn, (a.r + b.r) % 18446744073709551616 = Rn := ⟨_, rfl⟩
  have hwr := wrap_n a.r b.r
  rw [hRn] at hwr HE
  clear hRn
  have HM0 : Hid (Mr wb w w3 a b (.slice ao a.vs.length cp1) (.slice bo b.vs.length cp2) a.p Rn (.slice none 0 0) [] 0 0 0 (w3.alloc (.cells #[.int .i64 a.p, .slice none 0 0, .int .u64 (Rn : Int)] 26))) := ⟨HJ3.out, Mo.new (bt HBW.out HJ3.out.bl) a.p Rn, DI.new _ _⟩
  have HA3 := HRA
  have HB3 := HRB
  have HBw := hid_of (bt HBW.out HJ3.out.bl)
  clear HRA HRB
  go_upto_region 13 with fail
  clear c0 c1 c2 d0 d1 d2 hwr HJ3
  go_loopw [10, 11, 12] (fun x y z W => ∃ (f : Int) (i k : Nat) (vv : Value) (R : List Rv), i ≤ a.vs.length ∧ k ≤ b.vs.length ∧ x = .int .i64 f ∧ y = .int .i64 (i : Int) ∧ z = .int .i64 (k : Int) ∧ Hid (Mr wb w w3 a b (.slice ao a.vs.length cp1) (.slice bo b.vs.length cp2) a.p Rn vv R i k f W)) (fun _ y z _ => (a.vs.length - (intOf y).toNat) + (b.vs.length - (intOf z).toNat))
  case atStart => exact ⟨0, 0, 0, _, [], by omega, by omega, rfl, rfl, rfl, HM0⟩
  case round =>
    clear HM0
    obtain ⟨f, i, k, vv, R, hi, hk, rfl, rfl, rfl, HM⟩ := hrel
    obtain ⟨c0, c1, c2, _, _, _⟩ := three_cells HM.out.mbW.g1
    obtain ⟨d0, d1, d2, _, _, _⟩ := three_cells HM.out.mbW.g2
    obtain ⟨e0, e1, e2, fz0, fz1, fz2⟩ := three_cells HM.out.mo.go
    obtain ⟨va, vg, vcap, rfl, -⟩ := own_slice HM.out.mo.own
    have HRl : Hid (R.length ≤ 1048576) := by have := HM.out.di.n; unfold Hid; omega
    have hs1 : w.heap.size < wr.heap.size := lt_of_cell c0
    have hs2 : w.heap.size + 1 < wr.heap.size := lt_of_cell d0
    have hs3 : w3.heap.size < wr.heap.size := lt_of_cell e0
    by_cases hkt : k < b.vs.length
    case neg =>
      have hkt' : ¬ (k : Int) < (b.vs.length : Int) := by omega
      have hke : ((k : Int) == (b.vs.length : Int)) = true := by rw [beq_iff_eq]; omega
      have hke2 : (k == b.vs.length) = true := by rw [beq_iff_eq]; omega
      by_cases hit : i < a.vs.length
      case pos =>
        have hit' : (i : Int) < (a.vs.length : Int) := by omega
        have HDm := hid_of (dm_a (B := b.vs) (k := k) hit (by omega))
        obtain rfl := hao (by intro e; rw [e] at hit; simp at hit)
        obtain ⟨lx, cx, g1, g2, g3⟩ := HA3.out i hit
        obtain ⟨xa, xc, rfl⟩ := g2.form
        obtain ⟨ya, yc, rfl⟩ := g3.form
        have HSA := hid_of g3
        have HElA : Hid (El wb w3 (a.vs[i], .slice xa a.vs[i].d.labels.length xc, .slice ya a.vs[i].cs.length yc) wr) := ⟨g2, Or.inl g3⟩
        have hix := index_val b1 o1 a.vs.length cp1 i (i : Int) rfl hit
        have hbW := bt HBw.out HM.out.mo.bl
        have hgA := g1.below hbW
        have HKA := hid_of (⟨hgA, g2.below hbW, g3.below hbW⟩ : KR b1 (o1 + i * 11) a.vs[i] (.slice xa a.vs[i].d.labels.length xc) (.slice ya a.vs[i].cs.length yc) wr)
        have hsb : b1 < wr.heap.size := lt_of_cell hgA.c0
        obtain ⟨r0, r1, r2, r3, r4, r5, r6, r7, r8, r9, r10⟩ := hgA.cC
        clear hgA g1 g2 g3
        go_upto_region 27 with fail
        go_cut [] from 121 to 130 (fun W => ∃ v', Hid (Mo wb w3 a.p Rn v' (R ++ [((a.vs[i], .slice xa a.vs[i].d.labels.length xc, .slice ya a.vs[i].cs.length yc) : Rv)]) W))
        case first =>
          have HEl : Hid (El wb w3 (a.vs[i], .slice xa a.vs[i].d.labels.length xc, .slice ya a.vs[i].cs.length yc) wr) := HElA.out
          have HZl : Hid (Lz [((a.vs[i], .slice xa a.vs[i].d.labels.length xc, .slice ya a.vs[i].cs.length yc) : Rv)]) := lz_one ⟨rfl, rfl⟩
          have HPu := hid_of (fun (g cap : Nat) (w5 : World) (ho5 : w5.ownsRow (w3.heap.size + 1) 45 11 (.slice (some ⟨g, 0, none⟩) (R.length + 1) cap) (R.length + 1) (flV R ++ flV [((a.vs[i], .slice xa a.vs[i].d.labels.length xc, .slice ya a.vs[i].cs.length yc) : Rv)])) (hg5 : (wr.alloc (.cells (cl (a.vs[i], .slice xa a.vs[i].d.labels.length xc, .slice ya a.vs[i].cs.length yc)).toArray 45)).grownBy w5 (Value.slice va R.length vcap).ownBlock) => (HM.out.mo.keep (bel1 _ _)).push (HEl.out.keep (bel1 _ _)) ho5 hg5)
          have HGo := hid_of (fun (w5 : World) (hg5 : (wr.alloc (.cells (cl (a.vs[i], .slice xa a.vs[i].d.labels.length xc, .slice ya a.vs[i].cs.length yc)).toArray 45)).grownBy w5 (Value.slice va R.length vcap).ownBlock) => three_cells (mo_cell (HM.out.mo.keep (bel1 _ _)) hg5))
          have HOw := hid_of (own_belG HM.out.mo.own (bel1 wr (.cells (cl (a.vs[i], .slice xa a.vs[i].d.labels.length xc, .slice ya a.vs[i].cs.length yc)).toArray 45)))
          have HNw := hid_of (new_1 wr (.cells (cl (a.vs[i], .slice xa a.vs[i].d.labels.length xc, .slice ya a.vs[i].cs.length yc)).toArray 45))
          clear HM HDm HFa HFb HE HA3 HB3 HBw HEl
          go_region_law (refine step_mo (by rfl) _ _ (by rfl) (by rfl) HOw.out (by simp; omega) HRl.out wr.heap.size (by rfl) (a.vs[i], .slice xa a.vs[i].d.labels.length xc, .slice ya a.vs[i].cs.length yc) HZl.out HNw.out ?_; intro g5 cap5 w5 ho5 hg5'; have hg5 := grown_drew hg5'; obtain ⟨q0, q1, q2, p0, p1, p2⟩ := HGo.out _ hg5)
          all_goals
            go_wp2_with fail
            go_meet
            exact ⟨_, HPu.out _ _ _ ho5 hg5⟩
        case rest =>
        obtain ⟨v6, HM6⟩ := hcut
        clear r0 r1 r2 r3 r4 r5 r6 r7 r8 r9 r10 c0 c1 c2 d0 d1 d2 e0 e1 e2 fz0 fz1 fz2 hix
        as_aux_lemma =>
          go_wp2_with fail
          exact ⟨⟨f, i + 1, k, v6, _, by omega, hk, rfl, by go_num, rfl, ⟨HM.out.mb, HM6.out, HM.out.di.plain HDm.out rfl (by omega)⟩⟩, by simp [intOf]; omega⟩
      case neg =>
        have hit' : ¬ (i : Int) < (a.vs.length : Int) := by omega
        obtain ⟨E1, E2⟩ := HM.out.di.end (by omega) (by omega)
        have HEn := hid_of (⟨E1, E2⟩ : _ ∧ _)
        have HLn : Hid (R.length = (dmL a.vs b.vs).length) := by
          have := congrArg List.length E1
          show R.length = (dmL a.vs b.vs).length
          simpa using this
        have HsW : Hid (w.heap.size + 1 + 1 < w3.heap.size) := (Array.getElem?_eq_some_iff.1 HM.out.mb.g3).1
        have HsS : Hid (w.heap.size ≤ w3.heap.size) := by have := HsW.out; unfold Hid; omega
        have HSV : Hid (∀ x y z, (put3 wr (w.heap.size + 1 + 1) x y z).ownsRow w.heap.size 45 11 (.slice va R.length vcap) R.length (flV R) ∧ ∀ q ∈ R, SLb wb q.2.1 q.1.d.labels ∧ (SN wb q.2.2 q.1.cs ∨ OwnC w.heap.size q.2.2 q.1.cs (put3 wr (w.heap.size + 1 + 1) x y z))) := fun x y z => HM.out.mo.fin2 HsW.out HsS.out x y z
        have HE1 : Hid (R.map (·.1) = dV a.vs b.vs) := E1
        clear HsS
        have E2' := E2
        rw [← E2', ← HLn.out] at HE
        clear E1 E2 E2' HFa HFb HA3 HB3 HEn
        by_cases hbig : 256 < R.length
        case pos =>
          have hbig' : (256 : Int) < (R.length : Int) := by omega
          rw [if_pos hbig] at HE
          clear HSV HLn HsW
          obtain ⟨s0, s1, s2, f0, f1, f2⟩ := three_cells HM.out.mbW.g3
          go_wp2_with fail
          rw [put3_eq]
          obtain ⟨y0, y1, y2, _, _, _⟩ := three_cells (set_three (x := .int .i64 0) (y := .slice none 0 0) (z := .int .u64 0) HM.out.mbW.g3)
          simp [bodyPost, results, go_sem, y0, y1, y2]
          exact rw_err HE.out (put3_bel HM.out.mbW.bl (by omega) _ _ _)
        case neg =>
        have hbig' : ¬ (256 : Int) < (R.length : Int) := by omega
        rw [if_neg hbig] at HE
        by_cases hf0 : f = 0
        case neg =>
          have hf0' : (f != 0) = true := by simpa using hf0
          rw [if_pos hf0] at HE
          clear HSV HLn HsW hf0
          obtain ⟨s0, s1, s2, f0, f1, f2⟩ := three_cells HM.out.mbW.g3
          go_wp2_with fail
          rw [put3_eq]
          obtain ⟨y0, y1, y2, _, _, _⟩ := three_cells (set_three (x := .int .i64 0) (y := .slice none 0 0) (z := .int .u64 0) HM.out.mbW.g3)
          simp [bodyPost, results, go_sem, y0, y1, y2]
          exact rw_err HE.out (put3_bel HM.out.mbW.bl (by omega) _ _ _)
        case pos =>
        have hf0' : (f != 0) = false := by simpa using hf0
        rw [if_neg (by simpa using hf0)] at HE
        clear hf0
        by_cases hlr : Rn < a.r
        case pos =>
          have hlr' : (Rn : Int) < (a.r : Int) := by omega
          rw [if_pos hlr] at HE
          clear HSV HLn HsW hlr
          obtain ⟨s0, s1, s2, f0, f1, f2⟩ := three_cells HM.out.mbW.g3
          go_wp2_with fail
          rw [put3_eq]
          obtain ⟨y0, y1, y2, _, _, _⟩ := three_cells (set_three (x := .int .i64 0) (y := .slice none 0 0) (z := .int .u64 0) HM.out.mbW.g3)
          simp [bodyPost, results, go_sem, y0, y1, y2]
          exact rw_err HE.out (put3_bel HM.out.mbW.bl (by omega) _ _ _)
        case neg =>
        have hlr' : ¬ (Rn : Int) < (a.r : Int) := by omega
        rw [if_neg hlr] at HE
        clear hlr
        obtain ⟨s0, s1, s2, f0, f1, f2⟩ := three_cells HM.out.mbW.g3
        go_wp2_with fail
        rw [put3_eq]
        obtain ⟨y0, y1, y2, _, _, _⟩ := three_cells (set_three (x := .int .i64 a.p) (y := .slice va R.length vcap) (z := .int .u64 (Rn : Int)) HM.out.mbW.g3)
        simp [bodyPost, results, go_sem, y0, y1, y2]
        exact ⟨.slice va R.length vcap, R, by rw [HE.out], (HSV.out _ _ _).1, (HSV.out _ _ _).2, by rw [HE.out]; exact HE1.out, put3_bel HM.out.mbW.bl (by omega) _ _ _⟩
    case pos =>
      have hkt' : (k : Int) < (b.vs.length : Int) := by omega
      have hke : ((k : Int) == (b.vs.length : Int)) = false := by rw [beq_eq_false_iff_ne]; omega
      have hke2 : (k == b.vs.length) = false := by rw [beq_eq_false_iff_ne]; omega
      obtain rfl := hbo (by intro e; rw [e] at hkt; simp at hkt)
      obtain ⟨ly, cy, h1, h2, h3⟩ := HB3.out k hkt
      obtain ⟨xb, xd, rfl⟩ := h2.form
      obtain ⟨yb, yd, rfl⟩ := h3.form
      have HSB := hid_of h3
      have HElB : Hid (El wb w3 (b.vs[k], .slice xb b.vs[k].d.labels.length xd, .slice yb b.vs[k].cs.length yd) wr) := ⟨h2, Or.inl h3⟩
      have hiy := index_val b2 o2 b.vs.length cp2 k (k : Int) rfl hkt
      have hbW := bt HBw.out HM.out.mo.bl
      have hgB := h1.below hbW
      have HKB := hid_of (⟨hgB, h2.below hbW, h3.below hbW⟩ : KR b2 (o2 + k * 11) b.vs[k] (.slice xb b.vs[k].d.labels.length xd) (.slice yb b.vs[k].cs.length yd) wr)
      have hsc : b2 < wr.heap.size := lt_of_cell hgB.c0
      obtain ⟨s0, s1, s2, s3, s4, s5, s6, s7, s8, s9, s10⟩ := hgB.cC
      clear hgB h1 h2 h3
      by_cases hit : i < a.vs.length
      case neg =>
        have hit' : ¬ (i : Int) < (a.vs.length : Int) := by omega
        have hie : ((i : Int) == (a.vs.length : Int)) = true := by rw [beq_iff_eq]; omega
        have hie2 : (i == a.vs.length) = true := by rw [beq_iff_eq]; omega
        have HDm := hid_of (dm_b (A := a.vs) (i := i) hkt (by omega))
        go_upto_region 30 with fail
        go_cut [] from 136 to 145 (fun W => ∃ v', Hid (Mo wb w3 a.p Rn v' (R ++ [((b.vs[k], .slice xb b.vs[k].d.labels.length xd, .slice yb b.vs[k].cs.length yd) : Rv)]) W))
        case first =>
          have HEl : Hid (El wb w3 (b.vs[k], .slice xb b.vs[k].d.labels.length xd, .slice yb b.vs[k].cs.length yd) wr) := HElB.out
          have HZl : Hid (Lz [((b.vs[k], .slice xb b.vs[k].d.labels.length xd, .slice yb b.vs[k].cs.length yd) : Rv)]) := lz_one ⟨rfl, rfl⟩
          have HPu := hid_of (fun (g cap : Nat) (w5 : World) (ho5 : w5.ownsRow (w3.heap.size + 1) 45 11 (.slice (some ⟨g, 0, none⟩) (R.length + 1) cap) (R.length + 1) (flV R ++ flV [((b.vs[k], .slice xb b.vs[k].d.labels.length xd, .slice yb b.vs[k].cs.length yd) : Rv)])) (hg5 : (wr.alloc (.cells (cl (b.vs[k], .slice xb b.vs[k].d.labels.length xd, .slice yb b.vs[k].cs.length yd)).toArray 45)).grownBy w5 (Value.slice va R.length vcap).ownBlock) => (HM.out.mo.keep (bel1 _ _)).push (HEl.out.keep (bel1 _ _)) ho5 hg5)
          have HGo := hid_of (fun (w5 : World) (hg5 : (wr.alloc (.cells (cl (b.vs[k], .slice xb b.vs[k].d.labels.length xd, .slice yb b.vs[k].cs.length yd)).toArray 45)).grownBy w5 (Value.slice va R.length vcap).ownBlock) => three_cells (mo_cell (HM.out.mo.keep (bel1 _ _)) hg5))
          have HOw := hid_of (own_belG HM.out.mo.own (bel1 wr (.cells (cl (b.vs[k], .slice xb b.vs[k].d.labels.length xd, .slice yb b.vs[k].cs.length yd)).toArray 45)))
          have HNw := hid_of (new_1 wr (.cells (cl (b.vs[k], .slice xb b.vs[k].d.labels.length xd, .slice yb b.vs[k].cs.length yd)).toArray 45))
          clear HM HDm HFa HFb HE HA3 HB3 HBw HEl
          go_region_law (refine step_mo (by rfl) _ _ (by rfl) (by rfl) HOw.out (by simp; omega) HRl.out wr.heap.size (by rfl) (b.vs[k], .slice xb b.vs[k].d.labels.length xd, .slice yb b.vs[k].cs.length yd) HZl.out HNw.out ?_; intro g5 cap5 w5 ho5 hg5'; have hg5 := grown_drew hg5'; obtain ⟨q0, q1, q2, p0, p1, p2⟩ := HGo.out _ hg5)
          all_goals
            go_wp2_with fail
            go_meet
            exact ⟨_, HPu.out _ _ _ ho5 hg5⟩
        case rest =>
        obtain ⟨v6, HM6⟩ := hcut
        clear s0 s1 s2 s3 s4 s5 s6 s7 s8 s9 s10 c0 c1 c2 d0 d1 d2 e0 e1 e2 fz0 fz1 fz2 hiy
        as_aux_lemma =>
          go_wp2_with fail
          exact ⟨⟨f, i, k + 1, v6, _, hi, by omega, rfl, rfl, by go_num, ⟨HM.out.mb, HM6.out, HM.out.di.plain HDm.out rfl (by omega)⟩⟩, by simp [intOf]; omega⟩
      case pos =>
        have hit' : (i : Int) < (a.vs.length : Int) := by omega
        have hie : ((i : Int) == (a.vs.length : Int)) = false := by rw [beq_eq_false_iff_ne]; omega
        have hie2 : (i == a.vs.length) = false := by rw [beq_eq_false_iff_ne]; omega
        obtain rfl := hao (by intro e; rw [e] at hit; simp at hit)
        obtain ⟨lx, cx, g1, g2, g3⟩ := HA3.out i hit
        obtain ⟨xa, xc, rfl⟩ := g2.form
        obtain ⟨ya, yc, rfl⟩ := g3.form
        have HSA := hid_of g3
        have HElA : Hid (El wb w3 (a.vs[i], .slice xa a.vs[i].d.labels.length xc, .slice ya a.vs[i].cs.length yc) wr) := ⟨g2, Or.inl g3⟩
        have hix := index_val b1 o1 a.vs.length cp1 i (i : Int) rfl hit
        have hbW := bt HBw.out HM.out.mo.bl
        have hgA := g1.below hbW
        have HKA := hid_of (⟨hgA, g2.below hbW, g3.below hbW⟩ : KR b1 (o1 + i * 11) a.vs[i] (.slice xa a.vs[i].d.labels.length xc) (.slice ya a.vs[i].cs.length yc) wr)
        have hsb : b1 < wr.heap.size := lt_of_cell hgA.c0
        obtain ⟨r0, r1, r2, r3, r4, r5, r6, r7, r8, r9, r10⟩ := hgA.cC
        clear hgA g1 g2 g3
        have hS0 := s2m_of HKA.out HKB.out HM.out.mbW HM.out.mo
        have HCo : Hid (∀ W, (S2m wb w w3 a b (.slice (some ⟨b1, o1, none⟩) a.vs.length cp1) (.slice (some ⟨b2, o2, none⟩) b.vs.length cp2) a.p Rn (.slice va R.length vcap) R b1 (o1 + i * 11) b2 (o2 + k * 11) a.vs[i] b.vs[k] (.slice xa a.vs[i].d.labels.length xc) (.slice ya a.vs[i].cs.length yc) (.slice xb b.vs[k].d.labels.length xd) (.slice yb b.vs[k].cs.length yd) W) → Calls Tryz.prog 31 #[.agg #[.int .i64 a.vs[i].d.kind, .string ⟨a.vs[i].d.name.toArray⟩, .string ⟨a.vs[i].d.help.toArray⟩, (.slice xa a.vs[i].d.labels.length xc)], .agg #[.int .i64 b.vs[k].d.kind, .string ⟨b.vs[k].d.name.toArray⟩, .string ⟨b.vs[k].d.help.toArray⟩, (.slice xb b.vs[k].d.labels.length xd)]] W fun e w' => e = .returned (.int .i64 (La.ordD a.vs[i].d b.vs[k].d)) ∧ Below W.heap.size W w') := fun W q => La.dcompare_any a.vs[i].d b.vs[k].d _ _ W q.2.2.2.2.1.l.dsc.at q.2.2.2.2.2.1.l.dsc.at
        obtain ⟨z, hz⟩ : ∃ z, La.ordD a.vs[i].d b.vs[k].d = z := ⟨_, rfl⟩
        rw [hz] at HCo
        have HZ := hid_of hz
        clear hz
        go_upto_region 19 with fail
        go_cut [13] from 78 to 90 (fun x W => x = .int .i64 z ∧ Hid ((S2m wb w w3 a b (.slice (some ⟨b1, o1, none⟩) a.vs.length cp1) (.slice (some ⟨b2, o2, none⟩) b.vs.length cp2) a.p Rn (.slice va R.length vcap) R b1 (o1 + i * 11) b2 (o2 + k * 11) a.vs[i] b.vs[k] (.slice xa a.vs[i].d.labels.length xc) (.slice ya a.vs[i].cs.length yc) (.slice xb b.vs[k].d.labels.length xd) (.slice yb b.vs[k].cs.length yd) W)))
        case first =>
          clear HM HFa HFb HE HA3 HB3 HBw HElA HElB HKA HKB HZ HRl c0 c1 c2 d0 d1 d2 e0 e1 e2 fz0 fz1 fz2 r0 r1 r2 r3 r4 r5 r6 r7 r8 r9 r10 s0 s1 s2 s3 s4 s5 s6 s7 s8 s9 s10
          as_aux_lemma =>
            go_region_held3 (fun W => (S2m wb w w3 a b (.slice (some ⟨b1, o1, none⟩) a.vs.length cp1) (.slice (some ⟨b2, o2, none⟩) b.vs.length cp2) a.p Rn (.slice va R.length vcap) R b1 (o1 + i * 11) b2 (o2 + k * 11) a.vs[i] b.vs[k] (.slice xa a.vs[i].d.labels.length xc) (.slice ya a.vs[i].cs.length yc) (.slice xb b.vs[k].d.labels.length xd) (.slice yb b.vs[k].cs.length yd) W))
              (first | assumption | exact keep2m (by assumption) (by assumption) | exact keep2m (drew_bel _) hS0)
              (first
                | (go_at_call 31; with_reducible refine (HCo.out _ (by first | assumption | exact keep2m (by assumption) (by assumption) | exact keep2m (drew_bel _) hS0)).mono ?_; rintro e w4 ⟨rfl, hb4⟩))
            rename_i hS3
            go_wp2_with fail
            go_meet
            exact ⟨rfl, hS3⟩
        case rest =>
        rename_i wc
        obtain ⟨rfl, HSc⟩ := hcut
        have HMc : Hid (Mr wb w w3 a b (.slice (some ⟨b1, o1, none⟩) a.vs.length cp1) (.slice (some ⟨b2, o2, none⟩) b.vs.length cp2) a.p Rn (.slice va R.length vcap) R i k f wc) := ⟨HM.out.mb, HSc.out.2.2.2.2.2.2.2, HM.out.di⟩
        have HKA2 := hid_of HSc.out.2.2.2.2.1
        have HKB2 := hid_of HSc.out.2.2.2.2.2.1
        have HElA2 : Hid (El wb w3 (a.vs[i], (.slice xa a.vs[i].d.labels.length xc), (.slice ya a.vs[i].cs.length yc)) wc) := ⟨HElA.out.1, Or.inl HSA.out⟩
        have HElB2 : Hid (El wb w3 (b.vs[k], (.slice xb b.vs[k].d.labels.length xd), (.slice yb b.vs[k].cs.length yd)) wc) := ⟨HElB.out.1, Or.inl HSB.out⟩
        clear HElA HElB
        have HElA := HElA2
        have HElB := HElB2
        clear HElA2 HElB2
        clear hS0 HCo c0 c1 c2 d0 d1 d2 e0 e1 e2 fz0 fz1 fz2 r0 r1 r2 r3 r4 r5 r6 r7 r8 r9 r10 s0 s1 s2 s3 s4 s5 s6 s7 s8 s9 s10 hs1 hs2 hs3 hsb hsc HKA HKB HM
        have HM := HMc
        have HKA := HKA2
        have HKB := HKB2
        clear HMc HKA2 HKB2
        obtain ⟨c0, c1, c2, _, _, _⟩ := three_cells HM.out.mbW.g1
        obtain ⟨d0, d1, d2, _, _, _⟩ := three_cells HM.out.mbW.g2
        obtain ⟨e0, e1, e2, fz0, fz1, fz2⟩ := three_cells HM.out.mo.go
        have hs1 : w.heap.size < wc.heap.size := lt_of_cell c0
        have hs2 : w.heap.size + 1 < wc.heap.size := lt_of_cell d0
        have hs3 : w3.heap.size < wc.heap.size := lt_of_cell e0
        have hsb : b1 < wc.heap.size := lt_of_cell HKA.out.c.c0
        have hsc : b2 < wc.heap.size := lt_of_cell HKB.out.c.c0
        obtain ⟨r0, r1, r2, r3, r4, r5, r6, r7, r8, r9, r10⟩ := HKA.out.c.cC
        obtain ⟨s0, s1, s2, s3, s4, s5, s6, s7, s8, s9, s10⟩ := HKB.out.c.cC
        rcases Int.lt_trichotomy z 0 with zl | z0 | zg
        · have HDm := hid_of (dm_l hit hkt (by rw [HZ.out]; exact zl))
          clear HZ HSc
          go_upto_region 27 with fail
          go_cut [] from 121 to 130 (fun W => ∃ v', Hid (Mo wb w3 a.p Rn v' (R ++ [((a.vs[i], .slice xa a.vs[i].d.labels.length xc, .slice ya a.vs[i].cs.length yc) : Rv)]) W))
          case first =>
            have HEl : Hid (El wb w3 (a.vs[i], .slice xa a.vs[i].d.labels.length xc, .slice ya a.vs[i].cs.length yc) wc) := HElA.out
            have HZl : Hid (Lz [((a.vs[i], .slice xa a.vs[i].d.labels.length xc, .slice ya a.vs[i].cs.length yc) : Rv)]) := lz_one ⟨rfl, rfl⟩
            have HPu := hid_of (fun (g cap : Nat) (w5 : World) (ho5 : w5.ownsRow (w3.heap.size + 1) 45 11 (.slice (some ⟨g, 0, none⟩) (R.length + 1) cap) (R.length + 1) (flV R ++ flV [((a.vs[i], .slice xa a.vs[i].d.labels.length xc, .slice ya a.vs[i].cs.length yc) : Rv)])) (hg5 : (wc.alloc (.cells (cl (a.vs[i], .slice xa a.vs[i].d.labels.length xc, .slice ya a.vs[i].cs.length yc)).toArray 45)).grownBy w5 (Value.slice va R.length vcap).ownBlock) => (HM.out.mo.keep (bel1 _ _)).push (HEl.out.keep (bel1 _ _)) ho5 hg5)
            have HGo := hid_of (fun (w5 : World) (hg5 : (wc.alloc (.cells (cl (a.vs[i], .slice xa a.vs[i].d.labels.length xc, .slice ya a.vs[i].cs.length yc)).toArray 45)).grownBy w5 (Value.slice va R.length vcap).ownBlock) => three_cells (mo_cell (HM.out.mo.keep (bel1 _ _)) hg5))
            have HOw := hid_of (own_belG HM.out.mo.own (bel1 wc (.cells (cl (a.vs[i], .slice xa a.vs[i].d.labels.length xc, .slice ya a.vs[i].cs.length yc)).toArray 45)))
            have HNw := hid_of (new_1 wc (.cells (cl (a.vs[i], .slice xa a.vs[i].d.labels.length xc, .slice ya a.vs[i].cs.length yc)).toArray 45))
            clear HM HDm HFa HFb HE HA3 HB3 HBw HEl
            go_region_law (refine step_mo (by rfl) _ _ (by rfl) (by rfl) HOw.out (by simp; omega) HRl.out wc.heap.size (by rfl) (a.vs[i], .slice xa a.vs[i].d.labels.length xc, .slice ya a.vs[i].cs.length yc) HZl.out HNw.out ?_; intro g5 cap5 w5 ho5 hg5'; have hg5 := grown_drew hg5'; obtain ⟨q0, q1, q2, p0, p1, p2⟩ := HGo.out _ hg5)
            all_goals
              go_wp2_with fail
              go_meet
              exact ⟨_, HPu.out _ _ _ ho5 hg5⟩
          case rest =>
          obtain ⟨v6, HM6⟩ := hcut
          clear r0 r1 r2 r3 r4 r5 r6 r7 r8 r9 r10 c0 c1 c2 d0 d1 d2 e0 e1 e2 fz0 fz1 fz2 hix
          as_aux_lemma =>
            go_wp2_with fail
            exact ⟨⟨f, i + 1, k, v6, _, by omega, hk, rfl, by go_num, rfl, ⟨HM.out.mb, HM6.out, HM.out.di.plain HDm.out rfl (by omega)⟩⟩, by simp [intOf]; omega⟩
        · have HDm := hid_of (dm_e hit hkt (by rw [HZ.out]; exact z0))
          subst z0
          have hfA := HFa.out _ (List.getElem_mem hit)
          have hfB := HFb.out _ (List.getElem_mem hkt)
          obtain ⟨V, hV⟩ : ∃ V, (joinV a.vs[i] b.vs[k]).1 = V := ⟨_, rfl⟩
          obtain ⟨q5, hq5⟩ : ∃ q5, (joinV a.vs[i] b.vs[k]).2 = q5 := ⟨_, rfl⟩
          have HTw : Hid (∀ W, (S2m wb w w3 a b (.slice (some ⟨b1, o1, none⟩) a.vs.length cp1) (.slice (some ⟨b2, o2, none⟩) b.vs.length cp2) a.p Rn (.slice va R.length vcap) R b1 (o1 + i * 11) b2 (o2 + k * 11) a.vs[i] b.vs[k] (.slice xa a.vs[i].d.labels.length xc) (.slice ya a.vs[i].cs.length yc) (.slice xb b.vs[k].d.labels.length xd) (.slice yb b.vs[k].cs.length yd) W) → Calls Tryz.prog 34 #[vx a.vs[i] (.slice xa a.vs[i].d.labels.length xc) (.slice ya a.vs[i].cs.length yc), vx b.vs[k] (.slice xb b.vs[k].d.labels.length xd) (.slice yb b.vs[k].cs.length yd)] W fun e w' => ∃ la lc ca cc, e = .returned (.tuple #[vx V (.slice la V.d.labels.length lc) (.slice ca V.cs.length cc), .int .i64 q5]) ∧ Hid (SLb wb (.slice la V.d.labels.length lc) V.d.labels) ∧ Hid (OwnC W.heap.size (.slice ca V.cs.length cc) V.cs w') ∧ Below W.heap.size W w') := fun W q => by
            refine (rtwo_any a.vs[i] b.vs[k] _ _ _ hfA.w hfB.w W q.2.2.2.2.1.l q.2.2.2.2.1.n ⟨_, _, rfl, q.2.2.2.2.2.1.l, q.2.2.2.2.2.1.n⟩ hfA.c hfB.c).mono ?_
            rintro e w' ⟨lv, cv, rfl, h1, h2, h3⟩
            have h1' := h1 wb HElA.out.1
            rw [hV] at h1' h2
            obtain ⟨la, lc, rfl⟩ := h1'.form
            obtain ⟨ca, cg, cc, rfl, -⟩ := own_slice h2
            exact ⟨la, lc, ca, cc, by rw [hV, hq5], h1', h2, h3⟩
          have HV := hid_of (⟨hV, hq5⟩ : _ ∧ _)
          clear HZ hV hq5 hfA hfB HElA HElB HSA HSB HFa HFb HA3 HB3
          go_upto_region 20 with fail
          go_cut [14, 15] from 91 to 104 (fun x y W => ∃ bv la lc ca cc, x = .pointer (some ⟨bv, 0, none⟩) ∧ y = .int .i64 q5 ∧ Hid (W.heap[bv]? = some (.cells (vc V (.slice la V.d.labels.length lc) (.slice ca V.cs.length cc)) 45 (0, 0))) ∧ Hid (El wb w3 (V, .slice la V.d.labels.length lc, .slice ca V.cs.length cc) W) ∧ Hid (Mo wb w3 a.p Rn (.slice va R.length vcap) R W))
          case first =>
            have hS0 := HSc.out
            have sF := store_f
            have HMo := hid_of HM.out.mo
            have HSw : Hid (w3.heap.size + 1 ≤ wc.heap.size) := HM.out.mo.size
            clear HM HE HBw HKA HKB HRl HDm HV HSc hs1 hs2 hs3 hsb hsc c0 c1 c2 d0 d1 d2 e0 e1 e2 fz0 fz1 fz2 r0 r1 r2 r3 r4 r5 r6 r7 r8 r9 r10 s0 s1 s2 s3 s4 s5 s6 s7 s8 s9 s10
            obtain ⟨xi, hxi⟩ : ∃ xi, a.vs[i] = xi := ⟨_, rfl⟩
            obtain ⟨xm, hxm⟩ : ∃ xm, b.vs[k] = xm := ⟨_, rfl⟩
            simp only [hxi, hxm] at *
            clear hxi hxm
            have HKp : Hid (∀ W1, Below wc.heap.size wc W1 → (S2m wb w w3 a b (.slice (some ⟨b1, o1, none⟩) a.vs.length cp1) (.slice (some ⟨b2, o2, none⟩) b.vs.length cp2) a.p Rn (.slice va R.length vcap) R b1 (o1 + i * 11) b2 (o2 + k * 11) xi xm (.slice xa xi.d.labels.length xc) (.slice ya xi.cs.length yc) (.slice xb xm.d.labels.length xd) (.slice yb xm.cs.length yd) W1)) := fun W1 hb => keep2m hb hS0
            clear hS0
            go_region_held3 (fun W => (S2m wb w w3 a b (.slice (some ⟨b1, o1, none⟩) a.vs.length cp1) (.slice (some ⟨b2, o2, none⟩) b.vs.length cp2) a.p Rn (.slice va R.length vcap) R b1 (o1 + i * 11) b2 (o2 + k * 11) xi xm (.slice xa xi.d.labels.length xc) (.slice ya xi.cs.length yc) (.slice xb xm.d.labels.length xd) (.slice yb xm.cs.length yd) W))
              (((with_reducible refine HKp.out _ ?_); repeat (first | with_reducible exact hB9 | with_reducible exact Below.refl _ _ | with_reducible refine belD ?_ | with_reducible refine belN _ ?_ | with_reducible refine belS _ _ ?_)))
              (first
                | (go_at_call 34; (with_reducible refine (HTw.out _ (HKp.out _ (by repeat (first | with_reducible exact Below.refl _ _ | with_reducible refine belD ?_ | with_reducible refine belN _ ?_)))).mono ?_); rintro e w9 ⟨la, lc, ca, cc, rfl, HL9, HC9, hb9⟩; have hB9 : Below wc.heap.size wc w9 := bt (by repeat (first | with_reducible exact Below.refl _ _ | with_reducible refine belD ?_ | with_reducible refine belN _ ?_)) hb9; (try (have hN9 : Hid (w9.heap[wc.heap.size]? = some (.cells zc 45 (0, 0))) := hid_of (by first | (with_reducible exact new_atd hb9) | (with_reducible exact hkN (new_1 wc.drew _) hb9)); obtain ⟨y0, y1, y2, y3, y4, y5, y6, y7, y8, y9, y10⟩ := eleven_cells hN9; obtain ⟨e0, e1, e2, e3, e4, e5, e6, e7, e8, e9, e10⟩ := eleven_fr hN9))))
            · go_wp2_with fail
              go_meet
              exact ⟨w9.heap.size, la, lc, ca, cc, rfl, rfl, new_1 _ _, ⟨HL9.out, Or.inr (own_belG (own_leG HC9.out HSw.out) (bel1 _ _))⟩, HMo.out.keep (belN _ hB9)⟩
            · go_wp2_with fail
              go_meet
              refine ⟨wc.heap.size, la, lc, ca, cc, rfl, rfl, ?_, ⟨HL9.out, Or.inr ?_⟩, ?_⟩
              · exact set_eleven hN9.out
              · have h9 := HC9.out
                exact own_leG (own_put11 h9 (own_ne h9 (by show wc.heap.size < (wc.alloc _).heap.size; simp)) _ _ _ _ _ _ _ _ _ _ _) (Nat.le_trans HSw.out (by show wc.heap.size ≤ (wc.alloc _).heap.size; simp))
              · exact HMo.out.keep (put11_bel hB9 (Nat.le_refl _) _ _ _ _ _ _ _ _ _ _ _)
          case rest =>
          obtain ⟨bv, la, lc, ca, cc, rfl, rfl, HB9, HEl9, HMo9⟩ := hcut
          have HZl : Hid (Lz [((V, .slice la V.d.labels.length lc, .slice ca V.cs.length cc) : Rv)]) := lz_one ⟨rfl, rfl⟩
          have HRun := hid_of (fun ty => run_one (own_belG HMo9.out.own (bel1 wc (.cells (cl (V, .slice la V.d.labels.length lc, .slice ca V.cs.length cc)).toArray 45))) (by have := HMo9.out.size; simp; omega) HRl.out wc.heap.size (V, .slice la V.d.labels.length lc, .slice ca V.cs.length cc) HZl.out (new_1 _ _) ty)
          have HPu := hid_of (fun (v' : Value) (w5 : World) (ho5 : w5.ownsRow (w3.heap.size + 1) 45 11 v' (R.length + 1) (flV R ++ flV [((V, .slice la V.d.labels.length lc, .slice ca V.cs.length cc) : Rv)])) (hg5 : (wc.alloc (.cells (cl (V, .slice la V.d.labels.length lc, .slice ca V.cs.length cc)).toArray 45)).grownBy w5 (Value.slice va R.length vcap).ownBlock) => (HMo9.out.keep (bel1 _ _)).push (HEl9.out.keep (bel1 _ _)) ho5 hg5)
          have HGo := hid_of (fun (w5 : World) (hg5 : (wc.alloc (.cells (cl (V, .slice la V.d.labels.length lc, .slice ca V.cs.length cc)).toArray 45)).grownBy w5 (Value.slice va R.length vcap).ownBlock) => three_cells (mo_cell (HMo9.out.keep (bel1 _ _)) hg5))
          have HDi := hid_of (HM.out.di.step (q := (V, .slice la V.d.labels.length lc, .slice ca V.cs.length cc)) HDm.out HV.out.1.symm (by omega))
          rw [HV.out.2] at HDi
          have HMb := hid_of HM.out.mb
          clear HM HE HBw HKA HKB HRl HDm HV HSc hs1 hs2 hs3 hsb hsc c0 c1 c2 d0 d1 d2 e0 e1 e2 fz0 fz1 fz2 r0 r1 r2 r3 r4 r5 r6 r7 r8 r9 r10 s0 s1 s2 s3 s4 s5 s6 s7 s8 s9 s10 HTw hix hiy
          obtain ⟨e0, e1, e2, fz0, fz1, fz2⟩ := three_cells HMo9.out.go
          obtain ⟨k0, k1, k2, k3, k4, k5, k6, k7, k8, k9, k10⟩ := eleven_cells HB9
          have hs3 : w3.heap.size < wc.heap.size := lt_of_cell e0
          have hs4 : bv < wc.heap.size := lt_of_cell k0
          clear HB9 HEl9 HMo9
          by_cases hf : f = 0
          · have hf' : (f == 0) = true := by simpa using hf
            rw [if_neg (by simpa using hf)] at HDi
            clear hf
            go_wp2_with (first
              | (at_builtin; refine wpList_run _ rfl _ _ 23 rfl _ _ rfl rfl (HRun.out _) ?_; rintro v5 w5 ⟨ho5, hg5⟩; obtain ⟨a5, g5, n5, rfl, -⟩ := own_slice ho5; obtain ⟨q0, q1, q2, p0, p1, p2⟩ := HGo.out _ hg5))
            exact ⟨⟨q5, i + 1, k + 1, .slice a5 (R.length + 1) n5, _, by omega, by omega, rfl, by go_num, by go_num, ⟨HMb.out, HPu.out _ _ ho5 hg5, HDi.out⟩⟩, by simp [intOf]; omega⟩
          · have hf' : (f == 0) = false := by simpa using hf
            rw [if_pos hf] at HDi
            clear hf
            go_wp2_with (first
              | (at_builtin; refine wpList_run _ rfl _ _ 23 rfl _ _ rfl rfl (HRun.out _) ?_; rintro v5 w5 ⟨ho5, hg5⟩; obtain ⟨a5, g5, n5, rfl, -⟩ := own_slice ho5; obtain ⟨q0, q1, q2, p0, p1, p2⟩ := HGo.out _ hg5))
            exact ⟨⟨f, i + 1, k + 1, .slice a5 (R.length + 1) n5, _, by omega, by omega, rfl, by go_num, by go_num, ⟨HMb.out, HPu.out _ _ ho5 hg5, HDi.out⟩⟩, by simp [intOf]; omega⟩
        · have HDm := hid_of (dm_g hit hkt (by rw [HZ.out]; exact zg))
          have zn : ¬ z < 0 := by omega
          clear HZ HSc
          go_upto_region 30 with fail
          go_cut [] from 136 to 145 (fun W => ∃ v', Hid (Mo wb w3 a.p Rn v' (R ++ [((b.vs[k], .slice xb b.vs[k].d.labels.length xd, .slice yb b.vs[k].cs.length yd) : Rv)]) W))
          case first =>
            have HEl : Hid (El wb w3 (b.vs[k], .slice xb b.vs[k].d.labels.length xd, .slice yb b.vs[k].cs.length yd) wc) := HElB.out
            have HZl : Hid (Lz [((b.vs[k], .slice xb b.vs[k].d.labels.length xd, .slice yb b.vs[k].cs.length yd) : Rv)]) := lz_one ⟨rfl, rfl⟩
            have HPu := hid_of (fun (g cap : Nat) (w5 : World) (ho5 : w5.ownsRow (w3.heap.size + 1) 45 11 (.slice (some ⟨g, 0, none⟩) (R.length + 1) cap) (R.length + 1) (flV R ++ flV [((b.vs[k], .slice xb b.vs[k].d.labels.length xd, .slice yb b.vs[k].cs.length yd) : Rv)])) (hg5 : (wc.alloc (.cells (cl (b.vs[k], .slice xb b.vs[k].d.labels.length xd, .slice yb b.vs[k].cs.length yd)).toArray 45)).grownBy w5 (Value.slice va R.length vcap).ownBlock) => (HM.out.mo.keep (bel1 _ _)).push (HEl.out.keep (bel1 _ _)) ho5 hg5)
            have HGo := hid_of (fun (w5 : World) (hg5 : (wc.alloc (.cells (cl (b.vs[k], .slice xb b.vs[k].d.labels.length xd, .slice yb b.vs[k].cs.length yd)).toArray 45)).grownBy w5 (Value.slice va R.length vcap).ownBlock) => three_cells (mo_cell (HM.out.mo.keep (bel1 _ _)) hg5))
            have HOw := hid_of (own_belG HM.out.mo.own (bel1 wc (.cells (cl (b.vs[k], .slice xb b.vs[k].d.labels.length xd, .slice yb b.vs[k].cs.length yd)).toArray 45)))
            have HNw := hid_of (new_1 wc (.cells (cl (b.vs[k], .slice xb b.vs[k].d.labels.length xd, .slice yb b.vs[k].cs.length yd)).toArray 45))
            clear HM HDm HFa HFb HE HA3 HB3 HBw HEl
            go_region_law (refine step_mo (by rfl) _ _ (by rfl) (by rfl) HOw.out (by simp; omega) HRl.out wc.heap.size (by rfl) (b.vs[k], .slice xb b.vs[k].d.labels.length xd, .slice yb b.vs[k].cs.length yd) HZl.out HNw.out ?_; intro g5 cap5 w5 ho5 hg5'; have hg5 := grown_drew hg5'; obtain ⟨q0, q1, q2, p0, p1, p2⟩ := HGo.out _ hg5)
            all_goals
              go_wp2_with fail
              go_meet
              exact ⟨_, HPu.out _ _ _ ho5 hg5⟩
          case rest =>
          obtain ⟨v6, HM6⟩ := hcut
          clear s0 s1 s2 s3 s4 s5 s6 s7 s8 s9 s10 c0 c1 c2 d0 d1 d2 e0 e1 e2 fz0 fz1 fz2 hiy
          as_aux_lemma =>
            go_wp2_with fail
            exact ⟨⟨f, i, k + 1, v6, _, hi, by omega, rfl, rfl, by go_num, ⟨HM.out.mb, HM6.out, HM.out.di.plain HDm.out rfl (by omega)⟩⟩, by simp [intOf]; omega⟩
end Go.Proofs.YtckdkcnnfjbdmaaGreat
