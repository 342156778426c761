/- THE LAW's close and drain. Own work of the verifier. -/
import Derived.Test.YtaeapikhhbjlnaaGreatDoorKV
namespace Go.Proofs.YtaeapikhhbjlnaaGreatDoor
open Go.RowKit

section
variable {K : Kx} {t a : Nat} {r0 r1 : Int} {lv rv : Value} {Rs : List RcD} {Is : List Ins} {C : Nat → Nat → Nat → List Int} {W : World}
/-- Where the recorders' lists lie. -/
theorem St.two (H : St K t a r0 r1 lv rv Rs Is C W) (h1 : 0 < Rs.length) : ∃ lb rb lc rc, lv = .slice (some ⟨lb, 0, none⟩) Rs.length lc ∧ rv = .slice (some ⟨rb, 0, none⟩) Rs.length rc ∧ ∀ (t ac ad : Nat) (r0 r1 s0 s1 : Int) (Rs' : List RcD) (Is : List Ins) (C D : Nat → Nat → Nat → List Int) (W : World), LS K t ac ad r0 r1 s0 s1 lv rv (Rs.map fun r => ptr r.rc) (Rs.map fun r => ptr r.d) Rs' Is C D W → ∀ i (hi : i < Rs.length), W.cell? ⟨lb, i, none⟩ = some (ptr Rs[i].rc) ∧ W.cell? ⟨rb, i, none⟩ = some (ptr Rs[i].d) := by
  obtain ⟨_, e2, e3⟩ := H.ls.law.ex
  simp only [List.length_map] at e2 e3
  obtain ⟨ao, lc, rfl⟩ := own_len e2
  obtain ⟨ao2, rc, rfl⟩ := own_len e3
  obtain ⟨lb, rfl, k1⟩ := own_at e2 h1
  obtain ⟨rb, rfl, k2⟩ := own_at e3 h1
  refine ⟨lb, rb, lc, rc, rfl, rfl, fun t ac ad r0 r1 s0 s1 Rs' Is C D W H' i hi => ?_⟩
  obtain ⟨_, f2, f3⟩ := H'.law.ex
  simp only [List.length_map] at f2 f3
  refine ⟨?_, ?_⟩
  · have := k1 W f2 i (by simpa using hi); simpa using this
  · have := k2 W f3 i (by simpa using hi); simpa using this
theorem map_set_rc {Rs : List RcD} {i : Nat} (hi : i < Rs.length) (cc cd : Bool) : ((Rs.set i ⟨Rs[i].rc, Rs[i].d, Rs[i].st, cc, cd⟩).map fun r => ptr r.rc) = Rs.map (fun r => ptr r.rc) ∧ ((Rs.set i ⟨Rs[i].rc, Rs[i].d, Rs[i].st, cc, cd⟩).map fun r => ptr r.d) = Rs.map (fun r => ptr r.d) := by
  rw [List.map_set, List.map_set]
  constructor
  · apply List.ext_getElem (by simp)
    intro j h1 h2
    by_cases h : i = j
    · subst h; simp
    · rw [List.getElem_set_ne h]
  · apply List.ext_getElem (by simp)
    intro j h1 h2
    by_cases h : i = j
    · subst h; simp
    · rw [List.getElem_set_ne h]
set_option maxRecDepth 10000 in
set_option maxHeartbeats 4000000 in
theorem close_law (hK : K.Ok) (H : St K t a r0 r1 lv rv Rs Is C W) {i : Nat} (hi : i < Rs.length) :
    Calls Tryz.prog 39 #[ptr K.wb, .int .i64 (i : Int)] W fun e w' => e = .returned (.bool true) ∧ Hid (StE K t w') := by
  obtain ⟨lb, rb, lc, rc, hlv, hrv, hat⟩ := H.two (by omega)
  have hcl := H.cl i hi
  have hfew := H.few
  obtain ⟨l0, l1, l2, l3, l4, l5⟩ := H.ls.lw
  obtain ⟨c1, c2⟩ := hat _ _ _ _ _ _ _ _ _ _ _ W H.ls i hi
  have hd := H.ls.recs.d i hi
  have d1 : W.cell? ⟨Rs[i].d, 1, none⟩ = some (.bool Rs[i].cd) := by simp [World.cell?, hd]
  have fd : W.frozen? ⟨Rs[i].d, 1, none⟩ = false := by simp [World.frozen?, hd]
  have H2 := H.ls.d_close hK hi
  have hi2 : i < (Rs.set i ⟨Rs[i].rc, Rs[i].d, Rs[i].st, Rs[i].cc, true⟩).length := by simpa using hi
  have HCl : Hid (∀ _ : Unit, Calls Tryz.prog 83 #[ptr Rs[i].rc] (W.setCell ⟨Rs[i].d, 1, none⟩ (.bool true)) fun e w' => e = .returned (.int .i64 (if Rs[i].cc then 8 else 0)) ∧ (w'.cell? ⟨K.wb, 1, none⟩ = some lv ∧ w'.cell? ⟨lb, i, none⟩ = some (ptr Rs[i].rc)) ∧ Hid (Rc w' Rs[i].rc K.k Rs[i].st true ∧ StE K t w')) := fun _ => by
    have := H2.c_close hK hi2
    simp only [List.getElem_set_self, List.set_set] at this
    refine Calls.mono this ?_
    rintro e w' ⟨rfl, q⟩
    have q1 := q.out
    obtain ⟨n0, n1, _⟩ := q1.lw
    refine ⟨rfl, ⟨n1, (hat _ _ _ _ _ _ _ _ _ _ _ w' q1 i hi).1⟩, ?_, a, r0, r1, lv, rv, Rs.set i ⟨Rs[i].rc, Rs[i].d, Rs[i].st, true, true⟩, Is, C, ⟨?_, fun j hj => ?_, ?_⟩⟩
    · have := q1.recs.rc i (by simpa using hi)
      rw [List.getElem_set_self] at this
      exact this
    · obtain ⟨e1, e2⟩ := map_set_rc hi true true
      rw [e1, e2]
      exact q1
    · have hj2 : j < Rs.length := by simpa using hj
      by_cases h : i = j
      · subst h; rw [List.getElem_set_self]
      · rw [List.getElem_set_ne h]; exact H.cl j hj2
    · simpa using hfew
  obtain ⟨n0, n1, _⟩ := H2.lw
  have n2 := (hat _ _ _ _ _ _ _ _ _ _ _ _ H2 i hi).1
  have HCd : Hid (∀ W', Rc W' Rs[i].rc K.k Rs[i].st true → Calls Tryz.prog 41 #[ptr Rs[i].rc] W' fun e w' => e = .returned (.bool true) ∧ w' = W') := fun W' h => closed_any _ _ _ _ W' h
  rw [hlv] at l1 n1 HCl
  rw [hrv] at l5
  rw [← hcl] at d1
  have hii : (i : Int) < (Rs.length : Int) := by omega
  clear H H2 hat hd hlv hrv l0 l2 l3 l4 hi2 hcl n0 hfew hK
  generalize Rs[i].rc = x at *
  generalize Rs[i].d = d at *
  generalize Rs[i].st = st at *
  generalize Rs[i].cc = cc at *
  clear hi
  cases cc
  all_goals
    go_enter Tryz.func39, Tryz.ntmps39
    go_upto_region 5 with fail
    generalize W.setCell ⟨d, 1, none⟩ (.bool true) = W1 at *
    go_wp2_with (first
      | (go_at_call 83; with_reducible refine Calls.mono (HCl.out ()) ?_; rintro e w2 ⟨rfl, ⟨k1, k2⟩, H3⟩)
      | (go_at_call 41; with_reducible refine Calls.mono (HCd.out _ H3.out.1) ?_; rintro e w3 ⟨rfl, rfl⟩))
    go_ret
    exact ⟨rfl, H3.out.2⟩
/-- What the drain reads. -/
abbrev DnS (K : Kx) (q : Nat) (P : Pt) (v : Value) (W : World) : Prop := (W.cell? ⟨K.wb, 3, none⟩ = some (.int .i64 K.pi) ∧ W.cell? ⟨K.wb, 4, none⟩ = some (ptr K.sb) ∧ W.cell? ⟨K.sb, 0, none⟩ = some (ptr K.mb) ∧ W.cell? ⟨K.mb, 11, none⟩ = some (.slice (some ⟨K.ib, 0, none⟩) K.SL.length K.capI)) ∧ (W.cell? ⟨q, 0, none⟩ = some (.int .i64 P.hi) ∧ W.cell? ⟨q, 1, none⟩ = some (.int .u64 P.lo) ∧ W.cell? ⟨q, 2, none⟩ = some v ∧ W.cell? ⟨q, 3, none⟩ = some (.int .u64 (P.n : Int)) ∧ W.cell? ⟨q, 4, none⟩ = some (.complex .f64 P.s P.c) ∧ W.cell? ⟨q, 5, none⟩ = some (.float .f64 P.mn) ∧ W.cell? ⟨q, 6, none⟩ = some (.float .f64 P.mx))
def prtC (P : Pt) (v : Value) : Array Value := #[.int .i64 P.hi, .int .u64 P.lo, v, .int .u64 (P.n : Int), .complex .f64 P.s P.c, .float .f64 P.mn, .float .f64 P.mx]
theorem dns_of {t ac ad : Nat} {r0 r1 s0 s1 : Int} {lv rv : Value} {Lp Rp : List Value} {Rs : List RcD} {Is : List Ins} {C D : Nat → Nat → Nat → List Int} (H : LS K t ac ad r0 r1 s0 s1 lv rv Lp Rp Rs Is C D W) (h0 : 0 < K.SL.length) {q : Nat} {P : Pt} {v : Value} (hq : W.heap[q]? = some (.cells (prtC P v) 97 (0, 0))) : DnS K q P v W := by
  obtain ⟨l0, l1, l2, l3, l4, l5⟩ := H.lw
  obtain ⟨m, hD, _⟩ := H.doc.doc
  have hl := H.doc.len
  obtain ⟨p0, p1, p2, p3, p4, p5, p6⟩ := seven_cells (W := W) (b := q) hq
  exact ⟨⟨l3, l4, hD.sdm.sh, hD.sdm.mm 11 _ (by rw [← hl, ← hD.l (by omega)]; rfl)⟩, p0, p1, p2, p3, p4, p5, p6⟩
/-- The code's drain, then the document's: the same part. -/
theorem St.drains (hK : K.Ok) (H : St K t a r0 r1 lv rv Rs Is C W) (ht : t < 70368744177664) {id b : Nat} (hid : id < K.SL.length) (hb : b < 2) :
    Calls Tryz.prog 32 #[ptr K.SL[id].s, .pointer none, .int .i64 (b : Int)] W fun e w' => ∃ (P : Pt) (ao : Option Addr) (k cap : Nat), e = .returned (.tuple #[.agg #[.int .i64 P.hi, .int .u64 P.lo, .slice ao k cap, .int .u64 (P.n : Int), .complex .f64 P.s P.c, .float .f64 P.mn, .float .f64 P.mx], .int .i64 0]) ∧ Hid (P.L.length ≤ 1048576 ∧ ∀ V q, Chg (fun _ => False) w' V → V.heap[q]? = some (.cells (prtC P (.slice ao k cap)) 97 (0, 0)) → DnS K q P (.slice ao k cap) V ∧ Calls Tryz.prog 45 #[.pointer (some ⟨K.ib, id * 14, none⟩), .int .i64 (b : Int), .int .i64 K.pi] V fun e w2 => ∃ (ao2 : Option Addr) (k2 c2 : Nat), e = .returned (rpart P.hi P.lo (.slice ao2 k2 c2) P.n P.s P.c P.mn P.mx) ∧ Hid (SN w2 (.slice ao k cap) P.L ∧ SN w2 (.slice ao2 k2 c2) P.L ∧ StE K t w2) ∧ DnS K q P (.slice ao k cap) w2) := by
  obtain ⟨d1, d2, d3, d4, d5⟩ := hK.dim (by omega)
  refine Calls.mono (H.ls.c_drain hK ht hid hb) ?_
  rintro e w' ⟨P, ao, k, cap, rfl, q⟩
  obtain ⟨f0, f1, f2, f3, f4, f5⟩ := q.out
  refine ⟨P, ao, k, cap, rfl, Nat.le_trans f2.len (by decide), fun V q hV hq => ?_⟩
  have HV := f4.below hV
  refine ⟨dns_of HV (by omega) hq, Calls.mono (HV.d_drain hK ht hid hb) ?_⟩
  rintro e w2 ⟨P', ao2, k2, c2, rfl, g⟩
  obtain ⟨g1, g2, g3, ⟨Is', g4⟩, g5, g6⟩ := g.out
  have hN : ∀ i, i < K.n → ∃ Kk, Kk ≤ t ∧ (ptF K.SL[id].kd (C id b i)).Num Kk := fun i hi => (((H.ls.code.rows id hid b hb i hi).ok d3 d4 ht).2)
  obtain ⟨Kf, hKf⟩ : ∃ Kf : Nat → Nat, ∀ i, i < K.n → Kf i < 70368744177664 ∧ (ptF K.SL[id].kd (C id b i)).Num (Kf i) := by
    refine ⟨fun i => if h : i < K.n then Classical.choose (hN i h) else 0, fun i hi => ?_⟩
    have := Classical.choose_spec (hN i hi)
    simp only [dif_pos hi]
    exact ⟨by omega, this.2⟩
  obtain ⟨rfl, _⟩ := fold_same K.n P P' d2 hKf f1 g1
  have hq2 := g5 q _ _ _ (Or.inr rfl) hq
  have own1 : V.ownsRow W.heap.size 222 2 (.slice ao k cap) P.L.length (fl P.L) := Chg.row hV f3 (fun _ _ k => k)
  have own2 : w2.ownsRow W.heap.size 222 2 (.slice ao k cap) P.L.length (fl P.L) := Chg.row g6 own1 (fun x hx hy => absurd (hy.eq (own_ty own1 hx)) (by decide))
  have s1 : W.heap.size ≤ w2.heap.size := Nat.le_trans (Nat.le_trans f0 hV.size) g6.size
  exact ⟨ao2, k2, c2, rfl, ⟨own_sn own2 s1, own_sn g3 g6.size, a, r0, r1, lv, rv, Rs, Is', _, g4, H.cl, H.few⟩, dns_of g4 (by omega) hq2⟩
end
end Go.Proofs.YtaeapikhhbjlnaaGreatDoor
/- THE LAW's drain: the walk; steps. Own work of the verifier. -/
namespace Go.Proofs.YtaeapikhhbjlnaaGreatDoor
open Go.RowKit

theorem StE.chg0 {K : Kx} {t : Nat} {W W' : World} (H : StE K t W) (hc : Chg (fun _ => False) W W') : StE K t W' := by
  obtain ⟨a, r0, r1, lv, rv, Rs, Is, C, H1⟩ := H
  exact ⟨a, r0, r1, lv, rv, Rs, Is, C, H1.chg0 hc⟩
theorem dns_below {K : Kx} {q : Nat} {P : Pt} {v : Value} {W W' : World} (h : DnS K q P v W) (hb : Below W.heap.size W W') : DnS K q P v W' := by
  have c : ∀ {a : Addr} {u : Value}, W.cell? a = some u → W'.cell? a = some u := fun {a} {u} e => (World.cell?_of_block (hb.block a.block (lt_of_cell e))).trans e
  obtain ⟨⟨h1, h2, h3, h4⟩, h5, h6, h7, h8, h9, h10, h11⟩ := h
  exact ⟨⟨c h1, c h2, c h3, c h4⟩, c h5, c h6, c h7, c h8, c h9, c h10, c h11⟩
set_option maxRecDepth 10000 in
set_option maxHeartbeats 4000000 in
theorem drain_law (K : Kx) (hK : K.Ok) (t : Nat) (ht : t < 70368744177664) (id b : Nat) (hid : id < K.SL.length) (hb : b < 2) (w : World) (H : StE K t w) :
    Calls Tryz.prog 12 #[ptr K.wb, .int .i64 (id : Int), .int .i64 (b : Int)] w fun e w' => e = .returned (.bool true) ∧ Hid (StE K t w') := by
  obtain ⟨a, r0, r1, lv, rv, Rs, Is, C, H⟩ := H
  have e4 := H.ls.law.sl
  obtain ⟨ao3, sc, e5⟩ := own_len e4
  have e4' := e4
  rw [e5] at e4
  obtain ⟨slb, rfl, k3⟩ := own_at e4 (by omega)
  have c1 : w.cell? ⟨slb, id, none⟩ = some (ptr K.SL[id].s) := by
    have := k3 w e4 id (by simpa using hid)
    simpa using this
  obtain ⟨l0, l1, l2, l3, l4, l5⟩ := H.ls.lw
  rw [e5] at l2
  have HD : Hid (∀ _ : Unit, _) := fun _ => H.drains hK ht hid hb
  have HSp : Hid (∀ (P : Pt) (v v' : Value) (V : World), P.L.length ≤ 1048576 → SN V v P.L → SN V v' P.L → _) := fun P v v' V hl h1 h2 => samePart_any P v v' V h1 h2 hl
  have hid' : (id : Int) < (K.SL.length : Int) := by omega
  have hf : K.SL.length ≤ 20 := hK.few
  clear H e4 e4' k3 l0 l1 l3 l4 l5 hK ht
  generalize K.SL[id].s = s at *
  go_enter Tryz.func12, Tryz.ntmps12
  have sF := store_f
  have sC := store_c
  go_upto_region 2 with (go_at_call 32; with_reducible refine Calls.mono (HD.out ()) ?_; rintro e w1 ⟨P, ao, k, cap, rfl, H1⟩)
  obtain ⟨hS0, HDd⟩ := H1.out.2 ((w1.alloc (.cells #[.int .i64 P.hi, .int .u64 P.lo, .slice ao k cap, .int .u64 (P.n : Int), .complex .f64 P.s P.c, .float .f64 P.mn, .float .f64 P.mx] 97)).drew) w1.heap.size ((Chg.of_below (bel1 w1 _)).drew) (new_1 w1 _)
  have HDh : Hid (∀ _ : Unit, _) := fun _ => HDd
  have HLn := hid_of H1.out.1
  clear HDd
  go_cut [6] from 21 to 44 (fun v W => v = .bool true ∧ Hid (StE K t W))
  case first =>
    go_region_held3 (fun W => DnS K w1.heap.size P (.slice ao k cap) W)
      (first | with_reducible assumption | with_reducible exact hS0)
      (first
        | (go_at_call 45; with_reducible refine Calls.mono (HDh.out ()) ?_; rintro e w5 ⟨ao2, k2, c2, rfl, H5, hS5⟩)
        | (go_at_call 44; with_reducible refine Calls.mono (HSp.out P _ _ _ HLn.out H5.out.1 H5.out.2.1) ?_; rintro e w6 ⟨rfl, H6⟩; have hS6 := dns_below hS5 H6.out))
    all_goals
      go_wp2_with fail
      go_meet
      exact ⟨rfl, H5.out.2.2.chg0 (Chg.of_below H6.out)⟩
  case rest =>
    obtain ⟨rfl, HE⟩ := hcut
    go_wp2_with fail
    go_ret
    exact ⟨rfl, HE⟩
end Go.Proofs.YtaeapikhhbjlnaaGreatDoor
/- THE LAW's steps: records, turns, refused, drains. Own work of the verifier. -/
namespace Go.Proofs.YtaeapikhhbjlnaaGreatDoor
open Go.RowKit

/-- The step's own cells. -/
abbrev SoS (K : Kx) (slv : Value) (ob : Nat) (kind on oid N : Int) (X : Nat) (W : World) : Prop := (W.cell? ⟨K.wb, 0, none⟩ = some (ptr K.k) ∧ W.cell? ⟨K.wb, 2, none⟩ = some slv ∧ W.cell? ⟨K.wb, 4, none⟩ = some (ptr K.sb)) ∧ W.cell? ⟨ob, 0, none⟩ = some (.int .i64 kind) ∧ W.cell? ⟨ob, 1, none⟩ = some (.int .i64 on) ∧ W.cell? ⟨ob, 2, none⟩ = some (.int .i64 oid) ∧ W.cell? ⟨ob, 3, none⟩ = some (.int .i64 N) ∧ W.cell? ⟨ob, 4, none⟩ = some (.float .f64 X)
theorem sos_of {K : Kx} {t ac ad : Nat} {r0 r1 s0 s1 : Int} {lv rv : Value} {Lp Rp : List Value} {Rs : List RcD} {Is : List Ins} {C D : Nat → Nat → Nat → List Int} {W : World} (H : LS K t ac ad r0 r1 s0 s1 lv rv Lp Rp Rs Is C D W) {ob : Nat} {kind on oid N : Int} {X : Nat} (ho : W.heap[ob]? = some (.cells (opC kind on oid N X) 42 (0, 0))) : SoS K K.slv ob kind on oid N X W := by
  obtain ⟨l0, l1, l2, l3, l4, l5⟩ := H.lw
  exact ⟨⟨l0, l2, l4⟩, op_cells ho⟩
section
variable (K : Kx) (hK : K.Ok) (t : Nat) (ht : t + 1 < 70368744177664) (on oid N : Int) (X : Nat) (hN : In64 N) (hX : X < 18446744073709551616) (w : World) (H : StE K t w)
include hK ht H
set_option maxRecDepth 10000 in
set_option maxHeartbeats 4000000 in
theorem step_rec (kind : Int) (hk : kind = 3 ∨ kind = 4 ∨ kind = 5) (hN : In64 N) (hX : X < 18446744073709551616) :
    Calls Tryz.prog 11 #[ptr K.wb, .agg #[.int .i64 kind, .int .i64 on, .int .i64 oid, .int .i64 N, .float .f64 X]] w fun e w' => e = .returned (.bool true) ∧ Hid (StE K (t + 2) w') := by
  obtain ⟨w1, hw1⟩ : ∃ w1, w.alloc (.cells #[.int .i64 kind, .int .i64 on, .int .i64 oid, .int .i64 N, .float .f64 X] 42) = w1 := ⟨_, rfl⟩
  have ho : w1.heap[w.heap.size]? = some (.cells (opC kind on oid N X) 42 (0, 0)) := by rw [← hw1]; exact new_1 _ _
  obtain ⟨o0, o1, o2, o3, o4⟩ := op_cells ho
  have HR : Hid (∀ _ : Unit, _) := fun _ => record_law K hK t ht kind on oid N X hk hN hX w1 (H.chg0 (by rw [← hw1]; exact Chg.of_below (bel1 _ _)))
  have Hw1 : Hid (w.alloc (.cells #[.int .i64 kind, .int .i64 on, .int .i64 oid, .int .i64 N, .float .f64 X] 42) = w1) := hw1
  clear H hw1 ho hK ht
  rcases hk with rfl | rfl | rfl
  all_goals
    go_enter Tryz.func11, Tryz.ntmps11
    go_upto_region 1 with fail
    have hw1 := Hw1.out
    simp only [hw1]
    clear hw1 Hw1
    go_wp2_with (go_at_call 42; with_reducible refine Calls.mono (HR.out ()) ?_; rintro e w2 ⟨rfl, H2⟩)
    go_ret
    exact ⟨rfl, H2⟩
set_option maxRecDepth 10000 in
set_option maxHeartbeats 4000000 in
theorem step_turn :
    Calls Tryz.prog 11 #[ptr K.wb, .agg #[.int .i64 6, .int .i64 on, .int .i64 oid, .int .i64 N, .float .f64 X]] w fun e w' => e = .returned (.bool true) ∧ Hid (StE K (t + 2) w') := by
  obtain ⟨w1, hw1⟩ : ∃ w1, w.alloc (.cells #[.int .i64 6, .int .i64 on, .int .i64 oid, .int .i64 N, .float .f64 X] 42) = w1 := ⟨_, rfl⟩
  have ho : w1.heap[w.heap.size]? = some (.cells (opC 6 on oid N X) 42 (0, 0)) := by rw [← hw1]; exact new_1 _ _
  obtain ⟨o0, o1, o2, o3, o4⟩ := op_cells ho
  have H1 := H.chg0 (W' := w1) (by rw [← hw1]; exact Chg.of_below (bel1 _ _))
  obtain ⟨a, r0, r1, lv, rv, Rs, Is, C, H1⟩ := H1
  have l0 := H1.ls.lw.1
  have HT : Hid (∀ _ : Unit, Calls Tryz.prog 31 #[ptr K.k, .pointer none] w1 fun e w' => e = .returned (.tuple #[.int .i64 (a : Int), .int .i64 0]) ∧ w'.cell? ⟨K.wb, 4, none⟩ = some (ptr K.sb) ∧ Hid (∀ _ : Unit, Calls Tryz.prog 43 #[ptr K.sb] w' fun e w2 => e = .returned (.int .i64 (a : Int)) ∧ Hid (StE K (t + 2) w2))) := fun _ => by
    refine Calls.mono (H1.ls.c_turn hK (by omega)) ?_
    rintro e w' ⟨rfl, q⟩
    have q1 := q.out.1
    refine ⟨rfl, q1.lw.2.2.2.2.1, fun _ => Calls.mono (q1.d_turn hK H1.ls.code.a2) ?_⟩
    rintro e w2 ⟨rfl, q2⟩
    exact ⟨rfl, StE.mono (t := t) ⟨1 - a, r0, r1, lv, rv, Rs, Is, C, q2.out.1, H1.cl, H1.few⟩ (by omega)⟩
  have Hw1 : Hid (w.alloc (.cells #[.int .i64 6, .int .i64 on, .int .i64 oid, .int .i64 N, .float .f64 X] 42) = w1) := hw1
  clear H H1 hw1 ho hK ht
  go_enter Tryz.func11, Tryz.ntmps11
  go_upto_region 1 with fail
  have hw1 := Hw1.out
  simp only [hw1]
  clear hw1 Hw1
  go_wp2_with (first
    | (go_at_call 31; with_reducible refine Calls.mono (HT.out ()) ?_; rintro e w2 ⟨rfl, k2, H2⟩)
    | (go_at_call 43; with_reducible refine Calls.mono (H2.out ()) ?_; rintro e w3 ⟨rfl, H3⟩))
  go_ret
  exact ⟨rfl, H3⟩
omit ht in
set_option maxRecDepth 10000 in
set_option maxHeartbeats 4000000 in
theorem step_ref :
    Calls Tryz.prog 11 #[ptr K.wb, .agg #[.int .i64 7, .int .i64 on, .int .i64 oid, .int .i64 N, .float .f64 X]] w fun e w' => e = .returned (.bool true) ∧ Hid (StE K (t + 2) w') := by
  obtain ⟨w1, hw1⟩ : ∃ w1, w.alloc (.cells #[.int .i64 7, .int .i64 on, .int .i64 oid, .int .i64 N, .float .f64 X] 42) = w1 := ⟨_, rfl⟩
  have ho : w1.heap[w.heap.size]? = some (.cells (opC 7 on oid N X) 42 (0, 0)) := by rw [← hw1]; exact new_1 _ _
  obtain ⟨o0, o1, o2, o3, o4⟩ := op_cells ho
  have H1 := H.chg0 (W' := w1) (by rw [← hw1]; exact Chg.of_below (bel1 _ _))
  obtain ⟨a, r0, r1, lv, rv, Rs, Is, C, H1⟩ := H1
  obtain ⟨x, y0, y1, hxy⟩ : ∃ x y0 y1 : Int, (N = 0 ∧ x = uw r0 ∧ y0 = 0 ∧ y1 = r1) ∨ (N = 1 ∧ x = uw r1 ∧ y0 = r0 ∧ y1 = 0) ∨ ((N < 0 ∨ 2 ≤ N) ∧ x = 0 ∧ y0 = r0 ∧ y1 = r1) := by
    by_cases h0 : N = 0
    · exact ⟨_, _, _, Or.inl ⟨h0, rfl, rfl, rfl⟩⟩
    · by_cases h1 : N = 1
      · exact ⟨_, _, _, Or.inr (Or.inl ⟨h1, rfl, rfl, rfl⟩)⟩
      · exact ⟨_, _, _, Or.inr (Or.inr ⟨by omega, rfl, rfl, rfl⟩)⟩
  have H1d := H1.chg0 (drew0 w1)
  have hS0 := sos_of H1d.ls (W := w1.drew) ho
  have HC : Hid (∀ _ : Unit, Calls Tryz.prog 13 #[ptr K.k, .pointer none, .int .i64 N] w1.drew fun e w' => e = .returned (.int .u64 x) ∧ Hid (∀ _ : Unit, Calls Tryz.prog 14 #[ptr K.sb, .int .i64 N] w' fun e w2 => e = .returned (.int .u64 x) ∧ Hid (StE K (t + 2) w2) ∧ SoS K K.slv w.heap.size 7 on oid N X w2) ∧ SoS K K.slv w.heap.size 7 on oid N X w') := fun _ => by
    refine Calls.mono (H1d.ls.c_refused hK N x y0 y1 hxy) ?_
    rintro e w' ⟨rfl, q⟩
    have ho' := q.out.2 _ _ _ _ (Or.inl rfl) ho
    refine ⟨rfl, fun _ => Calls.mono (q.out.1.d_refused hK N x y0 y1 hxy) ?_, sos_of q.out.1 ho'⟩
    rintro e w2 ⟨rfl, q2⟩
    have ho2 := q2.out.2 _ _ _ _ (Or.inl rfl) ho'
    exact ⟨rfl, StE.mono (t := t) ⟨a, y0, y1, lv, rv, Rs, Is, C, q2.out.1, H1.cl, H1.few⟩ (by omega), sos_of q2.out.1 ho2⟩
  have Hw1 : Hid (w.alloc (.cells #[.int .i64 7, .int .i64 on, .int .i64 oid, .int .i64 N, .float .f64 X] 42) = w1) := hw1
  clear H H1 H1d hw1 ho hxy hK
  generalize K.slv = slv at *
  go_enter Tryz.func11, Tryz.ntmps11
  go_upto_region 1 with fail
  have hw1 := Hw1.out
  simp only [hw1]
  clear hw1 Hw1
  go_upto_region 23 with fail
  go_cut [4] from 138 to 152 (fun v W => v = .bool true ∧ Hid (StE K (t + 2) W))
  case first =>
    go_region_held3 (fun W => SoS K slv w.heap.size 7 on oid N X W)
      (first | with_reducible assumption | with_reducible exact hS0)
      (first
        | (go_at_call 13; with_reducible refine Calls.mono (HC.out ()) ?_; rintro e w2 ⟨rfl, H2, hS2⟩)
        | (go_at_call 14; with_reducible refine Calls.mono (H2.out ()) ?_; rintro e w3 ⟨rfl, H3, hS3⟩))
    all_goals
      go_wp2_with fail
      go_meet
      exact ⟨rfl, H3⟩
  case rest =>
    obtain ⟨rfl, HE⟩ := hcut
    go_wp2_with fail
    go_ret
    exact ⟨rfl, HE⟩
end
end Go.Proofs.YtaeapikhhbjlnaaGreatDoor
/- THE LAW's steps: a recorder more. Own work of the verifier. -/
namespace Go.Proofs.YtaeapikhhbjlnaaGreatDoor
open Go.RowKit

theorem infoPR : (Tryz.prog.info? 70).map (fun i => (i.zero, i.size, i.bytes)) = some (some (.pointer none), 1, 8) := by kernel_rfl
theorem infoPD : (Tryz.prog.info? 136).map (fun i => (i.zero, i.size, i.bytes)) = some (some (.pointer none), 1, 8) := by kernel_rfl
/-- A recorder of the code is there. -/
structure NS (K : Kx) (t a : Nat) (r0 r1 : Int) (lv rv : Value) (Rp : List Value) (Rs : List RcD) (Is : List Ins) (C : Nat → Nat → Nat → List Int) (ob x : Nat) (oc : Array Value) (st : Int) (Lp : List Value) (W : World) : Prop where
  ls : LS K t a a r0 r1 r0 r1 lv rv Lp Rp Rs Is C C W
  rc : Rc W x K.k st false
  ge : K.Bd ≤ x
  new : ∀ i (hi : i < Rs.length), Rs[i].rc ≠ x
  op : W.heap[ob]? = some (.cells oc 42 (0, 0))
theorem bd_le {K : Kx} {t ac ad : Nat} {r0 r1 s0 s1 : Int} {lv rv : Value} {Lp Rp : List Value} {Rs : List RcD} {Is : List Ins} {C D : Nat → Nat → Nat → List Int} {W : World} (H : LS K t ac ad r0 r1 s0 s1 lv rv Lp Rp Rs Is C D W) : K.Bd ≤ W.heap.size := by
  obtain ⟨m, hD, _⟩ := H.doc.doc
  exact Nat.le_trans (H.doc.ge K.mb (Or.inr (Or.inl rfl))) (Nat.le_of_lt (Array.getElem?_eq_some_iff.1 hD.mach).1)
section
variable {K : Kx} {t a : Nat} {r0 r1 : Int} {lv rv : Value} {Lp Rp : List Value} {Rs : List RcD} {Is : List Ins} {C : Nat → Nat → Nat → List Int} {ob x : Nat} {oc : Array Value} {st : Int} {W : World}
theorem St.ns (H : St K t a r0 r1 lv rv Rs Is C W) (ho : W.heap[ob]? = some (.cells oc 42 (0, 0))) : NS K t a r0 r1 lv rv (Rs.map fun r => ptr r.d) Rs Is C ob W.heap.size oc st (Rs.map fun r => ptr r.rc) (W.alloc (.cells #[ptr K.k, .int .i64 st, .bool false] 189)) := by
  have b := bel1 W (.cells #[ptr K.k, .int .i64 st, .bool false] 189)
  exact ⟨H.ls.below (Chg.of_below b), new_1 W _, bd_le H.ls, fun i hi => Nat.ne_of_lt (Array.getElem?_eq_some_iff.1 (H.ls.recs.rc i hi)).1, (b.block ob (Array.getElem?_eq_some_iff.1 ho).1).trans ho⟩
theorem NS.appl (hK : K.Ok) (H : NS K t a r0 r1 lv rv Rp Rs Is C ob x oc st Lp W) {o : Obj} {w2 : World} {v lv' : Value} (hown : w2.ownsRow K.Bd 70 1 lv' (Lp.length + 1) (Lp ++ [v])) (hgr : (W.alloc o).grownBy w2 lv.ownBlock) : (w2.cell? ⟨K.wb, 1, none⟩ = some lv ∧ w2.frozen? ⟨K.wb, 1, none⟩ = false) ∧ NS K t a r0 r1 lv' rv Rp Rs Is C ob x oc st (Lp ++ [v]) (w2.setCell ⟨K.wb, 1, none⟩ lv') := by
  obtain ⟨q1, q2, q3, q4⟩ := H.ls.app_l hK hown hgr
  have e := q1.trans H.ls.law.ex.1
  exact ⟨⟨by simp [World.cell?, e], by simp [World.frozen?, e]⟩, q2, q4 _ _ _ H.rc, H.ge, H.new, q3 _ _ _ _ (Or.inl rfl) H.op⟩
/-- The document's recorder, and its place in the list. -/
theorem NS.appr (hK : K.Ok) (H : NS K t a r0 r1 lv rv (Rs.map fun r => ptr r.d) Rs Is C ob x oc st ((Rs.map fun r => ptr r.rc) ++ [ptr x]) W) (hcl : ∀ i (hi : i < Rs.length), Rs[i].cc = Rs[i].cd) (hf : Rs.length ≤ t) {o : Obj} {w2 : World} {rv' : Value} (hown : w2.ownsRow K.Bd 136 1 rv' (Rs.length + 1) ((Rs.map fun r => ptr r.d) ++ [ptr W.heap.size])) (hgr : ((W.alloc (.cells #[.int .i64 st, .bool false] 138)).alloc o).grownBy w2 rv.ownBlock) : (w2.cell? ⟨K.wb, 5, none⟩ = some rv ∧ w2.frozen? ⟨K.wb, 5, none⟩ = false) ∧ StE K (t + 1) (w2.setCell ⟨K.wb, 5, none⟩ rv') := by
  have b := bel1 W (.cells #[.int .i64 st, .bool false] 138)
  have H2 := H.ls.below (Chg.of_below (S := fun _ => False) b)
  obtain ⟨q1, q2, q3, q4⟩ := H2.app_r hK (o := o) (by rw [List.length_map]; exact hown) hgr
  have e := q1.trans H2.law.ex.1
  have hx := (b.block x (Array.getElem?_eq_some_iff.1 H.rc).1).trans H.rc
  have h3 := LS.add_rec (x := x) (d := W.heap.size) (st := st) q2 (q4 _ _ _ _ (Or.inl rfl) hx) (q4 _ _ _ _ (Or.inr rfl) (new_1 W _)) H.ge (bd_le H.ls) (fun i hi => ⟨H.new i hi, Nat.ne_of_lt (Array.getElem?_eq_some_iff.1 (H.ls.recs.d i hi)).1⟩)
  refine ⟨⟨by simp [World.cell?, e], by simp [World.frozen?, e]⟩, a, r0, r1, lv, rv', Rs ++ [⟨x, W.heap.size, st, false, false⟩], Is, C, ⟨?_, ?_, ?_⟩⟩
  rotate_left 1
  · intro i hi
    by_cases h : i < Rs.length
    · rw [List.getElem_append_left h]; exact hcl i h
    · rw [List.getElem_append_right (by omega)]
      have : i - Rs.length = 0 := by simp at hi; omega
      simp only [this, List.getElem_cons_zero]
  · simp; omega
  · rw [List.map_append, List.map_append]
    exact ⟨h3.bel, h3.code.mono (by omega), h3.doc.mono (by omega), h3.recs, h3.law⟩
end
set_option maxRecDepth 10000 in
set_option maxHeartbeats 4000000 in
theorem step_new (K : Kx) (hK : K.Ok) (t : Nat) (ht : t < 8796093022208) (on oid N : Int) (X : Nat) (w : World) (H : StE K t w) :
    Calls Tryz.prog 11 #[ptr K.wb, .agg #[.int .i64 1, .int .i64 on, .int .i64 oid, .int .i64 N, .float .f64 X]] w fun e w' => e = .returned (.bool true) ∧ Hid (StE K (t + 1) w') := by
  obtain ⟨w1, hw1⟩ : ∃ w1, w.alloc (.cells #[.int .i64 1, .int .i64 on, .int .i64 oid, .int .i64 N, .float .f64 X] 42) = w1 := ⟨_, rfl⟩
  have ho : w1.heap[w.heap.size]? = some (.cells (opC 1 on oid N X) 42 (0, 0)) := by rw [← hw1]; exact new_1 _ _
  obtain ⟨o0, o1, o2, o3, o4⟩ := op_cells ho
  obtain ⟨a, r0, r1, lv, rv, Rs, Is, C, H⟩ := H
  have H1 := H.chg0 (W' := w1) (by rw [← hw1]; exact Chg.of_below (bel1 _ _))
  have l0 := H1.ls.lw.1
  have HR : Hid (∀ (k : Nat) (st : Int) (W : World), _) := rrec_any
  have HNS : Hid (NS K t a r0 r1 lv rv (Rs.map fun r => ptr r.d) Rs Is C w.heap.size w1.heap.size (opC 1 on oid N X) N (Rs.map fun r => ptr r.rc) (w1.drew.alloc (.cells #[ptr K.k, .int .i64 N, .bool false] 189))) := (H1.chg0 (drew0 w1)).ns (ob := w.heap.size) ho
  obtain ⟨i0, hi0, hz0, hz1, hz2⟩ := info_parts infoPR
  obtain ⟨j0, hj0, hy0, hy1, hy2⟩ := info_parts infoPD
  have hfew := H.few
  have Hcl : Hid (∀ i (hi : i < Rs.length), Rs[i].cc = Rs[i].cd) := H.cl
  have HF : Hid (Rs.length ≤ t ∧ t < 8796093022208) := ⟨hfew, ht⟩
  have Hw1 : Hid (w.alloc (.cells #[.int .i64 1, .int .i64 on, .int .i64 oid, .int .i64 N, .float .f64 X] 42) = w1) := hw1
  have HK : Hid K.Ok := hK
  obtain ⟨⟨lao, lc, hlv⟩, ⟨rao, rc, hrv⟩, _⟩ := slv_form H1
  subst hlv
  subst hrv
  clear H H1 hw1 ho hfew ht hK
  go_enter Tryz.func11, Tryz.ntmps11
  go_upto_region 1 with fail
  have hw1 := Hw1.out
  simp only [hw1]
  clear hw1 Hw1
  go_upto_region 3 with fail
  go_cut [5] from 13 to 19 (fun v W => ∃ x, v = .pointer (some ⟨x, 0, none⟩) ∧ Hid (NS K t a r0 r1 (.slice lao Rs.length lc) (.slice rao Rs.length rc) (Rs.map fun r => ptr r.d) Rs Is C w.heap.size x (opC 1 on oid N X) N (Rs.map fun r => ptr r.rc) W))
  case first =>
    go_region_with (go_at_call 29; with_reducible refine Calls.mono (HR.out _ _ _) ?_; rintro e w2 ⟨rfl, rfl⟩)
    all_goals
      go_wp2_with fail
      go_meet
      exact ⟨_, rfl, HNS⟩
  case rest =>
    obtain ⟨x, rfl, HN⟩ := hcut
    clear HNS o0 o1 o2 o3 o4 l0
    obtain ⟨l0, l1, l2, l3, l4, l5⟩ := HN.out.ls.lw
    obtain ⟨o0, o1, o2, o3, o4⟩ := op_cells HN.out.op
    have la : ∀ o, (wc.alloc o).cell? ⟨K.wb, 1, none⟩ = some (.slice lao Rs.length lc) := fun o => ((bel1 wc o).cell (p := ⟨K.wb, 1, none⟩) (lt_of_cell l1)).trans l1
    have HOw : Hid (wc.ownsRow K.Bd 70 1 (.slice lao Rs.length lc) Rs.length (Rs.map fun r => ptr r.rc)) := by have := HN.out.ls.law.ex.2.1; rw [List.length_map] at this; exact this
    have HBd : Hid (K.Bd ≤ wc.heap.size) := bd_le HN.out.ls
    go_upto_region 5 with (at_builtin; refine wpList_append_own _ rfl _ _ 28 rfl K.Bd 70 i0 (.pointer none) 1 8 Tryz.underlying28 hi0 hz0 hz1 hz2 rfl (by decide) (.slice lao Rs.length lc) Rs.length (Rs.map fun r => ptr r.rc) rfl (HOw.out.alloc _) ⟨wc.heap.size, 0, none⟩ 1 1 [ptr x] rfl rfl (World.news_of_block (cs := #[ptr x]) (new_1 wc _)) (by simp [Value.oneCell']) (by have := HF.out; unfold maxLen; omega) (by have := HF.out; omega) (by have := HBd.out; simp; omega) ?_; intro lv' w2 hown hgr hnil; obtain ⟨⟨k1, k2⟩, HN2⟩ := NS.appl HK.out HN.out (by rw [List.length_map]; exact hown) hgr; obtain ⟨lao2, lm2, lc2, rfl⟩ := own_sl hown; have HN2h := hid_of HN2; clear HN2 hown hgr hnil)
    clear l0 l1 l2 l3 l4 l5 la k1 k2 HN HOw HBd o0 o1 o2 o3 o4
    generalize w2.setCell ⟨K.wb, 1, none⟩ (.slice lao2 lm2 lc2) = W2 at *
    obtain ⟨l0, l1, l2, l3, l4, l5⟩ := HN2h.out.ls.lw
    obtain ⟨o0, o1, o2, o3, o4⟩ := op_cells HN2h.out.op
    have ra : ∀ o, (W2.alloc o).cell? ⟨K.wb, 5, none⟩ = some (.slice rao Rs.length rc) := fun o => ((bel1 W2 o).cell (p := ⟨K.wb, 5, none⟩) (lt_of_cell l5)).trans l5
    have rb : ∀ o o', ((W2.alloc o).alloc o').cell? ⟨K.wb, 5, none⟩ = some (.slice rao Rs.length rc) := fun o o' => ((bel2 W2 o o').cell (p := ⟨K.wb, 5, none⟩) (lt_of_cell l5)).trans l5
    have HOr : Hid (W2.ownsRow K.Bd 136 1 (.slice rao Rs.length rc) Rs.length (Rs.map fun r => ptr r.d)) := by have := HN2h.out.ls.law.ex.2.2; rw [List.length_map] at this; exact this
    have HOr2 : Hid (∀ o o', ((W2.alloc o).alloc o').drew.ownsRow K.Bd 136 1 (.slice rao Rs.length rc) Rs.length (Rs.map fun r => ptr r.d)) := fun o o' => World.ownsRow.drew ((HOr.out.alloc _).alloc _)
    have HBd : Hid (K.Bd ≤ W2.heap.size) := bd_le HN2h.out.ls
    have HAp : Hid (∀ (w5 : World) (rv' : Value) (o : Obj), w5.ownsRow K.Bd 136 1 rv' (Rs.length + 1) ((Rs.map fun r => ptr r.d) ++ [ptr W2.heap.size]) → ((W2.alloc (.cells #[.int .i64 N, .bool false] 138)).alloc o).grownBy w5 (Value.slice rao Rs.length rc).ownBlock → (w5.cell? ⟨K.wb, 5, none⟩ = some (.slice rao Rs.length rc) ∧ w5.frozen? ⟨K.wb, 5, none⟩ = false) ∧ Hid (StE K (t + 1) (w5.setCell ⟨K.wb, 5, none⟩ rv'))) := fun w5 rv' o h1 h2 => NS.appr HK.out HN2h.out Hcl.out HF.out.1 h1 h2
    go_region_law (refine step_append_lies _ (by rfl) _ _ 31 (by rfl) K.Bd 136 j0 (.pointer none) 1 8 Tryz.underlying31 hj0 hy0 hy1 hy2 rfl (by decide) (.slice rao Rs.length rc) Rs.length (Rs.map fun r => ptr r.d) (by rfl) (HOr2.out _ _) ⟨W2.heap.size + 1, 0, none⟩ 1 1 [ptr W2.heap.size] (by rfl) rfl (World.news_of_block (cs := #[ptr W2.heap.size]) (Pr.new2 W2 _ _)) (by simp [Value.oneCell']) (by decide) (by have := HF.out; unfold maxLen; omega) (by have := HF.out; omega) (by have := HBd.out; simp; omega) (W2.heap.size + 2) (by simp) ?_; intro g cap w5 hown hgr hat hgl; obtain ⟨⟨k3, k4⟩, HE⟩ := HAp.out w5 _ _ hown (grown_drew hgr))
    all_goals
      go_wp2_with fail
      go_ret
      exact ⟨rfl, HE⟩
end Go.Proofs.YtaeapikhhbjlnaaGreatDoor
