/- ExpoKeeps: the law's few. Own work of the verifier. -/
import Derived.Test.YtlgfgeacphkhnaaGreatDoorWBQ
import Derived.Test.YtlgfgeacphkhnaaGreatDoorWBB
import Derived.Deep.RegionHeld3
namespace Go.Proofs.YtlgfgeacphkhnaaGreatDoor
open Go.RowKit Me

def wgtV (x : Vl) : Nat := 1 + x.cs.length + x.d.labels.length
def wgtL (L : List Vl) : Nat := (L.map wgtV).sum
theorem wgt_mem {L : List Vl} {x : Vl} (h : x ∈ L) : x.cs.length + x.d.labels.length + 1 ≤ wgtL L := by
 induction L with
 | nil => cases h
 | cons a L ih =>
  unfold wgtL at *
  rw [List.map_cons, List.sum_cons]
  rcases List.mem_cons.1 h with rfl | k
  ·unfold wgtV; omega
  ·have := ih k; omega
theorem wgtL_len (L : List Vl) : L.length ≤ wgtL L := by
 induction L with
 | nil => simp [wgtL]
 | cons a L ih =>
  have e : wgtL (a :: L) = wgtV a + wgtL L := by unfold wgtL; rw [List.map_cons, List.sum_cons]
  have e2 : 1 ≤ wgtV a := by unfold wgtV; omega
  rw [e, List.length_cons]
  omega
theorem wgtL_take (L : List Vl) (k : Nat) (h : k < L.length) : wgtL (L.take (k + 1)) = wgtL (L.take k) + wgtV L[k] := by
 unfold wgtL
 rw [List.take_succ_eq_append_getElem h, List.map_append, List.sum_append]
 simp
theorem wgtL_takes (L : List Vl) (k : Nat) : wgtL (L.take k) ≤ wgtL L := by
 unfold wgtL
 conv => rhs; rw [← List.take_append_drop k L]
 rw [List.map_append, List.sum_append]
 omega
set_option maxRecDepth 100000 in
set_option maxHeartbeats 4000000 in
theorem few16_any (s : Sn) (v : Value) (w : World) (hv : SnAt w s v) (hw : ∀ x ∈ s.vs, x.cs.length ≤ 8796093022208 ∧ x.d.labels.length ≤ 4398046511104) :
  Calls Tryz.prog 5 #[v] w fun e w' => e = .returned (.bool (decide (wgtL s.vs ≤ 1048576))) ∧ Below w.heap.size w w' := by
 obtain ⟨uv, rfl, hu⟩ := hv
 obtain ⟨ao, vb, vo, vcap, rfl, hao, hvc, hvc2, hr⟩ := hu.open
 obtain ⟨W0, hW0⟩ : ∃ W0, W0 = w.alloc (.cells #[.int .i64 s.p, .slice ao s.vs.length vcap, .int .u64 (s.r : Int)] 25) := ⟨_, rfl⟩
 have hN0 : W0.heap[w.heap.size]? = some (.cells #[.int .i64 s.p, .slice ao s.vs.length vcap, .int .u64 (s.r : Int)] 25) := by rw [hW0]; exact new_1 w _
 have hb0 : Below w.heap.size w W0 := by rw [hW0]; exact bel1 w _
 have HV := hid_of hr
 have HWi := hid_of hw
 obtain ⟨Q, hQ⟩ : ∃ Q, Q = decide (wgtL s.vs ≤ 1048576) := ⟨_, rfl⟩
 rw [← hQ]
 have HQ := hid_of hQ
 have H0 : Hid ((1048576 : Int) = 1048576 - (wgtL (s.vs.take 0) : Int) ∧ (0 : Int) ≤ 1048576 ∨ (1048576 : Int) < 0 ∧ 1048576 < wgtL s.vs) := Or.inl ⟨rfl, by decide⟩
 have hbx : W0.cell? ⟨w.heap.size, 1, none⟩ = some (.slice ao s.vs.length vcap) := by simp [World.cell?, hN0]
 have HRw : Hid (RowV W0 vb vo s.vs) := HV.out.below hb0
 have HB0 := hid_of hb0
 have HW0 := hid_of hW0
 clear hr hw hQ hu hN0 hb0 hW0 HV
 go_enter Tryz.func5, Tryz.ntmps5
 go_upto_region 1 with fail
 rw [← HW0.out]
 clear HW0
 go_upto_region 3 with fail
 go_loopw [3, 4] (fun x y W => ∃ (acc : Int) (k m : Nat), k ≤ s.vs.length ∧ -281474976710656 ≤ acc ∧ acc ≤ 1048576 ∧ x = .int .i64 acc ∧ y = .int .i64 (k : Int) ∧ W = W0.drewN m ∧ Hid (acc = 1048576 - (wgtL (s.vs.take k) : Int) ∧ 0 ≤ acc ∨ acc < 0 ∧ 1048576 < wgtL s.vs)) (fun _ y _ => s.vs.length - (intOf y).toNat)
 case atStart => exact ⟨1048576, 0, 0, by omega, by omega, by omega, rfl, rfl, rfl, H0⟩
 case round =>
  clear H0
  obtain ⟨acc, k, m, hk, hb1, hb2, rfl, rfl, rfl, HI⟩ := hrel
  by_cases hkt : k < s.vs.length
  ·have hkt' : (k : Int) < (s.vs.length : Int) := by omega
   by_cases hac : 0 ≤ acc
   ·obtain rfl := hao (by intro e; rw [e] at hkt; simp at hkt)
    have hiy := index_val vb vo s.vs.length vcap k (k : Int) rfl hkt
    obtain ⟨lx, cx, g1, g2, g3⟩ := HRw.out k hkt
    obtain ⟨xa, xc, rfl⟩ := g2.form
    obtain ⟨ya, yc, rfl⟩ := SN.form g3
    obtain ⟨q1, q2⟩ := HWi.out _ (List.getElem_mem hkt)
    have hr3 := g1.c3
    have hr6 := g1.c6
    have HTv := hid_of (wgtL_take s.vs k hkt)
    have HTl := hid_of (wgtL_takes s.vs (k + 1))
    obtain ⟨C, hC⟩ : ∃ C, s.vs[k].cs.length = C := ⟨_, rfl⟩
    obtain ⟨D, hD⟩ : ∃ D, s.vs[k].d.labels.length = D := ⟨_, rfl⟩
    have HI2 : Hid (acc - (1 + (C : Int) + (D : Int)) = 1048576 - (wgtL (s.vs.take (k + 1)) : Int) ∧ 0 ≤ acc - (1 + (C : Int) + (D : Int)) ∨ acc - (1 + (C : Int) + (D : Int)) < 0 ∧ 1048576 < wgtL s.vs) := by
     have e1 := HTv.out
     have e4 := HTl.out
     unfold wgtV at e1
     rw [hC, hD] at e1
     unfold Hid
     rcases HI.out with q | q <;> omega
    rw [hC] at hr6 q1
    rw [hD] at hr3 q2
    clear g1 g2 g3 hC hD HI HTv HTl
    obtain ⟨acc2, hacc2⟩ : ∃ acc2, acc - (1 + (C : Int) + (D : Int)) = acc2 := ⟨_, rfl⟩
    have w1 : IntKind.i64.wrap (1 + (C : Int)) = 1 + (C : Int) := by rw [IntKind.wrap_i64]; omega
    have w2 : IntKind.i64.wrap (1 + (C : Int) + (D : Int)) = 1 + (C : Int) + (D : Int) := by rw [IntKind.wrap_i64]; omega
    have w3 : IntKind.i64.wrap (acc - (1 + (C : Int) + (D : Int))) = acc2 := by rw [IntKind.wrap_i64]; omega
    have hb3 : Hid (-281474976710656 ≤ acc2 ∧ acc2 ≤ 1048576) := by unfold Hid; omega
    rw [hacc2] at HI2
    clear hacc2
    have hl63 : (s.vs.length : Int) ≤ 9223372036854775807 := by omega
    go_upto_region 5 with fail
    go_region
    go_wp2_with fail
    exact ⟨⟨acc2, k + 1, m + 1, by omega, hb3.out.1, hb3.out.2, rfl, by go_num, rfl, HI2⟩, by simp [intOf]; omega⟩
   ·have hac' : ¬ 0 ≤ acc := hac
    have HE : Hid (Q = decide (0 ≤ acc)) := by
     unfold Hid
     rw [HQ.out]
     apply decide_eq_decide.2
     rcases HI.out with q | q <;> omega
    have HB := hid_of (bt HB0.out (bel_drewNB (Below.refl _ _) m))
    clear HI
    as_aux_lemma =>
     go_wp2_with fail
     go_ret
     exact ⟨retB (by rw [HE.out]; first | exact (decide_eq_false (by omega)).symm | simp [hac']), HB.out⟩
  ·have hkt' : ¬ (k : Int) < (s.vs.length : Int) := by omega
   have HE : Hid (Q = decide (0 ≤ acc)) := by
    unfold Hid
    rw [HQ.out]
    apply decide_eq_decide.2
    have := HI.out
    rw [List.take_of_length_le (by omega)] at this
    rcases this with q | q <;> omega
   have HB := hid_of (bt HB0.out (bel_drewNB (Below.refl _ _) m))
   clear HI
   as_aux_lemma =>
    go_wp2_with fail
    go_ret
    exact ⟨retB HE.out.symm, HB.out⟩
end Go.Proofs.YtlgfgeacphkhnaaGreatDoor
/- WHICH SNAPSHOTS ARE THE SAME: in numbers, the definitions. Own work of the verifier. -/
namespace Go.Proofs.YtlgfgeacphkhnaaGreatDoor
open Go.RowKit Me

def smV (x y : Vl) : Bool := decide (x.d = y.d) && (decide (x.t = y.t) && (decide (x.cs = y.cs) && (decide (x.n = y.n) && sf x y)))
theorem words_eq {s t : Int} (_hs : InR s) (ht : InR t) : (hiOf s == hiOf t && loOf s == loOf t) = decide (s = t) := by
 have h1 := val_hl s
 have h2 := val_hl t
 by_cases e : s = t
 ·subst e; simp
 ·rw [decide_eq_false e]
  by_cases e1 : hiOf s = hiOf t
  ·have : loOf s ≠ loOf t := fun e2 => e (by rw [← h1, ← h2, e1, e2])
   rw [beq_eq_false_iff_ne.2 this, Bool.and_false]
  ·rw [beq_eq_false_iff_ne.2 e1, Bool.false_and]
def smQ : List Vl → List Vl → Bool
 | [], [] => true
 | x :: A, y :: B => smV x y && smQ A B
 | _, _ => false
theorem smQ_len {A B : List Vl} (h : A.length ≠ B.length) : smQ A B = false := by
 induction A generalizing B with
 | nil => cases B with
  | nil => exact absurd rfl h
  | cons y B => rfl
 | cons x A ih => cases B with
  | nil => rfl
  | cons y B => rw [smQ, ih (by simpa using h), Bool.and_false]
theorem smQ_drop (A B : List Vl) (i : Nat) (h1 : i < A.length) (h2 : i < B.length) : smQ (A.drop i) (B.drop i) = (smV A[i] B[i] && smQ (A.drop (i + 1)) (B.drop (i + 1))) := by
 rw [List.drop_eq_getElem_cons h1, List.drop_eq_getElem_cons h2, smQ]
def smS (a b : Sn) : Bool := decide (a.p = b.p) && (decide (a.r = b.r) && smQ a.vs b.vs)
theorem sF_refl (f : Nat) : Re.sF f f = true := by
 unfold Re.sF Re.sg
 simp
theorem smV_refl (x : Vl) : smV x x = true := by
 unfold smV
 simp [sf, sF_refl]
theorem smQ_refl (A : List Vl) : smQ A A = true := by
 induction A with
 | nil => rfl
 | cons x A ih => rw [smQ, smV_refl, ih]; rfl
theorem smS_refl (a : Sn) : smS a a = true := by
 unfold smS
 rw [smQ_refl]
 simp
end Go.Proofs.YtlgfgeacphkhnaaGreatDoor
/- WHICH SNAPSHOTS ARE THE SAME: the document's. Own work of the verifier. -/
namespace Go.Proofs.YtlgfgeacphkhnaaGreatDoor
open Go.RowKit Me

theorem three_cells {W : World} {b : Nat} {x y z : Value} {t : TypeId} (h : W.heap[b]? = some (.cells #[x, y, z] t (0, 0))) : W.cell? ⟨b, 0, none⟩ = some x ∧ W.cell? ⟨b, 1, none⟩ = some y ∧ W.cell? ⟨b, 2, none⟩ = some z ∧ W.frozen? ⟨b, 0, none⟩ = false ∧ W.frozen? ⟨b, 1, none⟩ = false ∧ W.frozen? ⟨b, 2, none⟩ = false := by
 refine ⟨?_, ?_, ?_, ?_, ?_, ?_⟩ <;> simp [World.cell?, World.frozen?, h]
theorem smV_eq (x y : Vl) : smV x y = (decide (x.d = y.d) && decide (x.cs = y.cs) && sf x y && decide (x.t = y.t) && decide (x.n = y.n)) := by
 unfold smV
 cases decide (x.d = y.d) <;> cases decide (x.cs = y.cs) <;> cases sf x y <;> cases decide (x.t = y.t) <;> cases decide (x.n = y.n) <;> rfl
set_option maxRecDepth 100000 in
set_option maxHeartbeats 8000000 in
theorem rsamev_any (x y : Vl) (v u : Value) (hx : VW x) (hy : VW y) (w : World) (hv : VAt w x v) (hu : VAt w y u) :
  Calls Tryz.prog 17 #[v, u] w fun e w' => e = .returned (.bool (smV x y)) ∧ Below w.heap.size w w' := by
 obtain ⟨lv, cv, rfl, hl, hc⟩ := hv
 obtain ⟨lw, cw, rfl, hl', hc'⟩ := hu
 obtain ⟨ca, cc, rfl⟩ := hc.form
 obtain ⟨ca', cc', rfl⟩ := hc'.form
 have HD : Hid (∀ W, Below w.heap.size w W → Calls Tryz.prog 33 #[.agg #[.int .i64 x.d.kind, .string ⟨x.d.name.toArray⟩, .string ⟨x.d.help.toArray⟩, lv], .agg #[.int .i64 y.d.kind, .string ⟨y.d.name.toArray⟩, .string ⟨y.d.help.toArray⟩, lw]] W fun e w' => e = .returned (.bool (decide (x.d = y.d))) ∧ Below W.heap.size W w') := fun W h => La.dsame_any x.d y.d _ _ W (hl.below h).dsc.at (hl'.below h).dsc.at
 have HE : Hid (∀ W, Below w.heap.size w W → Calls Tryz.prog 34 #[.slice ca x.cs.length cc, .slice ca' y.cs.length cc'] W fun e w' => e = .returned (.bool (decide (x.cs = y.cs))) ∧ Below W.heap.size W w') := fun W h => same_sn (hc.below h) (hc'.below h) (by have := hx.cl; omega) (by have := hy.cl; omega)
 have HF1 : Hid (∀ W, _) := Re.refsame_any x.sum y.sum hx.sum hy.sum
 have HF2 : Hid (∀ W, _) := Re.refsame_any x.mn y.mn hx.mn hy.mn
 have HF3 : Hid (∀ W, _) := Re.refsame_any x.mx y.mx hx.mx hy.mx
 have HK := hid_of (KV.new2 hl hc hl' hc' 36)
 have HT := hid_of (words_eq hx.t hy.t)
 obtain ⟨R, hR⟩ : ∃ R, R = smV x y := ⟨_, rfl⟩
 rw [← hR]
 have HR := hid_of (hR.trans (smV_eq x y))
 obtain ⟨la, lc, rfl⟩ := hl.form
 obtain ⟨la', lc', rfl⟩ := hl'.form
 clear hl hc hl' hc' hx hy hR
 go_enter Tryz.func17, Tryz.ntmps17
 go_upto_region 1 with fail
 obtain ⟨w0, hw0⟩ : ∃ w0, ((w.alloc (.cells (vc x (.slice la x.d.labels.length lc) (.slice ca x.cs.length cc)) 36)).alloc (.cells (vc y (.slice la' y.d.labels.length lc') (.slice ca' y.cs.length cc')) 36)) = w0 := ⟨_, rfl⟩
 rw [hw0] at HK
 simp only [vc] at hw0
 rw [hw0]
 clear hw0
 obtain ⟨c0, c1, c2, c3, c4, c5, c6, c7, c8, c9, c10⟩ := HK.out.1.box
 obtain ⟨d0, d1, d2, d3, d4, d5, d6, d7, d8, d9, d10⟩ := HK.out.2.box
 go_upto_region 3 with (first
  | (go_at_call 33; (with_reducible refine (HD.out _ HK.out.1.bl).mono ?_); rintro e w1 ⟨rfl, hb1⟩; have HK1 := hid_of (⟨HK.out.1.below hb1, HK.out.2.below hb1⟩ : _ ∧ _); obtain ⟨c0, c1, c2, c3, c4, c5, c6, c7, c8, c9, c10⟩ := HK1.out.1.box; obtain ⟨d0, d1, d2, d3, d4, d5, d6, d7, d8, d9, d10⟩ := HK1.out.2.box)
  | (go_at_call 34; (with_reducible refine (HE.out _ HK1.out.1.bl).mono ?_); rintro e w2 ⟨rfl, hb2⟩; have HK2 := hid_of (⟨HK1.out.1.below hb2, HK1.out.2.below hb2⟩ : _ ∧ _)))
 obtain ⟨c0, c1, c2, c3, c4, c5, c6, c7, c8, c9, c10⟩ := HK2.out.1.box
 obtain ⟨d0, d1, d2, d3, d4, d5, d6, d7, d8, d9, d10⟩ := HK2.out.2.box
 have HB := hid_of HK2.out.1.bl
 clear HK HK1 HK2 HD HE hb1 hb2
 go_cut [7] from 18 to 36 (fun z W => z = .bool (sf x y) ∧ W = w2)
 case first =>
  clear HR HT
  have HSf : Hid (sf x y = (Re.sF x.sum y.sum && Re.sF x.mn y.mn && Re.sF x.mx y.mx)) := rfl
  unfold Re.sF at HSf
  generalize (Re.sg (Re.rk x.sum) (Re.rk y.sum) == 0) = p1 at *
  generalize (Re.sg (Re.rk x.mn) (Re.rk y.mn) == 0) = p2 at *
  generalize (Re.sg (Re.rk x.mx) (Re.rk y.mx) == 0) = p3 at *
  cases p1 <;> cases p2 <;> cases p3
  all_goals
   go_wp2_with (go_at_call 35; (first | (with_reducible refine (HF1.out _).mono ?_) | (with_reducible refine (HF2.out _).mono ?_) | (with_reducible refine (HF3.out _).mono ?_)); rintro e w2 ⟨rfl, rfl⟩)
   go_meet
   exact ⟨by rw [HSf.out]; rfl, rfl⟩
 case rest =>
 rename_i wc
 obtain ⟨rfl, hwc⟩ := hcut
 obtain rfl : w2 = wc := hwc.symm
 clear HF1 HF2 HF3
 rw [← HT.out] at HR
 have hn2 : decide (x.n = y.n) = ((x.n : Int) == (y.n : Int)) := by
  by_cases e : x.n = y.n
  ·rw [decide_eq_true e, e]; simp
  ·rw [decide_eq_false e]; symm; rw [beq_eq_false_iff_ne]; omega
 have hn3 : decide (x.n = y.n) = (x.n == y.n) := by by_cases e : x.n = y.n <;> simp [e]
 obtain ⟨h1, hh1⟩ : ∃ h1, (hiOf x.t == hiOf y.t) = h1 := ⟨_, rfl⟩
 obtain ⟨h2, hh2⟩ : ∃ h2, (loOf x.t == loOf y.t) = h2 := ⟨_, rfl⟩
 obtain ⟨h3, hh3⟩ : ∃ h3, decide (x.n = y.n) = h3 := ⟨_, rfl⟩
 rw [hh1, hh2, hh3] at HR
 rw [hh3] at hn2 hn3
 have hn2' := hn2.symm
 have hn3' := hn3.symm
 clear HT hn2 hn3 hh3
 generalize decide (x.d = y.d) = db at *
 generalize decide (x.cs = y.cs) = eb at *
 generalize sf x y = sb at *
 cases db <;> cases eb <;> cases sb
 all_goals try (as_aux_lemma =>
  go_wp2_with fail
  go_ret
  exact ⟨retB HR.out.symm, HB.out⟩)
 cases h1 <;> cases h2 <;> cases h3
 all_goals as_aux_lemma =>
  go_wp2_with fail
  go_ret
  exact ⟨retB HR.out.symm, HB.out⟩
structure Sb (w : World) (a b : Sn) (ua ub : Value) (W : World) : Prop where
 g1 : W.heap[w.heap.size]? = some (.cells #[.int .i64 a.p, ua, .int .u64 (a.r : Int)] 25 (0, 0))
 g2 : W.heap[w.heap.size + 1]? = some (.cells #[.int .i64 b.p, ub, .int .u64 (b.r : Int)] 25 (0, 0))
 bl : Below w.heap.size w W
theorem Sb.below {w W W1 : World} {a b : Sn} {ua ub : Value} (h : Sb w a b ua ub W) (hb : Below W.heap.size W W1) : Sb w a b ua ub W1 := ⟨hkN h.g1 hb, hkN h.g2 hb, bt h.bl hb⟩
theorem Sb.new (w : World) (a b : Sn) (ua ub : Value) : Sb w a b ua ub ((w.alloc (.cells #[.int .i64 a.p, ua, .int .u64 (a.r : Int)] 25)).alloc (.cells #[.int .i64 b.p, ub, .int .u64 (b.r : Int)] 25)) := by
 have n2 := new_1 (w.alloc (.cells #[.int .i64 a.p, ua, .int .u64 (a.r : Int)] 25)) (.cells #[.int .i64 b.p, ub, .int .u64 (b.r : Int)] 25)
 rw [show (w.alloc (.cells #[.int .i64 a.p, ua, .int .u64 (a.r : Int)] 25)).heap.size = w.heap.size + 1 by simp] at n2
 exact ⟨hkN (new_1 w _) (bel1 _ _), n2, bel2 _ _ _⟩
abbrev S6s (w : World) (a b : Sn) (ua ub : Value) (ba oa bb ob : Nat) (x y : Vl) (lv cv lw cw : Value) (W : World) : Prop := W.cell? ⟨w.heap.size, 1, none⟩ = some ua ∧ W.cell? ⟨w.heap.size + 1, 1, none⟩ = some ub ∧ cC ba oa x lv cv W ∧ cC bb ob y lw cw W ∧ KR ba oa x lv cv W ∧ KR bb ob y lw cw W ∧ Sb w a b ua ub W
theorem s6s_of {w W : World} {a b : Sn} {ua ub : Value} {ba oa bb ob : Nat} {x y : Vl} {lv cv lw cw : Value} (h1 : KR ba oa x lv cv W) (h2 : KR bb ob y lw cw W) (h3 : Sb w a b ua ub W) : S6s w a b ua ub ba oa bb ob x y lv cv lw cw W := ⟨(three_cells h3.g1).2.1, (three_cells h3.g2).2.1, h1.c.cC, h2.c.cC, h1, h2, h3⟩
theorem keep6s {w W W1 : World} {a b : Sn} {ua ub : Value} {ba oa bb ob : Nat} {x y : Vl} {lv cv lw cw : Value} (hb : Below W.heap.size W W1) (h : S6s w a b ua ub ba oa bb ob x y lv cv lw cw W) : S6s w a b ua ub ba oa bb ob x y lv cv lw cw W1 := s6s_of (h.2.2.2.2.1.below hb) (h.2.2.2.2.2.1.below hb) (h.2.2.2.2.2.2.below hb)
set_option maxRecDepth 100000 in
set_option maxHeartbeats 8000000 in
theorem rsames_any (a b : Sn) (v u : Value) (ha : SnW a) (hb : SnW b) (w : World) (hv : SnAt w a v) (hu : SnAt w b u) :
  Calls Tryz.prog 8 #[v, u] w fun e w' => e = .returned (.bool (smS a b)) ∧ Below w.heap.size w w' := by
 obtain ⟨va, rfl, sa⟩ := hv
 obtain ⟨vb, rfl, sb⟩ := hu
 obtain ⟨ao, b1, o1, cap, rfl, hao, hcap, hcap2, hr⟩ := sa.open
 obtain ⟨bo, b2, o2, cap', rfl, hbo, -, -, hr'⟩ := sb.open
 have HN := hid_of (Sb.new w a b (.slice ao a.vs.length cap) (.slice bo b.vs.length cap'))
 obtain ⟨R, hR⟩ : ∃ R, R = smS a b := ⟨_, rfl⟩
 rw [← hR]
 have HR := hid_of hR
 have HA := hid_of hr
 have HB := hid_of hr'
 have HW := hid_of (⟨ha.vs, hb.vs⟩ : _ ∧ _)
 clear sa sb hr hr' ha hb hR
 go_enter Tryz.func8, Tryz.ntmps8
 go_upto_region 1 with fail
 generalize (w.alloc (.cells #[.int .i64 a.p, .slice ao a.vs.length cap, .int .u64 (a.r : Int)] 25)).alloc (.cells #[.int .i64 b.p, .slice bo b.vs.length cap', .int .u64 (b.r : Int)] 25) = w0 at HN ⊢
 obtain ⟨c0, c1, c2, _, _, _⟩ := three_cells HN.out.g1
 obtain ⟨d0, d1, d2, _, _, _⟩ := three_cells HN.out.g2
 by_cases hp : a.p = b.p
 ·have hp' : (a.p != b.p) = false := by simpa using hp
  by_cases hrr : a.r = b.r
  ·have hr1 : ((a.r : Int) != (b.r : Int)) = false := by rw [bne_eq_false_iff_eq]; omega
   have hr2 : (a.r != b.r) = false := by rw [bne_eq_false_iff_eq]; omega
   by_cases hlen : a.vs.length = b.vs.length
   ·have hl1 : ((a.vs.length : Int) != (b.vs.length : Int)) = false := by rw [bne_eq_false_iff_eq]; omega
    have hl2 : (a.vs.length != b.vs.length) = false := by rw [bne_eq_false_iff_eq]; omega
    have HR0 : Hid (R = smQ (a.vs.drop 0) (b.vs.drop 0)) := by
     unfold Hid
     rw [HR.out]
     unfold smS
     rw [decide_eq_true hp, decide_eq_true hrr]
     rfl
    have HL := hid_of hlen
    clear HR hp hrr hlen
    go_upto_region 4 with fail
    clear c0 c1 c2 d0 d1 d2
    go_loopw [5] (fun x W => ∃ i : Nat, i ≤ a.vs.length ∧ x = .int .i64 (i : Int) ∧ Hid (R = smQ (a.vs.drop i) (b.vs.drop i)) ∧ Hid (Sb w a b (.slice ao a.vs.length cap) (.slice bo b.vs.length cap') W)) (fun x _ => a.vs.length - (intOf x).toNat)
    case atStart => exact ⟨0, by omega, rfl, HR0, HN⟩
    case round =>
     clear HR0 HN
     obtain ⟨i, hi, rfl, HR, HS⟩ := hrel
     obtain ⟨c0, c1, c2, _, _, _⟩ := three_cells HS.out.g1
     obtain ⟨d0, d1, d2, _, _, _⟩ := three_cells HS.out.g2
     by_cases hlt : i < a.vs.length
     ·have hlt2 : i < b.vs.length := by have := HL.out; omega
      have hlt' : (i : Int) < (a.vs.length : Int) := by omega
      have hlt2' : (i : Int) < (b.vs.length : Int) := by omega
      obtain rfl := hao (by intro e; rw [e] at hlt; simp at hlt)
      obtain rfl := hbo (by intro e; rw [e] at hlt2; simp at hlt2)
      obtain ⟨lv, cv, g1, g2, g3⟩ := HA.out.below HS.out.bl i hlt
      obtain ⟨lw, cw, k1, k2, k3⟩ := HB.out.below HS.out.bl i hlt2
      have hix := index_val b1 o1 a.vs.length cap i (i : Int) rfl hlt
      have hiy := index_val b2 o2 b.vs.length cap' i (i : Int) rfl hlt2
      have HSV : Hid (∀ W, S6s w a b (.slice (some ⟨b1, o1, none⟩) a.vs.length cap) (.slice (some ⟨b2, o2, none⟩) b.vs.length cap') b1 (o1 + i * 11) b2 (o2 + i * 11) a.vs[i] b.vs[i] lv cv lw cw W → Calls Tryz.prog 17 #[vx a.vs[i] lv cv, vx b.vs[i] lw cw] W fun e w' => e = .returned (.bool (smV a.vs[i] b.vs[i])) ∧ Below W.heap.size W w') := fun W k => rsamev_any a.vs[i] b.vs[i] _ _ (HW.out.1 _ (List.getElem_mem hlt)) (HW.out.2 _ (List.getElem_mem hlt2)) W k.2.2.2.2.1.at k.2.2.2.2.2.1.at
      have hS0 := s6s_of (⟨g1, g2, g3⟩ : KR b1 (o1 + i * 11) a.vs[i] lv cv wr) (⟨k1, k2, k3⟩ : KR b2 (o2 + i * 11) b.vs[i] lw cw wr) HS.out
      have hS := HR.out
      rw [smQ_drop a.vs b.vs i hlt hlt2] at hS
      have HS1 := hid_of hS
      clear g1 g2 g3 k1 k2 k3 hS HR HS
      generalize smV a.vs[i] b.vs[i] = q at *
      go_upto_region 6 with fail
      clear c0 c1 c2 d0 d1 d2
      go_cut [6] from 35 to 45 (fun x W => x = .bool q ∧ Hid (Sb w a b (.slice (some ⟨b1, o1, none⟩) a.vs.length cap) (.slice (some ⟨b2, o2, none⟩) b.vs.length cap') W))
      case first =>
       clear HS1
       as_aux_lemma =>
        go_region_held3 (fun W => S6s w a b (.slice (some ⟨b1, o1, none⟩) a.vs.length cap) (.slice (some ⟨b2, o2, none⟩) b.vs.length cap') b1 (o1 + i * 11) b2 (o2 + i * 11) a.vs[i] b.vs[i] lv cv lw cw W)
         (first | assumption | exact keep6s (by assumption) (by assumption) | exact keep6s (drew_bel _) hS0)
         (first
          | (go_at_call 17; with_reducible refine (HSV.out _ (by first | assumption | exact keep6s (by assumption) (by assumption) | exact keep6s (drew_bel _) hS0)).mono ?_; rintro e w3 ⟨rfl, hb3⟩))
        rename_i hS3
        go_wp2_with fail
        go_meet
        exact ⟨rfl, hS3.2.2.2.2.2.2⟩
      case rest =>
      obtain ⟨rfl, HSc⟩ := hcut
      clear hS0 HSV
      cases q
      ·rw [Bool.false_and] at HS1
       as_aux_lemma =>
        go_wp2_with fail
        go_ret
        exact ⟨retB HS1.out.symm, HSc.out.bl⟩
      ·rw [Bool.true_and] at HS1
       as_aux_lemma =>
        go_wp2_with fail
        exact ⟨⟨i + 1, by omega, by go_num, HS1, HSc⟩, by simp [intOf]; omega⟩
     ·have hlt' : ¬ (i : Int) < (a.vs.length : Int) := by omega
      have hS := HR.out
      rw [List.drop_eq_nil_of_le (by omega), List.drop_eq_nil_of_le (by have := HL.out; omega)] at hS
      have HS1 : Hid (R = true) := hS
      clear HR hS
      as_aux_lemma =>
       go_wp2_with fail
       go_ret
       exact ⟨retB HS1.out.symm, HS.out.bl⟩
   ·have hl1 : ((a.vs.length : Int) != (b.vs.length : Int)) = true := by rw [bne_iff_ne]; omega
    have hl2 : (a.vs.length != b.vs.length) = true := by rw [bne_iff_ne]; omega
    have HR0 : Hid (R = false) := by
     unfold Hid
     rw [HR.out]
     unfold smS
     rw [smQ_len hlen, Bool.and_false, Bool.and_false]
    clear HR hp hrr hlen
    as_aux_lemma =>
     go_wp2_with fail
     go_ret
     exact ⟨retB HR0.out.symm, HN.out.bl⟩
  ·have hr1 : ((a.r : Int) != (b.r : Int)) = true := by rw [bne_iff_ne]; omega
   have hr2 : (a.r != b.r) = true := by rw [bne_iff_ne]; omega
   have HR0 : Hid (R = false) := by
    unfold Hid
    rw [HR.out]
    unfold smS
    rw [decide_eq_false hrr, Bool.false_and, Bool.and_false]
   clear HR hp hrr
   as_aux_lemma =>
    go_wp2_with fail
    go_ret
    exact ⟨retB HR0.out.symm, HN.out.bl⟩
 ·have hp' : (a.p != b.p) = true := by simpa using hp
  have HR0 : Hid (R = false) := by
   unfold Hid
   rw [HR.out]
   unfold smS
   rw [decide_eq_false hp, Bool.false_and]
  clear HR hp
  as_aux_lemma =>
   go_wp2_with fail
   go_ret
   exact ⟨retB HR0.out.symm, HN.out.bl⟩
end Go.Proofs.YtlgfgeacphkhnaaGreatDoor
