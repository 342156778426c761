/- WHETHER SNAPSHOTS STAND IN ONE RING: those of one value of one family. Own work of the verifier. -/
import Derived.Test.YtgkdggcpplmnaaaGreatZBQ
import Derived.Test.YtgkdggcpplmnaaaGreatZBN
namespace Go.Proofs.YtgkdggcpplmnaaaGreat.Ri
open Go.RowKit Go.Shelf Me

attribute [local go_sem] Oper.semAt_some
/-- Of one value, of that family. -/
def Lk1 (p : Int) (x : Vl) (s : Sn) : Prop := ∃ y r, s = ⟨p, [y], r⟩ ∧ x.d.name = y.d.name ∧ x.d.kind = y.d.kind ∧ x.d.help = y.d.help
/-- What hasUnlike holds on to. -/
structure Hu (w : World) (p : Int) (us : Value) (r : Nat) (x : Vl) (mb C : Nat) (W : World) : Prop where
  g0 : W.heap[w.heap.size]? = some (.cells #[.int .i64 p, us, .int .u64 (r : Int)] 31 (0, 0))
  g1 : W.heap[w.heap.size + 1]? = some (.cells #[.bool false] 4 (0, 0))
  gm : W.heap[mb]? = some (.map (famE x) 1)
  gc : W.heap[C]? = some (.cells #[.map (some mb)] 69 (0, 0))
  bl : Below w.heap.size w W
theorem Hu.tn {w W W1 : World} {p : Int} {us : Value} {r mb C B : Nat} {x : Vl} (h : Hu w p us r x mb C W) (hb : Tn B W W1) (hB : w.heap.size ≤ B) (hm : mb < B) : Hu w p us r x mb C W1 :=
  ⟨hb.cells h.g0, hb.cells h.g1, hb.at_ h.gm hm, hb.cells h.gc, h.bl.trans ((hb.mono hB).below (by have := (Array.getElem?_eq_some_iff.1 h.g0).1; omega))⟩
theorem Hu.below {w W W1 : World} {p : Int} {us : Value} {r mb C : Nat} {x : Vl} (h : Hu w p us r x mb C W) (hb : Below W.heap.size W W1) : Hu w p us r x mb C W1 := ⟨hkN h.g0 hb, hkN h.g1 hb, hkN h.gm hb, hkN h.gc hb, bt h.bl hb⟩
set_option maxRecDepth 100000 in
set_option maxHeartbeats 8000000 in
theorem unlike_one (B b n k : Nat) (T : List Int) (R : List Rs) (tv sv : Value) (p : Int) (x : Vl) (r : Nat) (v : Value) (w : World) (hg : Rg B b n T R k tv sv w) (hBw : B ≤ w.heap.size) (hF : ∀ q ∈ R, Lk1 p x q.1) (hv : SnAt w ⟨p, [x], r⟩ v) :
    Calls Tryz.prog 13 #[.pointer (some ⟨b, 0, none⟩), v] w fun e w' => e = .returned (.bool false) ∧ Below w.heap.size w w' := by
  obtain ⟨tg, tc, sg, sc, ta, sa, rfl, rfl, hRw⟩ := hg.rw
  obtain ⟨us, rfl, su⟩ := hv
  obtain ⟨ao, b1, o1, cap, rfl, hao, -, hr⟩ := sv_open su
  refine (callsIn_wide (n := 9)).1 ?_
  have HF : Hid (∀ W, Below w.heap.size w W → CallsIn Fence.wide 8 Tryz.prog 24 #[.agg #[.int .i64 p, .slice ao [x].length cap, .int .u64 (r : Int)]] W fun e w' => ∃ mb, e = .returned (.map (some mb)) ∧ W.heap.size ≤ mb ∧ w'.heap[mb]? = some (.map (famE x) 1) ∧ Below W.heap.size W w') := fun W hb => callsIn_wide.2 (families_one p r x _ W ⟨_, rfl, su.below hb⟩)
  have HA : Hid (∀ W, _) := all_in 8 b
  have n1 := new_1 w (.cells #[.int .i64 p, .slice ao [x].length cap, .int .u64 (r : Int)] 31)
  have n1' := hkN n1 (bel1 _ (.cells #[.bool false] 4))
  have n2 := new_1 (w.alloc (.cells #[.int .i64 p, .slice ao [x].length cap, .int .u64 (r : Int)] 31)) (.cells #[.bool false] 4)
  rw [show (w.alloc (.cells #[.int .i64 p, .slice ao [x].length cap, .int .u64 (r : Int)] 31)).heap.size = w.heap.size + 1 by simp] at n2
  have hb2 := bt (bel1 w (.cells #[.int .i64 p, .slice ao [x].length cap, .int .u64 (r : Int)] 31)) (bel1 _ (.cells #[.bool false] 4))
  have HN1 := hid_of n1'
  have HN2 := hid_of n2
  have HB2 := hid_of hb2
  obtain ⟨a0, a1, a2, -, -, -⟩ := three_cells n1'
  clear n1 n1' n2 hb2 hr su hao
  refine callsIn_of_wp_marks Tryz.func13 rfl trivial ?_ rfl
  simp only [Tryz.ntmps13, List.size_toArray, List.length_cons, List.length_nil, Nat.reduceAdd, Nat.reduceSub, Array.replicate_succ, Array.replicate_zero, List.push_toArray, List.append_toArray, List.nil_append, List.cons_append] at *
  gi_upto_region 2 with (refine ⟨trivial, ?_⟩; gi_at_call 24; refine (HF.out _ HB2.out).mono ?_; rintro e w3 ⟨mb, rfl, hmb, hm3, hb3⟩)
  have hmlt : mb < w3.heap.size := (Array.getElem?_eq_some_iff.1 hm3).1
  have hH : Hu w p (.slice ao 1 cap) r x mb w3.heap.size (w3.alloc (.cells #[.map (some mb)] 69)) := ⟨hkN (hkN HN1.out hb3) (bel1 _ _), hkN (hkN HN2.out hb3) (bel1 _ _), hkN hm3 (bel1 _ _), new_1 _ _, bt (bt HB2.out hb3) (bel1 _ _)⟩
  have hw3 : w.heap.size + 2 ≤ w3.heap.size := by have := hb3.size; simp at this; omega
  have hs4 : (w3.alloc (.cells #[.map (some mb)] 69)).heap.size = w3.heap.size + 1 := by simp
  generalize w3.alloc (.cells #[.map (some mb)] 69) = w4 at *
  clear HN1 HN2 HB2 HF a0 a1 a2 hb3 hm3
  gi_wp2_with (refine ⟨trivial, ?_⟩; gi_at_call 25; refine (HA.out _).mono ?_; rintro e w' ⟨rfl, rfl⟩)
  have hH5 := hH.below (bel1 w4 (.cells #[.pointer (some ⟨b, 0, none⟩)] 23))
  have n5 := new_1 w4 (.cells #[.pointer (some ⟨b, 0, none⟩)] 23)
  rw [hs4] at n5
  have hs5 : (w4.alloc (.cells #[.pointer (some ⟨b, 0, none⟩)] 23)).heap.size = w4.heap.size + 1 := by simp
  generalize w4.alloc (.cells #[.pointer (some ⟨b, 0, none⟩)] 23) = W0 at *
  have hws : w.heap.size ≤ w4.heap.size := hH.bl.size
  have HRg := hid_of hg
  refine wpIn_rangeFunc_seqX (gf := 38) (lb := #[.pointer (some ⟨w3.heap.size + 1, 0, none⟩)]) (n0 := w.heap.size) (B := w.heap.size) (N := R.length) (encs := encR T R k) rfl (enters_of Tryz.func38 (by kernel_rfl) rfl) (by omega)
    (all_seq (9 - 1) (w3.heap.size + 1) w.heap.size w.heap.size b k tg tc sg sc T R ta sa W0 (by simp [World.cell?, n5]) (by omega) (Nat.le_refl _) (fun W hb => hRw.below (hH5.bl.trans hb))) (fun _ => rfl)
    (fun j W => Hid (Hu w p (.slice ao 1 cap) r x mb w3.heap.size W)) (fun _ _ _ => False)
    (fun j A A' h hb => h.out.tn hb (by omega) (by omega)) (fun _ _ _ _ h _ => h) hH5 ?round ?done ?stop
  case round =>
    rintro l' j W1 hj hl1 hl2 -
    clear n5 hH hH5 HA
    unfold encR
    have hpl : plc k j R.length < R.length := Nat.mod_lt _ (by omega)
    have hmem : R.getD (plc k j R.length) dR ∈ R := by
      simp only [List.getD, List.getElem?_eq_getElem hpl, Option.getD_some]
      exact List.getElem_mem hpl
    obtain ⟨y, ry, hy, e1, e2, e3⟩ := hF _ hmem
    have hat := (HRg.out.el _ hmem).at_ hBw
    generalize R.getD (plc k j R.length) dR = q at *
    generalize T.getD (plc k j R.length) 0 = tm at *
    obtain ⟨qs, qv⟩ := q
    dsimp only at hy
    subst hy
    obtain ⟨qu, hqq, sq⟩ := hat
    have hqe : qv = qu := by simpa [sx] using hqq
    subst hqe
    have sq' : SV w qv [y] := sq
    clear sq
    obtain ⟨qo, b2, o2, cp2, rfl, hqo, -, hrow⟩ := sv_open sq'
    obtain rfl := hqo (by simp)
    have HRow := hid_of hrow
    have hix := index_val b2 o2 1 cp2 0 0 rfl (by omega)
    rw [Nat.zero_mul, Nat.add_zero] at hix
    clear sq' hrow hqq hqo hmem
    gi_wp2
    refine ⟨(Below.refl _ _).alloc (Nat.le_refl _) _, ?_⟩
    rintro W2 HI hs2 hot
    have hnb := (hot W1.heap.size (by omega)).trans (World.alloc_heap_new W1 _)
    obtain ⟨v0, v1, v2, -, -, -⟩ := three_cells hnb
    have HS2 : Hid (W1.heap.size < W2.heap.size) := (Array.getElem?_eq_some_iff.1 hnb).1
    obtain ⟨a0, a1, a2, -, -, -⟩ := three_cells HI.out.g0
    obtain ⟨c0, -⟩ := box1 HI.out.gc
    obtain ⟨lv, cv, k1, k2, k3⟩ := HRow.out.below HI.out.bl 0 (by simp)
    obtain ⟨la, lc, rfl⟩ := k2.form
    obtain ⟨ca, cc, rfl⟩ := k3.form
    simp only [List.getElem_cons_zero, Nat.zero_mul, Nat.add_zero] at k1
    obtain ⟨r0, r1, r2, r3, r4, r5, r6, r7, r8, r9, r10⟩ := k1.cC
    have sF := store_f
    clear hot hs2 k2 k3 hnb HRow
    gi_upto_region 7 with fail
    refine wpIn_loop_rounds 2 (show Code.wpIn _ _ Tryz.prog _ _ _ _ from ?_)
    gi_upto_region 9 with fail
    have hH3 := HI.out.below (bel1 W2 (.cells (vc y (.slice la y.d.labels.length lc) (.slice ca y.cs.length cc)) 45))
    have hn3 := new_1 W2 (.cells (vc y (.slice la y.d.labels.length lc) (.slice ca y.cs.length cc)) 45)
    have hb3 := bel1 W2 (.cells (vc y (.slice la y.d.labels.length lc) (.slice ca y.cs.length cc)) 45)
    obtain ⟨W3, hw3⟩ : ∃ W3, W2.alloc (.cells (vc y (.slice la y.d.labels.length lc) (.slice ca y.cs.length cc)) 45) = W3 := ⟨_, rfl⟩
    rw [hw3] at hH3 hn3 hb3
    simp only [vc] at hw3
    rw [hw3]
    clear hw3 r0 r1 r2 r3 r4 r5 r6 r7 r8 r9 r10 v0 v1 v2 a0 a1 a2 c0 hix k1
    have HN3 := hid_of hn3
    obtain ⟨y0, y1, y2, y3, y4, y5, y6, y7, y8, y9, y10⟩ := eleven_cells (hid_of hn3)
    obtain ⟨c0, -⟩ := box1 hH3.gc
    have hlk := look_fam hH3.gm e1
    gi_upto_region 10 with fail
    have hH4 := hH3.below (bel1 W3 (.cells #[.int .i64 y.d.kind, .string ⟨y.d.help.toArray⟩] 75))
    have hn4 := new_1 W3 (.cells #[.int .i64 y.d.kind, .string ⟨y.d.help.toArray⟩] 75)
    have hb4 := bt hb3 (bel1 W3 (.cells #[.int .i64 y.d.kind, .string ⟨y.d.help.toArray⟩] 75))
    have hm4 := hkN hn3 (bel1 W3 (.cells #[.int .i64 y.d.kind, .string ⟨y.d.help.toArray⟩] 75))
    generalize W3.alloc (.cells #[.int .i64 y.d.kind, .string ⟨y.d.help.toArray⟩] 75) = W4 at *
    clear y0 y1 y2 y3 y4 y5 y6 y7 y8 y9 y10 c0 hlk hn3 HN3 hH3 hb3
    have hmo : Tryz.prog.follows .mixedOrders = true := by kernel_rfl
    have HB5 := hid_of (bt hb4 (drew_bel1 W4))
    have HH5 := hid_of (hH4.below (drew_bel1 W4))
    obtain ⟨y0, y1, y2, y3, y4, y5, y6, y7, y8, y9, y10⟩ := eleven_cells (W := W4.drew) (hid_of (hkN hm4 (drew_bel1 W4)))
    have t0 : W4.drew.cell? ⟨W3.heap.size, 0, none⟩ = some (.int .i64 y.d.kind) := by simp [World.cell?, hkN hn4 (drew_bel1 W4)]
    have t1 : W4.drew.cell? ⟨W3.heap.size, 1, none⟩ = some (.string ⟨y.d.help.toArray⟩) := by simp [World.cell?, hkN hn4 (drew_bel1 W4)]
    have HFm : Hid (∀ W, CallsIn (Fence.wide.inRound l') 6 Tryz.prog 26 #[.agg #[.int .i64 y.d.kind, .string ⟨y.d.name.toArray⟩, .string ⟨y.d.help.toArray⟩, .slice la y.d.labels.length lc]] W fun e w' => e = .returned (famV y) ∧ Below W.heap.size W w') := fun W => CallsIn.inRound l' (callsIn_wide.2 (fam_any y _ ⟨_, _, _, rfl⟩ W))
    clear hn4 hm4 hH4 hb4 sF
    gi_region_with_o (refine ⟨trivial, ?_⟩; gi_at_call 26; refine (HFm.out _).mono ?_; rintro e w6 ⟨rfl, hb6⟩; have HB6 := hid_of (bt HB5.out hb6); have HH6 := hid_of (HH5.out.below hb6); have t0' := cellB hb6 t0; have t1' := cellB hb6 t1)
    all_goals
      have hsame : (ByteArray.mk y.d.help.toArray == ByteArray.mk y.d.help.toArray) = true := ba_self _
      gi_wp2
      refine (show Code.wpIn _ _ Tryz.prog _ _ _ _ from ?_)
      gi_wp2
      exact ⟨Mid.of_below HB6.out, HH6⟩
  case done =>
    rintro D W hD HI hK
    obtain ⟨s1, s2⟩ := box1 HI.out.g1
    have hK2 : (W.setCell ⟨w.heap.size + 1, 0, none⟩ (.bool false)).heap[D]? = _ := (heap_other _ _ _ _ (by show D ≠ w.heap.size + 1; omega)).trans hK
    have g1 : (W.setCell ⟨w.heap.size + 1, 0, none⟩ (.bool false)).heap[w.heap.size + 1]? = some (.cells #[.bool false] 4 (0, 0)) := by
      rw [heap_setCell_same _ _ 0 _ _ _ HI.out.g1]
      rfl
    have hbl : Below w.heap.size w (W.setCell ⟨w.heap.size + 1, 0, none⟩ (.bool false)) := Below.setCell (p := ⟨w.heap.size + 1, 0, none⟩) HI.out.bl (by show w.heap.size ≤ w.heap.size + 1; omega) _
    have htn := Tn.putD (B := w.heap.size) hK2 (by omega) (.deferred none)
    have HG := hid_of (htn.cells g1)
    have HBl := hid_of (hbl.trans (htn.below hbl.size))
    clear g1 hbl htn
    gi_wp2
    generalize W.setCell ⟨w.heap.size + 1, 0, none⟩ (.bool false) = W2 at *
    refine ⟨by simp, .inl ⟨_, _, rfl, run_takeDeferred hK2, ?_⟩⟩
    generalize W2.putObj D (.deferred none) = W' at *
    clear s1 s2
    obtain ⟨s1, -⟩ := box1 HG.out
    exact ⟨.bool false, by simp [results, Tryz.results13, go_sem, s1], rfl, HBl.out⟩
  case stop =>
    rintro D c i W _ _ h _
    exact h.elim
end Go.Proofs.YtgkdggcpplmnaaaGreat.Ri
