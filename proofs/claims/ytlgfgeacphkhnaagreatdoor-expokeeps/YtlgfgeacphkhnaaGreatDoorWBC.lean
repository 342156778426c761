/- WHAT A VALUE HOLDS, the document's: zero, product, between. Own work of the verifier. -/
import Derived.Test.YtlgfgeacphkhnaaGreatDoorWBA
import Derived.Deep.RegionHeld3
import Derived.Test.YtlgfgeacphkhnaaGreatDoorWBB
namespace Go.Proofs.YtlgfgeacphkhnaaGreatDoor
open Go.RowKit Me

set_option maxRecDepth 100000 in
set_option maxHeartbeats 400000 in
theorem rzero_any (x : Nat) (_hx : x < 18446744073709551616) (w : World) :
  Calls Tryz.prog 40 #[.float .f64 x] w fun e w' => e = .returned (.bool (decide (x = 0))) ∧ w' = w := by
 have h2 : ((x : Int) == 0) = decide (x = 0) := by
  by_cases e : x = 0
  ·rw [decide_eq_true e, e]; rfl
  ·rw [decide_eq_false e, beq_eq_false_iff_ne]; omega
 generalize decide (x = 0) = q at *
 go_enter Tryz.func40, Tryz.ntmps40
 go_wp2_with (first | simp only [Re.mf64bits] | fail)
 go_ret
 exact ⟨rfl, rfl⟩
set_option maxHeartbeats 1000000 in
theorem rprod_any (x y : Nat) (hx : x < 9223372036854775808) (hy : y < 18446744073709551616) (w : World) :
  Calls Tryz.prog 70 #[.int .u64 (x : Int), .int .u64 (y : Int)] w fun e w' => e = .returned (.agg #[.int .i64 (hiOf ((x * y : Nat) : Int)), .int .u64 (loOf ((x * y : Nat) : Int))]) ∧ Below w.heap.size w w' := by
 have H1 : Hid (∀ W, Calls Tryz.prog 99 #[.int .u64 (x : Int), .int .u64 (y : Int)] W fun e w' => e = .returned (.tuple #[.int .u64 (hiOf ((x * y : Nat) : Int)), .int .u64 (loOf ((x * y : Nat) : Int))]) ∧ w' = W) := fun W => by
  have := refmul_any (x : Int) (y : Int) (by omega) (by omega) (by omega) (by omega) W
  rw [← Int.natCast_mul] at this
  exact this
 have hp := prod_lt hx hy
 have hw := hi_small (z := ((x * y : Nat) : Int)) (by omega) (by omega)
 generalize hiOf ((x * y : Nat) : Int) = a at *
 generalize loOf ((x * y : Nat) : Int) = b at *
 clear hp
 go_enter Tryz.func70, Tryz.ntmps70
 go_wp2_with (go_at_call 99; with_reducible refine (H1.out _).mono ?_; rintro e w1 ⟨rfl, rfl⟩)
 simp [bodyPost, results, Tryz.results70, go_sem]
 exact bel1 w _
theorem raddN_any {s y : Nat} (hs : s + y < 170141183460469231731687303715884105728) (W : World) :
  Calls Tryz.prog 69 #[.agg #[.int .i64 (hiOf (s : Int)), .int .u64 (loOf (s : Int))], .agg #[.int .i64 (hiOf (y : Int)), .int .u64 (loOf (y : Int))]] W fun e w' => e = .returned (.agg #[.int .i64 (hiOf ((s + y : Nat) : Int)), .int .u64 (loOf ((s + y : Nat) : Int))]) ∧ Below W.heap.size W w' := by
 have := refadd_any _ _ _ _ (wf_of (n := (s : Int)) ⟨by omega, by omega⟩) (wf_of (n := (y : Int)) ⟨by omega, by omega⟩) W
 rw [val_hl, val_hl, rnd_of ⟨by omega, by omega⟩, ← Int.natCast_add] at this
 exact this
theorem rcmp_le_any (s t : Int) (hs : InR s) (ht : InR t) (W : World) :
  Calls Tryz.prog 71 #[.agg #[.int .i64 (hiOf s), .int .u64 (loOf s)], .agg #[.int .i64 (hiOf t), .int .u64 (loOf t)]] W fun e w' => e = .returned (.int .i64 (cmp s t)) ∧ Below W.heap.size W w' := by
 have := refcmp_any _ _ _ _ (wf_of hs) (wf_of ht) W
 rw [val_hl, val_hl] at this
 exact this
theorem sizeC (W : World) : (sizeOf 67).run Tryz.prog W = .ok 2 W := by simp [sizeOf]; rfl
theorem index_cnt (b o len cap j : Nat) (z : Int) (hz : z = (j : Int)) (hj : j < len) (W : World) :
  (Instr.indexAt 33 (.slice (some ⟨b, o, none⟩) len cap) (.int .i64 z)).run Tryz.prog W = .ok (.pointer (some ⟨b, o + j * 2, none⟩)) W := by
 subst hz
 have he : Tryz.prog.elem 33 = 67 := by simp [Program.elem, Tryz.underlying33]
 rw [run_indexAt_slice W 33 ⟨b, o, none⟩ len cap .i64 (j : Int) (by rw [he]; exact Tryz.underlying33), if_pos (by omega), he, sizeC]
 simp [Addr.add]
abbrev S9e (w2 : World) (a b k c : Nat) (x y z u : Value) (s1 s2 : Nat) (W : World) : Prop := W.cell? ⟨a, 0, none⟩ = some x ∧ W.cell? ⟨a, 1, none⟩ = some y ∧ W.cell? ⟨b, k, none⟩ = some z ∧ W.cell? ⟨c, 6, none⟩ = some u ∧ W.frozen? ⟨a, 0, none⟩ = false ∧ W.frozen? ⟨a, 1, none⟩ = false ∧ KL w2 s1 s2 W
theorem keepE {w2 W W1 : World} {a b k c : Nat} {x y z u : Value} {s1 s2 : Nat} (hb : Below W.heap.size W W1) (h : S9e w2 a b k c x y z u s1 s2 W) : S9e w2 a b k c x y z u s1 s2 W1 :=
 ⟨cellB hb h.1, cellB hb h.2.1, cellB hb h.2.2.1, cellB hb h.2.2.2.1, frozB hb (lt_of_cell h.1) h.2.2.2.2.1, frozB hb (lt_of_cell h.2.1) h.2.2.2.2.2.1, h.2.2.2.2.2.2.below hb⟩
set_option maxRecDepth 100000 in
set_option maxHeartbeats 4000000 in
theorem btw_any (P : Nat) (x : Vl) (la ca : Option Addr) (lc cc : Nat) (h : VW x) (w : World) (hc : SN w (.slice ca x.cs.length cc) x.cs) (hM : MayIs (P : Int) x.cs 0) :
    Calls Tryz.prog 43 #[.int .i64 (P : Int), vx x (.slice la x.d.labels.length lc) (.slice ca x.cs.length cc)] w fun e w' => e = .returned (.bool (btw (P : Int) x)) ∧ Below w.heap.size w w' := by
  obtain ⟨hp, hs2, h3⟩ := may_ok hM
  have HB0 : Hid (∀ T, B11 (w.alloc (.cells (vc x (.slice la x.d.labels.length lc) (.slice ca x.cs.length cc)) T)) w.heap.size x (.slice la x.d.labels.length lc) (.slice ca x.cs.length cc) ∧ Below w.heap.size w (w.alloc (.cells (vc x (.slice la x.d.labels.length lc) (.slice ca x.cs.length cc)) T))) := fun T => ⟨newB11 w x _ _ T, bel1 _ _⟩
  have HSN := hid_of hc
  have HM := hid_of hM
  have H3 := hid_of h3
  have HT := hid_of h.t
  have HCl := hid_of h.cl
  have HW := hid_of h.cs
  clear hc hM h3 h hs2
  go_enter Tryz.func43, Tryz.ntmps43
  go_upto_region 1 with fail
  obtain ⟨hbx, hbl⟩ := HB0.out 36
  obtain ⟨w0, hw0⟩ : ∃ w0, w.alloc (.cells (vc x (.slice la x.d.labels.length lc) (.slice ca x.cs.length cc)) 36) = w0 := ⟨_, rfl⟩
  have hw0' := hw0
  simp only [vc] at hw0'
  rw [hw0] at hbx hbl
  rw [hw0']
  have HBx := hid_of hbx
  have HBl := hid_of hbl
  have HSz : Hid (w.heap.size < w0.heap.size) := lt_of_cell hbx.c0
  clear hw0 hw0' HB0 hbx hbl
  have HKL := hid_of (KL.new w0)
  go_upto_region 4 with fail
  generalize (w0.alloc (.cells #[.int .i64 0, .int .u64 0] 32)).alloc (.cells #[.int .i64 0, .int .u64 0] 32) = w3 at HKL ⊢
  have HS0 : Hid (lowN P (x.cs.take 0) = 0 ∧ highN P (x.cs.take 0) = 0) := ⟨rfl, rfl⟩
  go_loopw [7] (fun v W => ∃ i : Nat, i ≤ x.cs.length ∧ v = .int .i64 (i : Int) ∧ Hid (KL w0 (lowN P (x.cs.take i)) (highN P (x.cs.take i)) W)) (fun v _ => x.cs.length - (intOf v).toNat)
  case atStart => exact ⟨0, by omega, rfl, by rw [HS0.out.1, HS0.out.2]; exact HKL⟩
  case round =>
    clear HKL HS0
    obtain ⟨i, hi, rfl, HL⟩ := hrel
    have hcl := HCl.out
    have c6 := cellB HL.out.bl HBx.out.c6
    by_cases hlt : i < x.cs.length
    · have hlt' : (i : Int) < (x.cs.length : Int) := by omega
      obtain ⟨ao, b, o, cap, hv, hao, hrow⟩ := ((HSN.out.below HBl.out).below HL.out.bl).sc
      have hrw := (HSN.out).sc
      obtain rfl := hao (by intro e; rw [e] at hlt; simp at hlt)
      cases hv
      obtain ⟨q0, q1⟩ := hrow i hlt
      obtain ⟨g1, g2, _⟩ := H3.out i hlt
      obtain ⟨k1, k2, k3⟩ := in_may HM.out (List.getElem_mem hlt)
      have hN : x.cs[i].2 < 18446744073709551616 := (HW.out _ (List.getElem_mem hlt)).2.2
      have e1 := lowN_take P x.cs i hlt
      have e2 := highN_take P x.cs i hlt
      have bb := low_bound HM.out (i + 1)
      obtain ⟨I, hI⟩ := Int.eq_ofNat_of_zero_le g1
      rw [hI] at k1 k2 k3 q0 e1 e2
      simp only [Int.toNat_natCast] at k1 k2 k3 e1 e2
      rw [e1, e2] at bb
      have HE : Hid (lowN P (x.cs.take (i + 1)) = _ ∧ highN P (x.cs.take (i + 1)) = _) := ⟨e1, e2⟩
      have hp1 : 1 ≤ P := by omega
      have hp2 : P ≤ 14 := by omega
      have HLow : Hid (∀ W, Calls Tryz.prog 52 #[.int .i64 (P : Int), .int .i64 (I : Int)] W fun e w' => (∃ n, w' = W.drewN n) ∧ e = two (lo (2 ^ P) I : Nat) 0) := fun W => rlow_yes P I hp1 hp2 k1 W
      have HHigh : Hid (∀ W, Calls Tryz.prog 26 #[.int .i64 (P : Int), .int .i64 (I : Int)] W fun e w' => (∃ n, w' = W.drewN n) ∧ e = two (hiV P I : Nat) 0) := fun W => rhigh_yes P I hp1 hp2 k1 W
      have HT1 : Hid (∀ W, _) := rprod_any (lo (2 ^ P) I) x.cs[i].2 (by omega) hN
      have HT2 : Hid (∀ W, _) := rprod_any (hiV P I) x.cs[i].2 (by omega) hN
      have HA1 : Hid (∀ W, _) := fun W => raddN_any (s := lowN P (x.cs.take i)) (y := lo (2 ^ P) I * x.cs[i].2) (by omega) W
      have HA2 : Hid (∀ W, _) := fun W => raddN_any (s := highN P (x.cs.take i)) (y := hiV P I * x.cs[i].2) (by omega) W
      have wl : IntKind.u64.wrap ((lo (2 ^ P) I : Nat) : Int) = ((lo (2 ^ P) I : Nat) : Int) := by rw [IntKind.wrap_u64]; omega
      have wh : IntKind.u64.wrap ((hiV P I : Nat) : Int) = ((hiV P I : Nat) : Int) := by rw [IntKind.wrap_u64]; omega
      have hix := index_cnt b o x.cs.length cc i (i : Int) rfl hlt
      have hbw : b < w0.heap.size := by
        obtain ⟨ao', b', o', cap', hv', hao', hr'⟩ := (HSN.out.below HBl.out).sc
        have := hao' (by intro e; rw [e] at hlt; simp at hlt)
        subst this
        cases hv'
        exact lt_of_cell (hr' i hlt).1
      clear e1 e2 bb k1 k2 k3 g1 g2 hI hrow hao hp1 hp2 hrw
      generalize lo (2 ^ P) I = lw at *
      generalize hiV P I = hw at *
      generalize x.cs[i].2 = N at *
      generalize lw * N = z1 at *
      generalize hw * N = z2 at *
      generalize lowN P (x.cs.take i) = s1 at *
      generalize highN P (x.cs.take i) = s2 at *
      go_upto_region 8 with (first
        | (go_at_call 52; with_reducible refine (HLow.out _).mono ?_; rintro e w4 ⟨⟨n4, rfl⟩, rfl⟩)
        | (go_at_call 26; with_reducible refine (HHigh.out _).mono ?_; rintro e w5 ⟨⟨n5, rfl⟩, rfl⟩))
      have hbw6 : Below wr.heap.size wr (wr.drewN (n4 + n5)) := bel_drewNB (Below.refl _ _) _
      have hL6 := HL.out.below hbw6
      have q1' := cellB hbw6 q1
      have c6' := cellB hbw6 c6
      generalize wr.drewN (n4 + n5) = w6 at *
      clear HL hbw6 q0 q1 c6 HLow HHigh
      have hT6 := two_at hL6.g1
      have hS6 := (⟨hT6.1, hT6.2.1, q1', c6', hT6.2.2.1, hT6.2.2.2, hL6⟩ : S9e w0 w0.heap.size b (o + i * 2 + 1) w.heap.size _ _ _ _ s1 s2 w6)
      clear hT6 hL6 q1' c6'
      go_cut [] from 43 to 53 (fun W => Hid (KL w0 (s1 + z1) s2 W) ∧ W.cell? ⟨b, o + i * 2 + 1, none⟩ = some (.int .u64 (N : Int)) ∧ W.cell? ⟨w.heap.size, 6, none⟩ = some (.slice (some ⟨b, o, none⟩) x.cs.length cc))
      case first =>
        clear HE HT2 HA2 HM H3 HT HCl HW wh HSN HBx HBl
        have hS6d := keepE (drew_bel _) hS6
        obtain ⟨p0, p1, p2, p3, p4, p5, p6⟩ := hS6d
        have HS6 : Hid (S9e w0 w0.heap.size b (o + i * 2 + 1) w.heap.size _ _ _ _ s1 s2 w6.drew) := ⟨p0, p1, p2, p3, p4, p5, p6⟩
        clear hS6 p6
        go_region_with (first
            | (go_at_call 70; with_reducible refine (HT1.out _).mono ?_; rintro e w7 ⟨rfl, hb7⟩; have HS7 := hid_of (keepE hb7 HS6.out); obtain ⟨r0, r1, r2, r3, r4, r5, r6⟩ := HS7.out; clear r6)
            | (go_at_call 69; with_reducible refine (HA1.out _).mono ?_; rintro e w8 ⟨rfl, hb8⟩; have HS8 := hid_of (keepE hb8 HS7.out); obtain ⟨t0, t1, t2, t3, t4, t5, t6⟩ := HS8.out; clear t6))
        all_goals
          go_wp2_with fail
          go_meet
          have hsz := HSz.out
          exact ⟨by have := KL.set1 (t := s1 + z1) HS8.out.2.2.2.2.2.2; unfold Hid; simpa using this, cell_set2 t2 (by omega), cell_set2 t3 (by omega)⟩
      case rest =>
      rename_i wc
      obtain ⟨HLc, hcN, hc6⟩ := hcut
      clear hS6 HT1 HA1
      have hT6 := two_at HLc.out.g2
      have hS6 := (⟨hT6.1, hT6.2.1, hcN, hc6, hT6.2.2.1, hT6.2.2.2, HLc.out⟩ : S9e w0 (w0.heap.size + 1) b (o + i * 2 + 1) w.heap.size _ _ _ _ (s1 + z1) s2 wc)
      clear hT6 HLc hcN hc6
      go_upto_region 9 with fail
      clear HM H3 HT HCl HW HSN HBx HBl
      have hS6d := keepE (drew_bel _) hS6
      obtain ⟨p0, p1, p2, p3, p4, p5, p6⟩ := hS6d
      have HS6 : Hid (S9e w0 (w0.heap.size + 1) b (o + i * 2 + 1) w.heap.size _ _ _ _ (s1 + z1) s2 wc.drew) := ⟨p0, p1, p2, p3, p4, p5, p6⟩
      clear hS6 p6
      go_region_with (first
            | (go_at_call 70; with_reducible refine (HT2.out _).mono ?_; rintro e w7 ⟨rfl, hb7⟩; have HS7 := hid_of (keepE hb7 HS6.out); obtain ⟨r0, r1, r2, r3, r4, r5, r6⟩ := HS7.out; clear r6)
            | (go_at_call 69; with_reducible refine (HA2.out _).mono ?_; rintro e w8 ⟨rfl, hb8⟩; have HS8 := hid_of (keepE hb8 HS7.out); obtain ⟨t0, t1, t2, t3, t4, t5, t6⟩ := HS8.out; clear t6))
      all_goals
        go_wp2_with fail
        refine ⟨⟨i + 1, by omega, by go_num, ?_⟩, by simp [intOf]; omega⟩
        rw [HE.out.1, HE.out.2]
        have := KL.set2 (t := s2 + z2) HS8.out.2.2.2.2.2.2
        unfold Hid
        simpa using this
    · have hlt' : ¬ (i : Int) < (x.cs.length : Int) := by omega
      obtain rfl : i = x.cs.length := by omega
      rw [List.take_length] at HL
      have bb := low_bound HM.out x.cs.length
      rw [List.take_length] at bb
      have HC1 : Hid (∀ W, _) := rcmp_le_any (lowN P x.cs : Int) x.t ⟨by omega, by omega⟩ HT.out
      have HC2 : Hid (∀ W, _) := rcmp_le_any x.t (highN P x.cs : Int) HT.out ⟨by omega, by omega⟩
      have hK2 := HBx.out.below HL.out.bl
      have eB : btw (P : Int) x = (decide (cmp (lowN P x.cs : Int) x.t ≤ 0) && decide (cmp x.t (highN P x.cs : Int) ≤ 0)) := by
        rw [cmp_le, cmp_le]; rfl
      have HEB := hid_of eB
      have HBw := hid_of (bt HBl.out HL.out.bl)
      clear bb eB HM H3 HT HCl HW HBx HSN HBl
      have d4 := hK2.c4
      have d5 := hK2.c5
      obtain ⟨l0, l1, _, _⟩ := two_at HL.out.g1
      obtain ⟨m0, m1, _, _⟩ := two_at HL.out.g2
      clear hK2 HL
      generalize (lowN P x.cs : Int) = A at *
      generalize (highN P x.cs : Int) = B at *
      generalize cmp A x.t = c1 at *
      generalize cmp x.t B = c2 at *
      by_cases hc1 : c1 ≤ 0
      · rw [decide_eq_true hc1, Bool.true_and] at HEB
        by_cases hc2 : c2 ≤ 0
        · rw [decide_eq_true hc2] at HEB
          as_aux_lemma =>
            go_wp2_with (go_at_call 71; (first | (with_reducible refine (HC1.out _).mono ?_) | (with_reducible refine (HC2.out _).mono ?_)); rintro e w7 ⟨rfl, hb7⟩; have d4 := cellB hb7 d4; have d5 := cellB hb7 d5; have m0 := cellB hb7 m0; have m1 := cellB hb7 m1; have HBw := hid_of (bt HBw.out hb7))
            go_ret
            exact ⟨retB HEB.out.symm, HBw.out⟩
        · rw [decide_eq_false hc2] at HEB
          as_aux_lemma =>
            go_wp2_with (go_at_call 71; (first | (with_reducible refine (HC1.out _).mono ?_) | (with_reducible refine (HC2.out _).mono ?_)); rintro e w7 ⟨rfl, hb7⟩; have d4 := cellB hb7 d4; have d5 := cellB hb7 d5; have m0 := cellB hb7 m0; have m1 := cellB hb7 m1; have HBw := hid_of (bt HBw.out hb7))
            go_ret
            exact ⟨retB (by rw [decide_eq_false (by omega)]; exact HEB.out.symm), HBw.out⟩
      · rw [decide_eq_false hc1, Bool.false_and] at HEB
        as_aux_lemma =>
          go_wp2_with (go_at_call 71; with_reducible refine (HC1.out _).mono ?_; rintro e w7 ⟨rfl, hb7⟩; have HBw := hid_of (bt HBw.out hb7))
          go_ret
          exact ⟨retB HEB.out.symm, HBw.out⟩
end Go.Proofs.YtlgfgeacphkhnaaGreatDoor
/- WHAT A VALUE HOLDS, the document's: holds. Own work of the verifier. -/
namespace Go.Proofs.YtlgfgeacphkhnaaGreatDoor
open Go.RowKit Me

theorem hi_ge {t : Int} : decide (0 ≤ hiOf t) = decide (0 ≤ t) := decide_eq_decide.2 (by unfold hiOf; omega)
theorem holdB_c {p : Int} {x : Vl} (k : x.d.kind = 1) : holdB p x = (decide (0 ≤ hiOf x.t) && decide (x.cs.length = 0) && decide (x.n = 0) && fz x) := by
 unfold holdB
 rw [if_pos k, hi_ge]
theorem holdB_h {p : Int} {x : Vl} (k1 : ¬ x.d.kind = 1) (k2 : x.d.kind = 2) : holdB p x = (decide (mayE p x.cs = 0) && decide (x.n = tot x.cs) && btw p x && fz x) := by
 unfold holdB
 rw [if_neg k1, if_pos k2]
 rfl
theorem holdB_s {p : Int} {x : Vl} (k1 : ¬ x.d.kind = 1) (k2 : ¬ x.d.kind = 2) : holdB p x = (decide (x.t = 0) && decide (x.cs.length = 0) && flB x) := by
 unfold holdB
 rw [if_neg k1, if_neg k2]
set_option maxRecDepth 100000 in
set_option maxHeartbeats 8000000 in
theorem rholds_any (p : Int) (x : Vl) (v : Value) (h : VW x) (w : World) (hv : VAt w x v) :
  Calls Tryz.prog 19 #[.int .i64 p, v] w fun e w' => e = .returned (.bool (holdB p x)) ∧ Below w.heap.size w w' := by
 obtain ⟨lv, cv, rfl, hl, hc⟩ := hv
 obtain ⟨la, lc, rfl⟩ := hl.form
 obtain ⟨ca, cc, rfl⟩ := hc.form
 have HZ : ∀ y : Nat, y < 18446744073709551616 → Hid (∀ W, Calls Tryz.prog 40 #[.float .f64 y] W fun e w' => e = .returned (.bool (decide (y = 0))) ∧ w' = W) := fun y hy W => rzero_any y hy W
 have HZ1 := HZ x.sum h.sum
 have HZ2 := HZ x.mn h.mn
 have HZ3 := HZ x.mx h.mx
 have hbx := newB11 w x (.slice la x.d.labels.length lc) (.slice ca x.cs.length cc) 36
 have hbl := bel1 w (.cells (vc x (.slice la x.d.labels.length lc) (.slice ca x.cs.length cc)) 36)
 obtain ⟨w0, hw0⟩ : ∃ w0, w.alloc (.cells (vc x (.slice la x.d.labels.length lc) (.slice ca x.cs.length cc)) 36) = w0 := ⟨_, rfl⟩
 have hw0' := hw0
 simp only [vc] at hw0'
 rw [hw0] at hbx hbl
 have hc0 := hc.below hbl
 have HMay : Hid (∀ _ : Unit, Calls Tryz.prog 41 #[.int .i64 p, .slice ca x.cs.length cc] w0 fun e w' => e = .returned (.int .i64 (mayE p x.cs)) ∧ ∃ n, w' = w0.drewN n) := fun _ => by
  obtain ⟨ao, b, o, cap, hv, hao, hr⟩ := hc0.sc
  cases hv
  exact rmay_is _ b o _ p x.cs hao h.cs (by have := h.cl; omega) (mayE_is p x.cs) w0 hr
 have HTot : Hid (∀ W, S1h w x (.slice la x.d.labels.length lc) (.slice ca x.cs.length cc) W → Calls Tryz.prog 42 #[.slice ca x.cs.length cc] W fun e w' => e = .returned (.int .u64 (tot x.cs : Nat)) ∧ w' = W) := fun W k => by
  obtain ⟨ao, b, o, cap, hv, hao, hr⟩ := k.2.2.c.sc
  cases hv
  exact rtotal_any _ b o _ x.cs hao h.cs (by have := h.cl; omega) W hr
 have HBt : Hid (mayE p x.cs = 0 → ∀ W, SN W (.slice ca x.cs.length cc) x.cs → Calls Tryz.prog 43 #[.int .i64 p, vx x (.slice la x.d.labels.length lc) (.slice ca x.cs.length cc)] W fun e w' => e = .returned (.bool (btw p x)) ∧ Below W.heap.size W w') := fun hm W hS => by
  have hM := mayE_is p x.cs
  rw [hm] at hM
  obtain ⟨P, rfl⟩ := Int.eq_ofNat_of_zero_le (by have := (may_ok hM).1; omega : 0 ≤ p)
  exact btw_any P x la ca lc cc h W hS hM
 have H1 : Hid (∀ W, _) := Re.dfin_any x.sum h.sum
 have H2 : Hid (∀ W, _) := Re.dfin_any x.mn h.mn
 have H3 : Hid (∀ W, _) := Re.dfin_any x.mx h.mx
 have H4 : Hid (∀ W, _) := Re.refcmp_any x.mn x.mx h.mn h.mx
 have HWZ := hid_of (words_zero h.t)
 have HKV := hid_of (⟨hbx, hl.below hbl, hc0, hbl⟩ : KV w w.heap.size x (.slice la x.d.labels.length lc) (.slice ca x.cs.length cc) w0)
 have HBl := hid_of hbl
 have HBx := hid_of hbx
 obtain ⟨c0, c1, c2, c3, c4, c5, c6, c7, c8, c9, c10⟩ := hbx
 obtain ⟨R, hR⟩ : ∃ R, R = holdB p x := ⟨_, rfl⟩
 rw [← hR]
 have HR := hid_of hR
 clear hl hc h HZ hw0 hbl hc0 hR
 go_enter Tryz.func19, Tryz.ntmps19
 go_upto_region 1 with fail
 clear hw0'
 go_cut [5] from 9 to 21 (fun y W => y = .bool (fz x) ∧ W = w0)
 case first =>
  clear HMay HTot HBt H1 H2 H3 H4 HWZ HR
  obtain ⟨a, ha⟩ : ∃ a, decide (x.sum = 0) = a := ⟨_, rfl⟩
  obtain ⟨b, hb⟩ : ∃ b, decide (x.mn = 0) = b := ⟨_, rfl⟩
  obtain ⟨c, hc⟩ : ∃ c, decide (x.mx = 0) = c := ⟨_, rfl⟩
  have HF : Hid (fz x = (a && b && c)) := by unfold Hid fz; rw [ha, hb, hc]
  rw [ha] at HZ1
  rw [hb] at HZ2
  rw [hc] at HZ3
  clear ha hb hc
  cases a <;> cases b <;> cases c
  all_goals
   go_wp2_with (go_at_call 40; (first | (with_reducible refine (HZ1.out _).mono ?_) | (with_reducible refine (HZ2.out _).mono ?_) | (with_reducible refine (HZ3.out _).mono ?_)); rintro e w0 ⟨rfl, rfl⟩)
   go_meet
   exact ⟨by rw [HF.out]; rfl, rfl⟩
 case rest =>
 obtain ⟨rfl, hwc⟩ := hcut
 rename_i wc
 obtain rfl : w0 = wc := hwc.symm
 clear HZ1 HZ2 HZ3
 go_upto_region 2 with fail
 go_cut [6] from 22 to 31 (fun y W => y = .bool (decide (x.t = 0)) ∧ W = w0)
 case first =>
  obtain ⟨a, ha⟩ : ∃ a, (hiOf x.t == 0) = a := ⟨_, rfl⟩
  obtain ⟨b, hb⟩ : ∃ b, (loOf x.t == 0) = b := ⟨_, rfl⟩
  have HF : Hid (decide (x.t = 0) = (a && b)) := by unfold Hid; rw [← HWZ.out, ha, hb]
  clear HMay HTot HBt H1 H2 H3 H4 HWZ HR
  cases a <;> cases b
  all_goals
   go_wp2_with fail
   go_meet
   exact ⟨by rw [HF.out]; rfl, rfl⟩
 case rest =>
 obtain ⟨rfl, hwc⟩ := hcut
 rename_i wc
 obtain rfl : w0 = wc := hwc.symm
 clear HWZ
 by_cases k1 : x.d.kind = 1
 ·have k1' : (x.d.kind == 1) = true := by simpa using k1
  have HE := hid_of (HR.out.trans (holdB_c k1))
  clear HMay HTot HBt H1 H2 H3 H4 HR k1
  generalize fz x = z at *
  generalize decide (x.t = 0) = tz at *
  by_cases e1 : 0 ≤ hiOf x.t
  ·rw [decide_eq_true e1, Bool.true_and] at HE
   by_cases e2 : x.cs.length = 0
   ·rw [decide_eq_true e2, Bool.true_and] at HE
    have e2' : ((x.cs.length : Int) == 0) = true := by rw [beq_iff_eq]; omega
    by_cases e3 : x.n = 0
    ·rw [decide_eq_true e3, Bool.true_and] at HE
     have e3' : ((x.n : Int) == 0) = true := by rw [beq_iff_eq]; omega
     clear e2 e3
     as_aux_lemma =>
      go_wp2_with fail
      go_ret
      exact ⟨retB HE.out.symm, HBl.out⟩
    ·rw [decide_eq_false e3, Bool.false_and] at HE
     have e3' : ((x.n : Int) == 0) = false := by rw [beq_eq_false_iff_ne]; omega
     clear e2 e3
     as_aux_lemma =>
      go_wp2_with fail
      go_ret
      exact ⟨retB HE.out.symm, HBl.out⟩
   ·rw [decide_eq_false e2, Bool.false_and, Bool.false_and] at HE
    have e2' : ((x.cs.length : Int) == 0) = false := by rw [beq_eq_false_iff_ne]; omega
    clear e2
    as_aux_lemma =>
     go_wp2_with fail
     go_ret
     exact ⟨retB HE.out.symm, HBl.out⟩
  ·rw [decide_eq_false e1, Bool.false_and, Bool.false_and, Bool.false_and] at HE
   as_aux_lemma =>
    go_wp2_with fail
    go_ret
    exact ⟨retB HE.out.symm, HBl.out⟩
 ·have k1' : (x.d.kind == 1) = false := by simpa using k1
  by_cases k2 : x.d.kind = 2
  ·have k2' : (x.d.kind == 2) = true := by simpa using k2
   have HE := hid_of (HR.out.trans (holdB_h k1 k2))
   have HTs : Hid (∀ W, S1h w x (.slice la x.d.labels.length lc) (.slice ca x.cs.length cc) W → Calls Tryz.prog 42 #[.slice ca x.cs.length cc] W fun e w' => e = .returned (.int .u64 (tot x.cs : Nat)) ∧ w' = W) := HTot
   clear H1 H2 H3 H4 HR k1 k2
   generalize fz x = z at *
   generalize decide (x.t = 0) = tz at *
   generalize btw p x = bt0 at *
   generalize mayE p x.cs = me at *
   go_upto_region 8 with (go_at_call 41; with_reducible refine (HMay.out ()).mono ?_; rintro e w1 ⟨rfl, n1, rfl⟩)
   have hbm : Below w0.heap.size w0 (w0.drewN n1) := bel_drewNB (Below.refl _ _) _
   have HBm := hid_of hbm
   have hKm := HKV.out.below hbm
   have hG0 := (⟨hKm.box.c6, hKm.box.c7, hKm⟩ : S1h w x (.slice la x.d.labels.length lc) (.slice ca x.cs.length cc) (w0.drewN n1))
   clear HMay c0 c1 c2 c3 c4 c5 c6 c7 c8 c9 c10 hKm hbm HKV HBx
   generalize w0.drewN n1 = wm at *
   by_cases hm : me = 0
   ·have hm' : (me != 0) = false := by simpa using hm
    have HBt2 := hid_of (HBt.out hm)
    have HTt : Hid (∀ W, S1h w x (.slice la x.d.labels.length lc) (.slice ca x.cs.length cc) W → Calls Tryz.prog 42 #[.slice ca x.cs.length cc] W fun e w' => e = .returned (.int .u64 (tot x.cs : Nat)) ∧ w' = W) := HTs
    rw [decide_eq_true hm, Bool.true_and] at HE
    clear HBt hm HTot
    by_cases hn : x.n = tot x.cs
    ·rw [decide_eq_true hn, Bool.true_and] at HE
     have hn' : ((x.n : Int) != (tot x.cs : Int)) = false := by rw [bne_eq_false_iff_eq]; omega
     clear hn
     generalize tot x.cs = tt at *
     cases z
     ·rw [Bool.and_false] at HE
      go_region_held3 (fun W => W.cell? ⟨w.heap.size, 6, none⟩ = some (.slice ca x.cs.length cc) ∧ W.cell? ⟨w.heap.size, 7, none⟩ = some (.int .u64 (x.n : Int)) ∧ KV w w.heap.size x (.slice la x.d.labels.length lc) (.slice ca x.cs.length cc) W)
       (first | assumption | exact keepK (by assumption) (by assumption) | exact keepK (drew_bel _) hG0)
       (first | (go_at_call 42; with_reducible refine (HTt.out _ (by first | assumption | exact keepK (drew_bel _) hG0)).mono ?_; rintro e w2 ⟨rfl, rfl⟩))
      rename_i hG1
      go_wp2_with fail
      go_ret
      exact ⟨retB HE.out.symm, hG1.2.2.bl⟩
     ·rw [Bool.and_true] at HE
      go_region_held3 (fun W => W.cell? ⟨w.heap.size, 6, none⟩ = some (.slice ca x.cs.length cc) ∧ W.cell? ⟨w.heap.size, 7, none⟩ = some (.int .u64 (x.n : Int)) ∧ KV w w.heap.size x (.slice la x.d.labels.length lc) (.slice ca x.cs.length cc) W)
       (first | assumption | exact keepK (by assumption) (by assumption) | exact keepK (drew_bel _) hG0)
       (first | (go_at_call 42; with_reducible refine (HTt.out _ (by first | assumption | exact keepK (drew_bel _) hG0)).mono ?_; rintro e w2 ⟨rfl, rfl⟩))
      rename_i hG1
      have HK1 := hid_of hG1.2.2
      obtain ⟨d0, d1, d2, d3, d4, d5, d6, d7, d8, d9, d10⟩ := hG1.2.2.box
      clear hG0 hG1 HTt
      go_wp2_with (go_at_call 43; with_reducible refine (HBt2.out _ HK1.out.c).mono ?_; rintro e w3 ⟨rfl, hb3⟩)
      go_ret
      exact ⟨retB HE.out.symm, bt HK1.out.bl hb3⟩
    ·rw [decide_eq_false hn, Bool.false_and, Bool.false_and] at HE
     have hn' : ((x.n : Int) != (tot x.cs : Int)) = true := by rw [bne_iff_ne]; omega
     clear hn
     generalize tot x.cs = tt at *
     have hG0d := keepK (drew_bel _) hG0
     have HGd := hid_of hG0d
     obtain ⟨p6, p7, _⟩ := hG0d
     first
      | (go_region_with (first | (go_at_call 42; with_reducible refine (HTt.out _ HGd.out).mono ?_; rintro e w2 ⟨rfl, rfl⟩)))
      | fail
     all_goals
      go_wp2_with fail
      go_ret
      exact ⟨retB HE.out.symm, HGd.out.2.2.bl⟩
   ·have hm' : (me != 0) = true := by simpa using hm
    rw [decide_eq_false hm, Bool.false_and, Bool.false_and, Bool.false_and] at HE
    clear HBt hm HTot
    first
     | (go_region_with fail)
     | fail
    all_goals
     go_wp2_with fail
     go_ret
     exact ⟨retB HE.out.symm, by first | exact hG0.2.2.bl | exact bt hG0.2.2.bl (drew_bel _)⟩
  ·have k2' : (x.d.kind == 2) = false := by simpa using k2
   have HE := hid_of (HR.out.trans (holdB_s k1 k2))
   clear HMay HTot HBt HR k1 k2
   generalize decide (x.t = 0) = tz at *
   unfold flB at HE
   generalize fz x = z at *
   cases tz
   ·rw [Bool.false_and, Bool.false_and] at HE
    clear H1 H2 H3 H4
    as_aux_lemma =>
     go_wp2_with fail
     go_ret
     exact ⟨retB HE.out.symm, HBl.out⟩
   ·rw [Bool.true_and] at HE
    by_cases e2 : x.cs.length = 0
    ·rw [decide_eq_true e2, Bool.true_and] at HE
     have e2' : decide (0 < x.cs.length) = false := decide_eq_false (by omega)
     clear e2
     by_cases e3 : 9223372036854775807 < x.n
     ·rw [if_pos e3] at HE
      have e3' : (9223372036854775807 : Int) < (x.n : Int) := by omega
      clear H1 H2 H3 H4
      as_aux_lemma =>
       go_wp2_with fail
       go_ret
       exact ⟨retB HE.out.symm, HBl.out⟩
     ·rw [if_neg e3] at HE
      have e3' : ¬ (9223372036854775807 : Int) < (x.n : Int) := by omega
      by_cases e4 : x.n = 0
      ·rw [if_pos e4] at HE
       have e4' : ((x.n : Int) == 0) = true := by rw [beq_iff_eq]; omega
       clear H1 H2 H3 H4 e3 e4
       as_aux_lemma =>
        go_wp2_with fail
        go_ret
        exact ⟨retB HE.out.symm, HBl.out⟩
      ·rw [if_neg e4] at HE
       have e4' : ((x.n : Int) == 0) = false := by rw [beq_eq_false_iff_ne]; omega
       clear e3 e4
       generalize Re.finF x.sum = a at *
       generalize Re.finF x.mn = b at *
       generalize Re.finF x.mx = c at *
       generalize Re.sg (Re.rk x.mn) (Re.rk x.mx) = d at *
       cases a <;> cases b <;> cases c
       all_goals as_aux_lemma =>
        go_wp2_with (first
         | (go_at_call 44; (first | (with_reducible refine (H1.out _).mono ?_) | (with_reducible refine (H2.out _).mono ?_) | (with_reducible refine (H3.out _).mono ?_)); rintro e w0 ⟨rfl, rfl⟩)
         | (go_at_call 45; with_reducible refine (H4.out _).mono ?_; rintro e w0 ⟨rfl, rfl⟩))
        go_ret
        exact ⟨retB HE.out.symm, HBl.out⟩
    ·rw [decide_eq_false e2, Bool.false_and] at HE
     have e2' : decide (0 < x.cs.length) = true := decide_eq_true (by omega)
     clear H1 H2 H3 H4 e2
     as_aux_lemma =>
      go_wp2_with fail
      go_ret
      exact ⟨retB HE.out.symm, HBl.out⟩
end Go.Proofs.YtlgfgeacphkhnaaGreatDoor
