/- WHAT A VALUE HOLDS: holdsCounts. Own work of the verifier. -/
import Derived.Test.YtgkdggcpplmnaaaGreatZAM
import Derived.Deep.RegionHeld3
namespace Go.Proofs.YtgkdggcpplmnaaaGreat
open Go.RowKit Me

/-- The two sums, while they come to be. -/
structure KL (w1 : World) (s1 s2 : Nat) (W : World) : Prop where
  g1 : W.heap[w1.heap.size]? = some (.cells #[.int .i64 (hiOf (s1 : Int)), .int .u64 (loOf (s1 : Int))] 39 (0, 0))
  g2 : W.heap[w1.heap.size + 1]? = some (.cells #[.int .i64 (hiOf (s2 : Int)), .int .u64 (loOf (s2 : Int))] 39 (0, 0))
  bl : Below w1.heap.size w1 W
theorem hkN {k : Nat} {o : Obj} {W W' : World} (h : W.heap[k]? = some o) (hb : Below W.heap.size W W') : W'.heap[k]? = some o := (hb.block k (Array.getElem?_eq_some_iff.1 h).1).trans h
theorem KL.below {w1 W W' : World} {s1 s2 : Nat} (h : KL w1 s1 s2 W) (hb : Below W.heap.size W W') : KL w1 s1 s2 W' := ⟨hkN h.g1 hb, hkN h.g2 hb, bt h.bl hb⟩
theorem KL.new (w : World) : KL w 0 0 ((w.alloc (.cells #[.int .i64 0, .int .u64 0] 39)).alloc (.cells #[.int .i64 0, .int .u64 0] 39)) := by
  refine ⟨?_, ?_, bel2 w _ _⟩
  · exact hkN (new_1 w _) (bel1 _ _)
  · have := new_1 (w.alloc (.cells #[.int .i64 0, .int .u64 0] 39)) (.cells #[.int .i64 0, .int .u64 0] 39)
    rw [show (w.alloc (.cells #[.int .i64 0, .int .u64 0] 39)).heap.size = w.heap.size + 1 by simp] at this
    exact this
theorem two_at {W : World} {b : Nat} {x y : Value} {t : TypeId} (h : W.heap[b]? = some (.cells #[x, y] t (0, 0))) : W.cell? ⟨b, 0, none⟩ = some x ∧ W.cell? ⟨b, 1, none⟩ = some y ∧ W.frozen? ⟨b, 0, none⟩ = false ∧ W.frozen? ⟨b, 1, none⟩ = false := by
  refine ⟨?_, ?_, ?_, ?_⟩ <;> simp [World.cell?, World.frozen?, h]
theorem heap_same {W : World} {b : Nat} {x y x' y' : Value} {t : TypeId} (h : W.heap[b]? = some (.cells #[x, y] t (0, 0))) : ((W.setCell ⟨b, 0, none⟩ x').setCell ⟨b, 1, none⟩ y').heap[b]? = some (.cells #[x', y'] t (0, 0)) := by
  have h1 : (W.setCell ⟨b, 0, none⟩ x').heap[b]? = some (.cells #[x', y] t (0, 0)) := by rw [heap_setCell_same _ b 0 _ _ _ h]; rfl
  rw [heap_setCell_same _ b 1 _ _ _ h1]; rfl
theorem set2_bel {a W : World} {B b : Nat} {x y : Value} (h : Below B a W) (hb : B ≤ b) : Below B a ((W.setCell ⟨b, 0, none⟩ x).setCell ⟨b, 1, none⟩ y) := (h.setCell (p := ⟨b, 0, none⟩) hb x).setCell (p := ⟨b, 1, none⟩) hb y
theorem KL.set1 {w1 W : World} {s1 s2 t : Nat} (h : KL w1 s1 s2 W) : KL w1 t s2 ((W.setCell ⟨w1.heap.size, 0, none⟩ (.int .i64 (hiOf (t : Int)))).setCell ⟨w1.heap.size, 1, none⟩ (.int .u64 (loOf (t : Int)))) :=
  ⟨heap_same h.g1, by rw [heap_other _ _ _ _ (by simp), heap_other _ _ _ _ (by simp)]; exact h.g2, set2_bel h.bl (Nat.le_refl _)⟩
theorem KL.set2 {w1 W : World} {s1 s2 t : Nat} (h : KL w1 s1 s2 W) : KL w1 s1 t ((W.setCell ⟨w1.heap.size + 1, 0, none⟩ (.int .i64 (hiOf (t : Int)))).setCell ⟨w1.heap.size + 1, 1, none⟩ (.int .u64 (loOf (t : Int)))) :=
  ⟨by rw [heap_other _ _ _ _ (by simp), heap_other _ _ _ _ (by simp)]; exact h.g1, heap_same h.g2, set2_bel h.bl (by omega)⟩
/-- What a step of the sums holds on to: the cells of one sum, the count at hand. -/
abbrev S9h (w2 : World) (a b : Nat) (x y z : Value) (s1 s2 : Nat) (W : World) : Prop := W.cell? ⟨a, 0, none⟩ = some x ∧ W.cell? ⟨a, 1, none⟩ = some y ∧ W.cell? ⟨b, 1, none⟩ = some z ∧ W.frozen? ⟨a, 0, none⟩ = false ∧ W.frozen? ⟨a, 1, none⟩ = false ∧ KL w2 s1 s2 W
theorem frozB {W W' : World} {a : Addr} (hb : Below W.heap.size W W') (hl : a.block < W.heap.size) (h : W.frozen? a = false) : W'.frozen? a = false := (hb.frozen (p := a) hl).trans h
theorem keepS {w2 W W1 : World} {a b : Nat} {x y z : Value} {s1 s2 : Nat} (hb : Below W.heap.size W W1) (h : S9h w2 a b x y z s1 s2 W) : S9h w2 a b x y z s1 s2 W1 :=
  ⟨cellB hb h.1, cellB hb h.2.1, cellB hb h.2.2.1, frozB hb (lt_of_cell h.1) h.2.2.2.1, frozB hb (lt_of_cell h.2.1) h.2.2.2.2.1, h.2.2.2.2.2.below hb⟩
theorem cell_set2 {W : World} {a c k : Nat} {x y z : Value} (h : W.cell? ⟨c, k, none⟩ = some z) (hne : c ≠ a) : ((W.setCell ⟨a, 0, none⟩ x).setCell ⟨a, 1, none⟩ y).cell? ⟨c, k, none⟩ = some z := by
  rw [← h]
  unfold World.cell?
  simp only
  rw [heap_other _ _ _ _ (by simpa using hne), heap_other _ _ _ _ (by simpa using hne)]
theorem new_cell1 (w : World) (x y : Value) (t : TypeId) : (w.alloc (.cells #[x, y] t)).cell? ⟨w.heap.size, 1, none⟩ = some y := by simp [go_sem]
theorem keepK {w W W1 : World} {b : Nat} {x : Vl} {lv cv u v : Value} (hb : Below W.heap.size W W1)
    (h : W.cell? ⟨b, 6, none⟩ = some u ∧ W.cell? ⟨b, 7, none⟩ = some v ∧ KV w b x lv cv W) : W1.cell? ⟨b, 6, none⟩ = some u ∧ W1.cell? ⟨b, 7, none⟩ = some v ∧ KV w b x lv cv W1 := ⟨cellB hb h.1, cellB hb h.2.1, h.2.2.below hb⟩
/-- What region 1 holds on to. -/
abbrev S1h (w : World) (x : Vl) (lv cv : Value) (W : World) : Prop := W.cell? ⟨w.heap.size, 6, none⟩ = some cv ∧ W.cell? ⟨w.heap.size, 7, none⟩ = some (.int .u64 (x.n : Int)) ∧ KV w w.heap.size x lv cv W
theorem drew_bel (W : World) : Below W.heap.size W W.drew := bel_drewB (Below.refl _ _)
set_option maxRecDepth 100000 in
set_option maxHeartbeats 4000000 in
theorem hc_loop (P : Nat) (x : Vl) (la ca : Option Addr) (lc cc : Nat) (h : VW x) (w : World) (hl : SLb w (.slice la x.d.labels.length lc) x.d.labels) (hc : SN w (.slice ca x.cs.length cc) x.cs) (hM : MayIs (P : Int) x.cs 0) (hn : x.n = tot x.cs) :
    Calls Tryz.prog 54 #[.int .i64 (P : Int), vx x (.slice la x.d.labels.length lc) (.slice ca x.cs.length cc)] w fun e w' => e = .returned (.bool (btw (P : Int) x)) ∧ Below w.heap.size w w' := by
  obtain ⟨hp, hs2, h3⟩ := may_ok hM
  have HMay : Hid (∀ W, S1h w x (.slice la x.d.labels.length lc) (.slice ca x.cs.length cc) W → Calls Tryz.prog 73 #[.int .i64 (P : Int), .slice ca x.cs.length cc] W fun e w' => e = .returned (.int .i64 0) ∧ Below W.heap.size W w') := fun W k => may_any W _ _ _ 0 k.2.2.c h.cs h.cl hM
  have HTot : Hid (∀ W, S1h w x (.slice la x.d.labels.length lc) (.slice ca x.cs.length cc) W → Calls Tryz.prog 74 #[.slice ca x.cs.length cc] W fun e w' => e = .returned (.int .u64 (x.n : Int)) ∧ Below W.heap.size W w') := fun W k => by
    rw [hn]
    exact total_any W _ _ k.2.2.c h.cs h.cl
  have HK0 : Hid (∀ T, KV w w.heap.size x (.slice la x.d.labels.length lc) (.slice ca x.cs.length cc) (w.alloc (.cells (vc x (.slice la x.d.labels.length lc) (.slice ca x.cs.length cc)) T))) := fun T => KV.new hl hc T
  have HM := hid_of hM
  have H3 := hid_of h3
  have HT := hid_of h.t
  have HCl := hid_of h.cl
  have HW := hid_of h.cs
  clear hl hc hM hn h3 h hs2
  go_enter Tryz.func54, Tryz.ntmps54
  go_upto_region 1 with fail
  have hK := HK0.out 45
  obtain ⟨w0, hw0⟩ : ∃ w0, w.alloc (.cells (vc x (.slice la x.d.labels.length lc) (.slice ca x.cs.length cc)) 45) = w0 := ⟨_, rfl⟩
  have hw0' := hw0
  simp only [vc] at hw0'
  rw [hw0] at hK
  rw [hw0']
  have hG0 := (⟨hK.box.c6, hK.box.c7, hK⟩ : w0.cell? ⟨w.heap.size, 6, none⟩ = _ ∧ w0.cell? ⟨w.heap.size, 7, none⟩ = _ ∧ KV w w.heap.size x (.slice la x.d.labels.length lc) (.slice ca x.cs.length cc) w0)
  clear hw0 hw0' HK0 hK
  go_region_held3 (fun W => W.cell? ⟨w.heap.size, 6, none⟩ = some (.slice ca x.cs.length cc) ∧ W.cell? ⟨w.heap.size, 7, none⟩ = some (.int .u64 (x.n : Int)) ∧ KV w w.heap.size x (.slice la x.d.labels.length lc) (.slice ca x.cs.length cc) W)
    (first | assumption | exact keepK (by assumption) (by assumption) | exact keepK (drew_bel _) hG0)
    (first
      | (go_at_call 73; with_reducible refine (HMay.out _ (by first | assumption | exact keepK (by assumption) (by assumption) | exact keepK (drew_bel _) hG0)).mono ?_; rintro e w1 ⟨rfl, hb1⟩)
      | (go_at_call 74; with_reducible refine (HTot.out _ (by first | assumption | exact keepK (by assumption) (by assumption) | exact keepK (drew_bel _) hG0)).mono ?_; rintro e w2 ⟨rfl, hb2⟩))
  rename_i hG1
  have HK1 := hid_of hG1.2.2
  have c6 := hG1.1
  clear hG0 hG1 HMay HTot
  have HKL := hid_of (KL.new w2)
  have HB2 := hid_of (bel2 w2 (.cells #[.int .i64 0, .int .u64 0] 39) (.cells #[.int .i64 0, .int .u64 0] 39))
  clear c6
  go_upto_region 4 with fail
  obtain ⟨w3, hw3⟩ : ∃ w3, (w2.alloc (.cells #[.int .i64 0, .int .u64 0] 39)).alloc (.cells #[.int .i64 0, .int .u64 0] 39) = w3 := ⟨_, rfl⟩
  rw [hw3] at HKL HB2 ⊢
  have c6 := cellB HB2.out HK1.out.box.c6
  clear hw3 HB2
  have HS0 : Hid (lowN P (x.cs.take 0) = 0 ∧ highN P (x.cs.take 0) = 0) := ⟨rfl, rfl⟩
  go_upto_region 5 with fail
  clear c6
  go_loopw [31] (fun v W => ∃ i : Nat, i ≤ x.cs.length ∧ v = .int .i64 (i : Int) ∧ Hid (KL w2 (lowN P (x.cs.take i)) (highN P (x.cs.take i)) W)) (fun v _ => x.cs.length - (intOf v).toNat)
  case atStart => exact ⟨0, by omega, rfl, by rw [HS0.out.1, HS0.out.2]; exact HKL⟩
  case round =>
    clear HKL HS0
    obtain ⟨i, hi, rfl, HL⟩ := hrel
    have hb1 : w.heap.size < w2.heap.size := lt_of_cell HK1.out.box.c0
    have hb2 : w2.heap.size + 1 < wr.heap.size := (Array.getElem?_eq_some_iff.1 HL.out.g2).1
    have hcl := HCl.out
    by_cases hlt : i < x.cs.length
    · have hlt' : (i : Int) < (x.cs.length : Int) := by omega
      obtain ⟨ao, b, o, cap, hv, hao, hrow⟩ := (HK1.out.c.below HL.out.bl).sc
      obtain rfl := hao (by intro e; rw [e] at hlt; simp at hlt)
      cases hv
      obtain ⟨q0, q1⟩ := hrow i hlt
      obtain ⟨g1, g2, _⟩ := H3.out i hlt
      obtain ⟨k1, k2, k3⟩ := in_may HM.out (List.getElem_mem hlt)
      have hN : x.cs[i].2 < 18446744073709551616 := (HW.out _ (List.getElem_mem hlt)).2.2
      have e1 := lowN_take P x.cs i hlt
      have e2 := highN_take P x.cs i hlt
      have bb := low_bound HM.out (i + 1)
      obtain ⟨I, hI⟩ := Int.eq_ofNat_of_zero_le g1
      rw [hI] at k1 k2 k3 q0 e1 e2
      simp only [Int.toNat_natCast] at k1 k2 k3 e1 e2
      rw [e1, e2] at bb
      have HE : Hid (lowN P (x.cs.take (i + 1)) = _ ∧ highN P (x.cs.take (i + 1)) = _) := ⟨e1, e2⟩
      have hp1 : 1 ≤ P := by omega
      have hp2 : P ≤ 14 := by omega
      have HLow : Hid (∀ W, Calls Tryz.prog 75 #[.int .i64 (P : Int), .int .i64 (I : Int)] W fun e w' => (∃ n, w' = W.drewN n) ∧ e = two (lo (2 ^ P) I : Nat) 0) := fun W => low_of (bounds_yes P I hp1 hp2 k1) W
      have HHigh : Hid (∀ W, Calls Tryz.prog 76 #[.int .i64 (P : Int), .int .i64 (I : Int)] W fun e w' => (∃ n, w' = W.drewN n) ∧ e = two (hiV P I : Nat) 0) := fun W => high_of (bounds_yes P I hp1 hp2 k1) W
      have HT1 : Hid (∀ W, _) := times_any (lo (2 ^ P) I) x.cs[i].2 (by omega) hN
      have HT2 : Hid (∀ W, _) := times_any (hiV P I) x.cs[i].2 (by omega) hN
      have HA1 : Hid (∀ W, _) := fun W => addN_any (s := lowN P (x.cs.take i)) (y := lo (2 ^ P) I * x.cs[i].2) (by omega) W
      have HA2 : Hid (∀ W, _) := fun W => addN_any (s := highN P (x.cs.take i)) (y := hiV P I * x.cs[i].2) (by omega) W
      clear e1 e2 bb k1 k2 k3 g1 g2 hI hrow hao hp1 hp2
      generalize lo (2 ^ P) I = lw at *
      generalize hiV P I = hw at *
      generalize x.cs[i].2 = N at *
      generalize lw * N = z1 at *
      generalize hw * N = z2 at *
      generalize lowN P (x.cs.take i) = s1 at *
      generalize highN P (x.cs.take i) = s2 at *
      go_upto_region 9 with (first
        | (go_at_call 75; with_reducible refine (HLow.out _).mono ?_; rintro e w4 ⟨⟨n4, rfl⟩, rfl⟩)
        | (go_at_call 76; with_reducible refine (HHigh.out _).mono ?_; rintro e w5 ⟨⟨n5, rfl⟩, rfl⟩))
      have hbw : Below wr.heap.size wr ((wr.alloc (.cells #[.int .i64 (I : Int), .int .u64 (N : Int)] 124)).drewN (n4 + n5)) := bel_drewNB (bel1 _ _) _
      have hcN : ((wr.alloc (.cells #[.int .i64 (I : Int), .int .u64 (N : Int)] 124)).drewN (n4 + n5)).cell? ⟨wr.heap.size, 1, none⟩ = some (.int .u64 (N : Int)) := cellB (bel_drewNB (Below.refl _ _) _) (new_cell1 wr _ _ _)
      have hL6 := HL.out.below hbw
      generalize (wr.alloc (.cells #[.int .i64 (I : Int), .int .u64 (N : Int)] 124)).drewN (n4 + n5) = w6 at *
      clear HL hbw q0 q1 HLow HHigh
      have hne1 : wr.heap.size ≠ w2.heap.size := by omega
      have hne2 : wr.heap.size ≠ w2.heap.size + 1 := by omega
      generalize hB8 : wr.heap.size = B8 at *
      have hT6 := two_at hL6.g1
      have hS6 := (⟨hT6.1, hT6.2.1, hcN, hT6.2.2.1, hT6.2.2.2, hL6⟩ : S9h w2 w2.heap.size B8 _ _ _ s1 s2 w6)
      clear hT6 hL6 hcN
      go_cut [] from 49 to 54 (fun W => Hid (KL w2 (s1 + z1) s2 W) ∧ W.cell? ⟨B8, 1, none⟩ = some (.int .u64 (N : Int)))
      case first =>
        clear HE HT2 HA2 HK1 HM H3 HT HCl HW
        have hS6d := keepS (drew_bel _) hS6
        obtain ⟨p0, p1, p2, p3, p4, p5⟩ := hS6d
        have HS6 : Hid (S9h w2 w2.heap.size B8 _ _ _ s1 s2 w6.drew) := ⟨p0, p1, p2, p3, p4, p5⟩
        clear hS6 p5
        go_region_with (first
            | (go_at_call 78; with_reducible refine (HT1.out _).mono ?_; rintro e w7 ⟨rfl, hb7⟩; have HS7 := hid_of (keepS hb7 HS6.out); obtain ⟨r0, r1, r2, r3, r4, r5⟩ := HS7.out; clear r5)
            | (go_at_call 77; with_reducible refine (HA1.out _).mono ?_; rintro e w8 ⟨rfl, hb8⟩; have HS8 := hid_of (keepS hb8 HS7.out); obtain ⟨t0, t1, t2, t3, t4, t5⟩ := HS8.out; clear t5))
        all_goals
          go_wp2_with fail
          go_meet
          exact ⟨by have := KL.set1 (t := s1 + z1) HS8.out.2.2.2.2.2; unfold Hid; simpa using this, cell_set2 t2 hne1⟩
      case rest =>
      rename_i wc
      obtain ⟨HLc, hcN⟩ := hcut
      clear hS6 HT1 HA1
      have hT6 := two_at HLc.out.g2
      have hS6 := (⟨hT6.1, hT6.2.1, hcN, hT6.2.2.1, hT6.2.2.2, HLc.out⟩ : S9h w2 (w2.heap.size + 1) B8 _ _ _ (s1 + z1) s2 wc)
      clear hT6 HLc hcN
      go_upto_region 10 with fail
      clear HK1 HM H3 HT HCl HW
      have hS6d := keepS (drew_bel _) hS6
      obtain ⟨p0, p1, p2, p3, p4, p5⟩ := hS6d
      have HS6 : Hid (S9h w2 (w2.heap.size + 1) B8 _ _ _ (s1 + z1) s2 wc.drew) := ⟨p0, p1, p2, p3, p4, p5⟩
      clear hS6 p5
      go_region_with (first
            | (go_at_call 78; with_reducible refine (HT2.out _).mono ?_; rintro e w7 ⟨rfl, hb7⟩; have HS7 := hid_of (keepS hb7 HS6.out); obtain ⟨r0, r1, r2, r3, r4, r5⟩ := HS7.out; clear r5)
            | (go_at_call 77; with_reducible refine (HA2.out _).mono ?_; rintro e w8 ⟨rfl, hb8⟩; have HS8 := hid_of (keepS hb8 HS7.out); obtain ⟨t0, t1, t2, t3, t4, t5⟩ := HS8.out; clear t5))
      all_goals
        go_wp2_with fail
        refine ⟨⟨i + 1, by omega, by go_num, ?_⟩, by simp [intOf]; omega⟩
        rw [HE.out.1, HE.out.2]
        have := KL.set2 (t := s2 + z2) HS8.out.2.2.2.2.2
        unfold Hid
        simpa using this
    · have hlt' : ¬ (i : Int) < (x.cs.length : Int) := by omega
      obtain rfl : i = x.cs.length := by omega
      rw [List.take_length] at HL
      have bb := low_bound HM.out x.cs.length
      rw [List.take_length] at bb
      have HC1 : Hid (∀ W, _) := cmp_le_any (lowN P x.cs : Int) x.t ⟨by omega, by omega⟩ HT.out
      have HC2 : Hid (∀ W, _) := cmp_le_any x.t (highN P x.cs : Int) HT.out ⟨by omega, by omega⟩
      have hK2 := HK1.out.below HL.out.bl
      have eB : btw (P : Int) x = (decide (cmp (lowN P x.cs : Int) x.t ≤ 0) && decide (cmp x.t (highN P x.cs : Int) ≤ 0)) := by
        rw [cmp_le, cmp_le]; rfl
      have HEB := hid_of eB
      clear bb eB HM H3 HT HCl HW HK1
      have d4 := hK2.box.c4
      have d5 := hK2.box.c5
      obtain ⟨l0, l1, _, _⟩ := two_at HL.out.g1
      obtain ⟨m0, m1, _, _⟩ := two_at HL.out.g2
      have HK2 := hid_of hK2
      clear hK2 HL
      generalize (lowN P x.cs : Int) = A at *
      generalize (highN P x.cs : Int) = B at *
      generalize cmp A x.t = c1 at *
      generalize cmp x.t B = c2 at *
      by_cases hc1 : c1 ≤ 0
      · rw [decide_eq_true hc1, Bool.true_and] at HEB
        by_cases hc2 : c2 ≤ 0
        · rw [decide_eq_true hc2] at HEB
          as_aux_lemma =>
            go_wp2_with (go_at_call 71; (first | (with_reducible refine (HC1.out _).mono ?_) | (with_reducible refine (HC2.out _).mono ?_)); rintro e w7 ⟨rfl, hb7⟩; have d4 := cellB hb7 d4; have d5 := cellB hb7 d5; have m0 := cellB hb7 m0; have m1 := cellB hb7 m1; have HK2 := hid_of (HK2.out.below hb7))
            go_ret
            exact ⟨retB HEB.out.symm, HK2.out.bl⟩
        · rw [decide_eq_false hc2] at HEB
          as_aux_lemma =>
            go_wp2_with (go_at_call 71; (first | (with_reducible refine (HC1.out _).mono ?_) | (with_reducible refine (HC2.out _).mono ?_)); rintro e w7 ⟨rfl, hb7⟩; have d4 := cellB hb7 d4; have d5 := cellB hb7 d5; have m0 := cellB hb7 m0; have m1 := cellB hb7 m1; have HK2 := hid_of (HK2.out.below hb7))
            go_ret
            exact ⟨retB (by rw [decide_eq_false (by omega)]; exact HEB.out.symm), HK2.out.bl⟩
      · rw [decide_eq_false hc1, Bool.false_and] at HEB
        as_aux_lemma =>
          go_wp2_with (go_at_call 71; with_reducible refine (HC1.out _).mono ?_; rintro e w7 ⟨rfl, hb7⟩; have HK2 := hid_of (HK2.out.below hb7))
          go_ret
          exact ⟨retB HEB.out.symm, HK2.out.bl⟩
end Go.Proofs.YtgkdggcpplmnaaaGreat
