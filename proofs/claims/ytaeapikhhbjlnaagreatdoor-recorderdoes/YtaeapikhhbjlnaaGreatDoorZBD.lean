/- PARTS: the document's Merge. Own work of the verifier. -/
import Derived.Test.YtaeapikhhbjlnaaGreatDoorZBC
import Derived.Test.YtaeapikhhbjlnaaGreatDoorZBB
namespace Go.Proofs.YtaeapikhhbjlnaaGreatDoor
open Go.RowKit

/-- The end of two. -/
def endK (n n' x y p q : Nat) : Nat := if n = 0 then y else if n' = 0 then x else if keyN p < keyN q then y else x
set_option maxRecDepth 10000 in
set_option maxHeartbeats 60000000 in
theorem rp15_any (ah al bh bl : Int) (a1 a2 : Option Addr) (m1 c1 m2 c2 n n' s c u d mn mx mn' mx' : Nat) (A C : List Cn) (w : World) (wa : Wf ah al) (wb : Wf bh bl) (hA : SN w (.slice a1 m1 c1) A) (hC : SN w (.slice a2 m2 c2) C) (HK : ∀ W v v', SN W v A → SN W v' C → Calls Tryz.prog 140 #[v, v'] W fun e w' => Md W (A ++ C) e w')
    (hs : s < 18446744073709551616) (hc : c < 18446744073709551616) (hu : u < 18446744073709551616) (hd : d < 18446744073709551616) (h1 : mn < 18446744073709551616) (h2 : mx < 18446744073709551616) (h3 : mn' < 18446744073709551616) (h4 : mx' < 18446744073709551616) :
    Calls Tryz.prog 87 #[rpart ah al (.slice a1 m1 c1) n s c mn mx, rpart bh bl (.slice a2 m2 c2) n' u d mn' mx'] w fun e w' => MdR w (hiOf (rnd (val ah al + val bh bl))) (loOf (rnd (val ah al + val bh bl))) ((n + n') % 18446744073709551616) (endK n n' mn mn' mn' mn) (endK n n' mx mx' mx mx') (Soft.fa s u) (Soft.fa (Soft.fa c d) (Soft.fl s u)) (A ++ C) e w' := by
  obtain ⟨w3, hw3⟩ : ∃ w3, ((w.alloc (.cells #[.int .i64 ah, .int .u64 al, .slice a1 m1 c1, .int .u64 (n : Int), .int .u64 (s : Int), .int .u64 (c : Int), .int .u64 (mn : Int), .int .u64 (mx : Int)] 130)).alloc (.cells #[.int .i64 bh, .int .u64 bl, .slice a2 m2 c2, .int .u64 (n' : Int), .int .u64 (u : Int), .int .u64 (d : Int), .int .u64 (mn' : Int), .int .u64 (mx' : Int)] 130)).alloc (.cells #[.int .i64 0, .int .u64 0, .slice none 0 0, .int .u64 0, .int .u64 0, .int .u64 0, .int .u64 0, .int .u64 0] 130) = w3 := ⟨_, rfl⟩
  have hb3 : Below w.heap.size w w3 := by rw [← hw3]; exact bel3 _ _ _ _
  have g0 : w3.heap[w.heap.size]? = some (.cells #[.int .i64 ah, .int .u64 al, .slice a1 m1 c1, .int .u64 (n : Int), .int .u64 (s : Int), .int .u64 (c : Int), .int .u64 (mn : Int), .int .u64 (mx : Int)] 130 (0, 0)) := by rw [← hw3]; exact new3_0 _ _ _ _
  have g1 : w3.heap[w.heap.size + 1]? = some (.cells #[.int .i64 bh, .int .u64 bl, .slice a2 m2 c2, .int .u64 (n' : Int), .int .u64 (u : Int), .int .u64 (d : Int), .int .u64 (mn' : Int), .int .u64 (mx' : Int)] 130 (0, 0)) := by rw [← hw3]; exact new3_1 _ _ _ _
  have g2 : w3.heap[w.heap.size + 1 + 1]? = some (.cells #[.int .i64 0, .int .u64 0, .slice none 0 0, .int .u64 0, .int .u64 0, .int .u64 0, .int .u64 0, .int .u64 0] 130 (0, 0)) := by rw [← hw3]; exact new3_2 _ _ _ _
  have HMS : Hid (MT w.heap.size ah al bh bl a1 a2 m1 c1 m2 c2 n n' s c u d mn mx mn' mx' w3 w3) := mt_of g0 g1 (Below.refl _ _)
  have HG : Hid (w3.heap[w.heap.size + 1 + 1]? = some (.cells #[.int .i64 0, .int .u64 0, .slice none 0 0, .int .u64 0, .int .u64 0, .int .u64 0, .int .u64 0, .int .u64 0] 130 (0, 0))) := g2
  have HMC : Hid (∀ W, MT w.heap.size ah al bh bl a1 a2 m1 c1 m2 c2 n n' s c u d mn mx mn' mx' w3 W → Calls Tryz.prog 140 #[.slice a1 m1 c1, .slice a2 m2 c2] W fun e w' => ∃ ao k cap O, e = .returned (.slice ao k cap) ∧ Hid (IsMerge O (A ++ C)) ∧ Hid (GC W.heap.size W (.slice ao k cap) O w' ∧ w3.heap.size ≤ W.heap.size) ∧ Below W.heap.size W w') := fun W hW' => (HK W _ _ (hA.below (bt hb3 hW'.b)) (hC.below (bt hb3 hW'.b))).mono fun e w' ⟨v'', O, e1, e2, e3⟩ => by
    obtain ⟨ao, k, cap, rfl⟩ := gc_form e3
    exact ⟨ao, k, cap, O, e1, e2, ⟨e3, hW'.b.size⟩, e3.below⟩
  have HAD : Hid (∀ W, Calls Tryz.prog 139 #[.agg #[.int .i64 ah, .int .u64 al], .agg #[.int .i64 bh, .int .u64 bl]] W fun e w' => e = .returned (.agg #[.int .i64 (hiOf (rnd (val ah al + val bh bl))), .int .u64 (loOf (rnd (val ah al + val bh bl)))]) ∧ Below W.heap.size W w') := fun W => refadd_any ah al bh bl wa wb W
  have HPM : Hid (∀ W, Calls Tryz.prog 141 #[.agg #[.int .u64 (s : Int), .int .u64 (c : Int)], .agg #[.int .u64 (u : Int), .int .u64 (d : Int)]] W fun e w' => e = .returned (.agg #[.int .u64 ((Soft.fa s u : Nat) : Int), .int .u64 ((Soft.fa (Soft.fa c d) (Soft.fl s u) : Nat) : Int)]) ∧ Below W.heap.size W w') := fun W => Pr.refmerge_any s c u d hs hc hu hd W
  have HE0 : Hid (∀ W, Calls Tryz.prog 142 #[.int .u64 (mn' : Int), .int .u64 (mn : Int)] W fun e w' => e = .returned (.bool (decide (keyN mn' < keyN mn))) ∧ w' = W) := fun W => by
    exact stands_any mn' mn h3 h1 W
  have HE1 : Hid (∀ W, Calls Tryz.prog 142 #[.int .u64 (mx : Int), .int .u64 (mx' : Int)] W fun e w' => e = .returned (.bool (decide (keyN mx < keyN mx'))) ∧ w' = W) := fun W => by
    exact stands_any mx mx' h2 h4 W
  have HN : Hid (IntKind.u64.wrap ((n : Int) + (n' : Int)) = (((n + n') % 18446744073709551616 : Nat) : Int)) := by unfold Hid; rw [IntKind.wrap_u64]; omega
  have HB3 : Hid (Below w.heap.size w w3) := hb3
  have hi3 : w.heap.size + 1 + 1 < w3.heap.size := (Array.getElem?_eq_some_iff.1 g2).1
  have HF0 : Hid (endK n n' mn mn' mn' mn = if n = 0 then mn' else if n' = 0 then mn else if keyN mn' < keyN mn then mn' else mn) := rfl
  have HF1 : Hid (endK n n' mx mx' mx mx' = if n = 0 then mx' else if n' = 0 then mx else if keyN mx < keyN mx' then mx' else mx) := rfl
  clear g0 g1 g2 hA hC hb3 HK
  generalize endK n n' mn mn' mn' mn = E0 at *
  generalize endK n n' mx mx' mx mx' = E1 at *
  generalize hiOf (rnd (val ah al + val bh bl)) = T1 at *
  generalize loOf (rnd (val ah al + val bh bl)) = T0 at *
  generalize Soft.fa s u = r at *
  generalize Soft.fa (Soft.fa c d) (Soft.fl s u) = q at *
  generalize keyN mn' = r1 at *
  generalize keyN mn = r2 at *
  generalize keyN mx = r3 at *
  generalize keyN mx' = r4 at *
  go_enter Tryz.func87, Tryz.ntmps87
  go_upto_region 1 with fail
  clear hw3
  generalize hB : w.heap.size = B at *
  have HBB : Hid (w.heap.size = B) := hB
  clear hB
  have HPzn : Hid (w3.heap.size ≤ w3.heap.size) := Nat.le_refl _
  have hmsd := MT.drew HMS.out
  have HMSd := hid_of hmsd
  clear hmsd
  go_cut [5] from 6 (fun x W => ∃ pk ao k cap O, x = .pointer (some ⟨pk, 0, none⟩) ∧ Hid (RQ B w w3 pk #[.int .i64 T1, .int .u64 T0, .slice ao k cap, .int .u64 (IntKind.u64.wrap ((n : Int) + (n' : Int))), .int .u64 (r : Int), .int .u64 (q : Int), .int .u64 (mn : Int), .int .u64 (mx : Int)] (.slice ao k cap) O W) ∧ Hid (IsMerge O (A ++ C)))
  case first =>
      go_region_held3 (fun W => MT B ah al bh bl a1 a2 m1 c1 m2 c2 n n' s c u d mn mx mn' mx' w3 W)
        (first | with_reducible assumption | with_reducible exact MT.chain hk6 hi3 HP6 _ _ _ _ _ _ _ _ | with_reducible exact HMS.out | with_reducible exact HMSd.out | with_reducible exact MT.allocd HMS.out _ | with_reducible exact MT.kept (by assumption) (bel1 _ _))
        (first
          | (go_at_call 139; with_reducible refine Calls.mono (HAD.out _) ?_; rintro e w4 ⟨rfl, hb4⟩; have hk4 := MT.kept (by assumption) hb4; (first | with_reducible (have HP4 := pz_newd HPzn.out hb4) | skip))
          | (go_at_call 140; with_reducible refine Calls.mono (HMC.out _ (by assumption)) ?_; rintro e w5 ⟨ao, k, cap, O, rfl, HI, HGC, hb5⟩; have hk5 := MT.kept (by assumption) hb5; (first | with_reducible (have HP5 := pz_step HP4 hb5) | with_reducible (have HP5 := pz_new (MT.b hk4).size hb5) | skip))
          | (go_at_call 141; with_reducible refine Calls.mono (HPM.out _) ?_; rintro e w6 ⟨rfl, hb6⟩; have hk6 := MT.kept (by assumption) hb6; (first | with_reducible (have HP6 := pz_step HP5 hb6) | with_reducible (have HP6 := pz_new (MT.b hk5).size hb6) | skip); (first | (have x0 := pz_c0 HP6; have f0 := pz_f0 HP6; have x1 := pz_c1 HP6; have f1 := pz_f1 HP6; have x2 := pz_c2 HP6; have f2 := pz_f2 HP6; have x3 := pz_c3 HP6; have f3 := pz_f3 HP6; have x4 := pz_c4 HP6; have f4 := pz_f4 HP6; have x5 := pz_c5 HP6; have f5 := pz_f5 HP6; have x6 := pz_c6 HP6; have f6 := pz_f6 HP6; have x7 := pz_c7 HP6; have f7 := pz_f7 HP6) | skip)))
      · rename_i hHeld
        clear hHeld
        go_wp2_with fail
        go_meet
        have hE := rq_last (w := w) (cs := #[.int .i64 T1, .int .u64 T0, .slice ao k cap, .int .u64 (IntKind.u64.wrap ((n : Int) + (n' : Int))), .int .u64 (r : Int), .int .u64 (q : Int), .int .u64 (mn : Int), .int .u64 (mx : Int)]) HG.out (MT.b hk6) HGC.out hb6
        exact ⟨_, ao, k, cap, O, rfl, hE, HI⟩
      · rename_i hHeld
        clear hHeld
        go_wp2_with fail
        go_meet
        have hE := rq_between (w := w) (v0 := .int .i64 T1) (v1 := .int .u64 T0) (v2 := .slice ao k cap) (v3 := .int .u64 (IntKind.u64.wrap ((n : Int) + (n' : Int)))) (v4 := .int .u64 (r : Int)) (v5 := .int .u64 (q : Int)) (v6 := .int .u64 (mn : Int)) (v7 := .int .u64 (mx : Int)) HG.out (MT.b hk6) HP6 HGC.out (bt (bel1 _ _) hb6) (Nat.le_refl _)
        exact ⟨_, ao, k, cap, O, rfl, hE, HI⟩
      · rename_i hHeld
        clear hHeld
        go_wp2_with fail
        go_meet
        have hE := rq_before (w := w) (v0 := .int .i64 T1) (v1 := .int .u64 T0) (v2 := .slice ao k cap) (v3 := .int .u64 (IntKind.u64.wrap ((n : Int) + (n' : Int)))) (v4 := .int .u64 (r : Int)) (v5 := .int .u64 (q : Int)) (v6 := .int .u64 (mn : Int)) (v7 := .int .u64 (mx : Int)) HG.out (MT.b hk6) HP6 HGC.out hb6 (by simp)
        exact ⟨_, ao, k, cap, O, rfl, hE, HI⟩
      · rename_i hHeld
        clear hHeld
        go_wp2_with fail
        go_meet
        have hE := rq_before (w := w) (v0 := .int .i64 T1) (v1 := .int .u64 T0) (v2 := .slice ao k cap) (v3 := .int .u64 (IntKind.u64.wrap ((n : Int) + (n' : Int)))) (v4 := .int .u64 (r : Int)) (v5 := .int .u64 (q : Int)) (v6 := .int .u64 (mn : Int)) (v7 := .int .u64 (mx : Int)) HG.out (MT.b hk6) HP6 HGC.out hb6 (pz_lt HP4)
        exact ⟨_, ao, k, cap, O, rfl, hE, HI⟩
  case rest =>
    obtain ⟨pk, ao, k, cap, O, rfl, HR, HI⟩ := hcut
    have hmt := MT.kept HMS.out HR.out.bel
    obtain ⟨-, -, -, a13, -, -, a16, a17, -, -, -, b13, -, -, b16, b17, -⟩ := hmt
    have hpk := HR.out.ge
    clear HAD HPM HMC HMSd HPzn HG
    go_upto_region 2 with fail
    generalize hd1 : decide (r1 < r2) = d1 at *
    generalize hd2 : decide (r3 < r4) = d2 at *
    go_cut [45] from 31 (fun x W => x = .bool (decide (n = 0) || (!decide (n' = 0) && d1)) ∧ Hid (RQ B w w3 pk #[.int .i64 T1, .int .u64 T0, .slice ao k cap, .int .u64 (IntKind.u64.wrap ((n : Int) + (n' : Int))), .int .u64 (r : Int), .int .u64 (q : Int), .int .u64 (mn : Int), .int .u64 (mx : Int)] (.slice ao k cap) O W))
    case first =>
      as_aux_lemma =>
        by_cases g : n = 0
        · have e1 : ((n : Int) == 0) = true := by simp [g]
          have G : Hid (n = 0) := g
          clear g
          go_wp2_with fail
          go_meet
          exact ⟨by simp [G.out], HR⟩
        · have g' : ¬ (n : Int) = 0 := by omega
          by_cases gg : n' = 0
          · have e2 : ((n' : Int) != 0) = false := by simp [gg]
            have GG : Hid (n' = 0) := gg
            clear gg
            go_wp2_with fail
            go_meet
            exact ⟨by simp [g, GG.out], HR⟩
          · have e1 : ((n : Int) == 0) = false := by simpa using g
            have e2 : ((n' : Int) != 0) = true := by simpa using gg
            go_wp2_with (go_at_call 142; with_reducible refine Calls.mono (HE0.out _) ?_; rintro e w4 ⟨rfl, rfl⟩)
            go_meet
            exact ⟨by simp [g, gg], HR⟩
    case rest =>
    obtain ⟨rfl, HR⟩ := hcut
    go_upto_if 45 with fail
    go_cut [45] from 46 (fun _ W => Hid (RQ B w w3 pk #[.int .i64 T1, .int .u64 T0, .slice ao k cap, .int .u64 (IntKind.u64.wrap ((n : Int) + (n' : Int))), .int .u64 (r : Int), .int .u64 (q : Int), .int .u64 (E0 : Int), .int .u64 (mx : Int)] (.slice ao k cap) O W))
    case first =>
      as_aux_lemma =>
        have hmt := MT.kept HMS.out HR.out.bel
        obtain ⟨-, -, -, -, -, -, -, -, -, -, -, -, -, -, b16, b17, -⟩ := hmt
        have hc6 := (eight_cells (hid_of HR.out.prt)).2.2.2.2.2.2.1
        have hf6 := hid_fr (hid_of HR.out.prt) 6
        obtain ⟨b, hb⟩ : ∃ b, (decide (n = 0) || (!decide (n' = 0) && d1)) = b := ⟨_, rfl⟩
        have HX : Hid (b = true → E0 = mn') := fun h => HF0.out.trans (ends_t (by rw [hd1]; exact hb.trans h))
        have HY : Hid (b = false → E0 = mn) := fun h => HF0.out.trans (ends_f (by rw [hd1]; exact hb.trans h))
        rw [hb]
        clear hb
        cases b
        · go_wp2_with fail
          go_meet
          have e := HY.out (by simp)
          rw [e]
          exact HR
        · go_wp2_with fail
          go_meet
          have e := HX.out (by simp)
          rw [e]
          exact rq_set6 hi3 HR
    case rest =>
    have HR := hcut
    clear hcut
    have hmt := MT.kept HMS.out HR.out.bel
    obtain ⟨-, -, -, a13, -, -, a16, a17, -, -, -, b13, -, -, b16, b17, -⟩ := hmt
    go_upto_region 4 with fail
    go_cut [63] from 49 (fun x W => x = .bool (decide (n = 0) || (!decide (n' = 0) && d2)) ∧ Hid (RQ B w w3 pk #[.int .i64 T1, .int .u64 T0, .slice ao k cap, .int .u64 (IntKind.u64.wrap ((n : Int) + (n' : Int))), .int .u64 (r : Int), .int .u64 (q : Int), .int .u64 (E0 : Int), .int .u64 (mx : Int)] (.slice ao k cap) O W))
    case first =>
      as_aux_lemma =>
        by_cases g : n = 0
        · have e1 : ((n : Int) == 0) = true := by simp [g]
          have G : Hid (n = 0) := g
          clear g
          go_wp2_with fail
          go_meet
          exact ⟨by simp [G.out], HR⟩
        · have g' : ¬ (n : Int) = 0 := by omega
          by_cases gg : n' = 0
          · have e2 : ((n' : Int) != 0) = false := by simp [gg]
            have GG : Hid (n' = 0) := gg
            clear gg
            go_wp2_with fail
            go_meet
            exact ⟨by simp [g, GG.out], HR⟩
          · have e1 : ((n : Int) == 0) = false := by simpa using g
            have e2 : ((n' : Int) != 0) = true := by simpa using gg
            go_wp2_with (go_at_call 142; with_reducible refine Calls.mono (HE1.out _) ?_; rintro e w4 ⟨rfl, rfl⟩)
            go_meet
            exact ⟨by simp [g, gg], HR⟩
    case rest =>
    obtain ⟨rfl, HR⟩ := hcut
    go_upto_if 63 with fail
    go_cut [63] from 64 (fun _ W => Hid (RQ B w w3 pk #[.int .i64 T1, .int .u64 T0, .slice ao k cap, .int .u64 (IntKind.u64.wrap ((n : Int) + (n' : Int))), .int .u64 (r : Int), .int .u64 (q : Int), .int .u64 (E0 : Int), .int .u64 (E1 : Int)] (.slice ao k cap) O W))
    case first =>
      as_aux_lemma =>
        have hmt := MT.kept HMS.out HR.out.bel
        obtain ⟨-, -, -, -, -, -, -, -, -, -, -, -, -, -, b16, b17, -⟩ := hmt
        have hc6 := (eight_cells (hid_of HR.out.prt)).2.2.2.2.2.2.2
        have hf6 := hid_fr (hid_of HR.out.prt) 7
        obtain ⟨b, hb⟩ : ∃ b, (decide (n = 0) || (!decide (n' = 0) && d2)) = b := ⟨_, rfl⟩
        have HX : Hid (b = true → E1 = mx') := fun h => HF1.out.trans (ends_t (by rw [hd2]; exact hb.trans h))
        have HY : Hid (b = false → E1 = mx) := fun h => HF1.out.trans (ends_f (by rw [hd2]; exact hb.trans h))
        rw [hb]
        clear hb
        cases b
        · go_wp2_with fail
          go_meet
          have e := HY.out (by simp)
          rw [e]
          exact HR
        · go_wp2_with fail
          go_meet
          have e := HX.out (by simp)
          rw [e]
          exact rq_set7 hi3 HR
    case rest =>
    have HR := hcut
    clear hcut
    obtain ⟨x0, x1, x2, x3, x4, x5, x6, x7⟩ := eight_cells (hid_of HR.out.prt)
    obtain ⟨y0, y1, y2, y3, y4, y5, y6, y7⟩ := eight_cells (hid_of HR.out.res)
    obtain ⟨t0, t1, t2, t3, t4, t5, t6, t7⟩ := eight_fr (hid_of HR.out.res)
    go_wp2_with fail
    rw [put8_eq]
    have HS := hid_of (set_eight (v0 := .int .i64 T1) (v1 := .int .u64 T0) (v2 := .slice ao k cap) (v3 := .int .u64 (IntKind.u64.wrap ((n : Int) + (n' : Int)))) (v4 := .int .u64 (r : Int)) (v5 := .int .u64 (q : Int)) (v6 := .int .u64 (E0 : Int)) (v7 := .int .u64 (E1 : Int)) HR.out.res)
    obtain ⟨z0, z1, z2, z3, z4, z5, z6, z7⟩ := eight_cells HS
    have HGF := rq_done hi3 HBB HB3 HR (.int .i64 T1) (.int .u64 T0) (.slice ao k cap) (.int .u64 (IntKind.u64.wrap ((n : Int) + (n' : Int)))) (.int .u64 (r : Int)) (.int .u64 (q : Int)) (.int .u64 (E0 : Int)) (.int .u64 (E1 : Int))
    simp [bodyPost, results, Tryz.results87, go_sem, z0, z1, z2, z3, z4, z5, z6, z7]
    exact ⟨_, O, by rw [HN.out], HI.out, HGF.out⟩
end Go.Proofs.YtaeapikhhbjlnaaGreatDoor
/- COUNTS: two rising rows as one. Own work of the verifier. -/
namespace Go.Proofs.YtaeapikhhbjlnaaGreatDoor
open Go.RowKit

/-- One more, where it is not nought. -/
def psh (O : List Cn) (x : Int) (n : Nat) : List Cn := if n = 0 then O else O ++ [(x, n)]
theorem key_off {E : List Cn} {x k : Int} (h : ∀ c ∈ E, c.1 = x) (hk : k ≠ x) : key E k = 0 := key_none (fun c hc e => hk (by rw [← e, h c hc]))
theorem mg_step {O P E : List Cn} {x : Int} {n : Nat} (h : IsMerge O P) (hlt : ∀ c ∈ O, c.1 < x) (hE : ∀ c ∈ E, c.1 = x) (hn : n = key E x % 18446744073709551616) : IsMerge (psh O x n) (P ++ E) := by
  have h0 : key O x = 0 := key_none (fun c hc e => by have := hlt c hc; omega)
  have hP := h.keys x
  rw [h0] at hP
  unfold psh
  by_cases hz : n = 0
  · rw [if_pos hz]
    refine ⟨h.rise, h.nz, fun k => ?_⟩
    rw [key_append]
    by_cases hk : k = x
    · subst hk
      rw [h0]
      omega
    · rw [key_off hE hk]
      exact h.keys k
  · rw [if_neg hz]
    refine ⟨?_, ?_, fun k => ?_⟩
    · refine List.pairwise_append.2 ⟨h.rise, List.pairwise_singleton _ _, fun a ha b hb => ?_⟩
      rw [List.mem_singleton] at hb
      subst hb
      exact hlt a ha
    · intro c hc
      rcases List.mem_append.1 hc with q | q
      · exact h.nz c q
      · rw [List.mem_singleton] at q
        subst q
        exact ⟨hz, by show n < _; omega⟩
    · rw [key_append, key_append]
      by_cases hk : k = x
      · subst hk
        rw [h0]
        simp only [key, if_true]
        omega
      · rw [key_off hE hk]
        have := h.keys k
        simp only [key]
        rw [if_neg (fun e => hk e.symm)]
        omega
theorem psh_lt {O : List Cn} {x y : Int} {n : Nat} (h : ∀ c ∈ O, c.1 < x) (hy : x < y) : ∀ c ∈ psh O x n, c.1 < y := fun c hc => by
  unfold psh at hc
  split at hc
  · have := h c hc; omega
  · rcases List.mem_append.1 hc with q | q
    · have := h c q; omega
    · rw [List.mem_singleton] at q; subst q; exact hy
/-- How far the two rows are one. -/
structure CtI (A B A' B' O : List Cn) : Prop where
  ex : ∃ PA PB, A = PA ++ A' ∧ B = PB ++ B' ∧ IsMerge O (PA ++ PB)
  la : ∀ d ∈ A', ∀ c ∈ O, c.1 < d.1
  lb : ∀ d ∈ B', ∀ c ∈ O, c.1 < d.1
  ra : Rise A'
  rb : Rise B'
theorem CtI.start {A B : List Cn} (hA : Rise A) (hB : Rise B) : CtI A B A B [] := ⟨⟨[], [], rfl, rfl, isMerge_nil⟩, (fun _ _ c hc => by cases hc), (fun _ _ c hc => by cases hc), hA, hB⟩
theorem CtI.fin {A B O : List Cn} (h : CtI A B [] [] O) : IsMerge O (A ++ B) := by
  obtain ⟨PA, PB, rfl, rfl, k⟩ := h.ex
  simpa using k
theorem rise_hd {c d : Cn} {L : List Cn} (h : Rise (c :: L)) (hd : d ∈ L) : c.1 < d.1 := (List.pairwise_cons.1 h).1 d hd
theorem CtI.left {A B A' B' O : List Cn} {c : Cn} (h : CtI A B (c :: A') B' O) (hc : c.2 < 18446744073709551616) (hb : ∀ d ∈ B', c.1 < d.1) : CtI A B A' B' (psh O c.1 c.2) := by
  obtain ⟨PA, PB, e1, e2, k⟩ := h.ex
  have hl := h.la c (by simp)
  have m := mg_step (E := [c]) (n := c.2) k hl (fun d hd => by rw [List.mem_singleton] at hd; rw [hd]) (by simp [key]; omega)
  refine ⟨⟨PA ++ [c], PB, by simp [e1], e2, m.perm ?_⟩, fun d hd => psh_lt hl (rise_hd h.ra hd), fun d hd => psh_lt hl (hb d hd), (List.pairwise_cons.1 h.ra).2, h.rb⟩
  rw [List.append_assoc, List.append_assoc]
  exact List.Perm.append_left PA List.perm_append_comm
theorem CtI.right {A B A' B' O : List Cn} {c : Cn} (h : CtI A B A' (c :: B') O) (hc : c.2 < 18446744073709551616) (ha : ∀ d ∈ A', c.1 < d.1) : CtI A B A' B' (psh O c.1 c.2) := by
  obtain ⟨PA, PB, e1, e2, k⟩ := h.ex
  have hl := h.lb c (by simp)
  have m := mg_step (E := [c]) (n := c.2) k hl (fun d hd => by rw [List.mem_singleton] at hd; rw [hd]) (by simp [key]; omega)
  exact ⟨⟨PA, PB ++ [c], e1, by simp [e2], by rw [← List.append_assoc]; exact m⟩, fun d hd => psh_lt hl (ha d hd), fun d hd => psh_lt hl (rise_hd h.rb hd), h.ra, (List.pairwise_cons.1 h.rb).2⟩
theorem CtI.both {A B A' B' O : List Cn} {c d : Cn} (h : CtI A B (c :: A') (d :: B') O) (he : c.1 = d.1) : CtI A B A' B' (psh O c.1 ((c.2 + d.2) % 18446744073709551616)) := by
  obtain ⟨PA, PB, e1, e2, k⟩ := h.ex
  have hl := h.la c (by simp)
  have m := mg_step (E := [c, d]) (n := (c.2 + d.2) % 18446744073709551616) k hl (fun x hx => by
    rcases List.mem_cons.1 hx with q | q
    · rw [q]
    · rw [List.mem_singleton] at q; rw [q, he]) (by simp [key, he])
  refine ⟨⟨PA ++ [c], PB ++ [d], by simp [e1], by simp [e2], m.perm ?_⟩, fun x hx => psh_lt hl (rise_hd h.ra hx), fun x hx => psh_lt hl (by rw [he]; exact rise_hd h.rb hx), (List.pairwise_cons.1 h.ra).2, (List.pairwise_cons.1 h.rb).2⟩
  rw [List.append_assoc, List.append_assoc]
  refine List.Perm.append_left PA ?_
  show (PB ++ ([c] ++ [d])).Perm ([c] ++ (PB ++ [d]))
  rw [← List.append_assoc, ← List.append_assoc]
  exact List.Perm.append_right [d] List.perm_append_comm
end Go.Proofs.YtaeapikhhbjlnaaGreatDoor
