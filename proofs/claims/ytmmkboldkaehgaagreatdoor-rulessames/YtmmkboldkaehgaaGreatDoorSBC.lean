/- RULES: SAME OF ANY TWO RULES (printed by gen_vn.py). Own work of the verifier. -/
import Derived.Test.YtmmkboldkaehgaaGreatDoorSBB
import Derived.Test.YtmmkboldkaehgaaGreatDoorSAE
import Derived.OwnWalk
import Derived.Laws.OwnMore
namespace Go.Proofs.YtmmkboldkaehgaaGreatDoor.Ru
open Go.RowKit Me

mutual
/-- Are two rules the same? -/
def smB : RT → RT → Bool
  | .mk k x nm lb w n d ar, .mk k' x' nm' lb' w' n' d' ar' => (k == k') && Re.sF x x' && (nm == nm') && decide (lb = lb') && (w == w') && (n == n') && (d == d') && smL ar ar'
def smL : List RT → List RT → Bool
  | [], br => br.isEmpty
  | _ :: _, [] => false
  | a :: ar, b :: br => smB a b && smL ar br
end
theorem smL_ne : ∀ (a b : List RT), a.length ≠ b.length → smL a b = false
  | [], [], h => absurd rfl h
  | [], _ :: _, _ => by rw [smL]; rfl
  | _ :: _, [], _ => by rw [smL]
  | a :: ar, b :: br, h => by rw [smL, smL_ne ar br (fun e => h (by simp [e])), Bool.and_false]
theorem smL_drop (ar br : List RT) (i : Nat) (h : i < ar.length) (k : i < br.length) : smL (ar.drop i) (br.drop i) = (smB ar[i] br[i] && smL (ar.drop (i + 1)) (br.drop (i + 1))) := by
  rw [List.drop_eq_getElem_cons h, List.drop_eq_getElem_cons k, smL]
theorem smL_end (ar br : List RT) (h : ar.length = br.length) : smL (ar.drop ar.length) (br.drop ar.length) = true := by
  rw [List.drop_length, h, List.drop_length, smL]; rfl
abbrev IsRc (c : Array Value) : Prop := ∃ k x nm la ln lc w n d aa an ac, c = rc k x nm (.slice la ln lc) w n d (.slice aa an ac)
set_option maxHeartbeats 2000000 in
set_option maxRecDepth 100000 in
theorem eqf_any (ar br : List RT) (aa : Option Addr) (ab ao ac : Nat) (ba : Option Addr) (bb bo bc : Nat) (w : World) (haa : ar ≠ [] → aa = some ⟨ab, ao, none⟩) (hba : br ≠ [] → ba = some ⟨bb, bo, none⟩) (hla : ar.length ≤ 9223372036854775807) (_hlb : br.length ≤ 9223372036854775807)
    (HC : ∀ i (hi : i < ar.length) (hj : i < br.length), ∃ u v : Array Value, IsRc u ∧ IsRc v ∧ (∀ W, Below w.heap.size w W → ∀ j (h : j < u.size), W.cell? ⟨ab, ao + i * 8 + j, none⟩ = some u[j]) ∧ (∀ W, Below w.heap.size w W → ∀ j (h : j < v.size), W.cell? ⟨bb, bo + i * 8 + j, none⟩ = some v[j]) ∧ ∀ W, Below w.heap.size w W → Calls Tryz.prog 7 #[.agg u, .agg v] W fun e w' => e = .returned (.bool (smB ar[i] br[i])) ∧ Below W.heap.size W w') :
    Calls Tryz.prog 17 #[.slice aa ar.length ac, .slice ba br.length bc, .func (.func 7) #[] #[]] w fun e w' => e = .returned (.bool (smL ar br)) ∧ Below w.heap.size w w' := by
  obtain ⟨Z, hZ⟩ : ∃ Z, Z = smL ar br := ⟨_, rfl⟩
  rw [← hZ]
  have sF := store_f
  have hla' : (ar.length : Int) ≤ 9223372036854775807 := by omega
  by_cases hlen : ar.length = br.length
  · have ht : ((ar.length : Int) != (br.length : Int)) = false := by rw [bne_eq_false_iff_eq]; omega
    have HZ0 : Hid (Z = smL (ar.drop 0) (br.drop 0)) := by show _ = _; rw [List.drop_zero, List.drop_zero]; exact hZ
    have HL := hid_of hlen
    have HA := hid_of haa
    have HB := hid_of hba
    have HCC := hid_of HC
    clear hZ hlen haa hba HC
    go_enter Tryz.func17, Tryz.ntmps17
    go_wp2_with fail
    go_loopw [17] (fun a W => ∃ i : Nat, i ≤ ar.length ∧ a = .int .i64 (i : Int) ∧ Hid (Below w.heap.size w W) ∧ Hid (Z = smL (ar.drop i) (br.drop i))) (fun a _ => ar.length - (intOf a).toNat)
    case atStart => exact ⟨0, by omega, rfl, Below.refl _ _, HZ0⟩
    case round =>
      clear HZ0
      obtain ⟨i, hi, rfl, HW, HZ⟩ := hrel
      by_cases hlt : i < ar.length
      · have hlt2 : i < br.length := by have := HL.out; omega
        obtain rfl := HA.out (by intro e; rw [e] at hlt; simp at hlt)
        obtain rfl := HB.out (by intro e; rw [e] at hlt2; simp at hlt2)
        have hlt' : (i : Int) < (ar.length : Int) := by omega
        have hlt2' : (i : Int) < (br.length : Int) := by omega
        obtain ⟨u, v, ⟨k, x, nm, la, ln, lc, wi, n, d, qa, qn, qc, rfl⟩, ⟨k', x', nm', la', ln', lc', wi', n', d', qa', qn', qc', rfl⟩, hu, hv, hcall⟩ := HCC.out i hlt hlt2
        have hz := HZ.out
        rw [smL_drop _ _ _ hlt hlt2] at hz
        have HZ1 := hid_of hz
        have hix1 := index_rl ab ao ar.length ac i (i : Int) rfl hlt
        have hix2 := index_rl bb bo br.length bc i (i : Int) rfl hlt2
        obtain ⟨p1, hp1⟩ : ∃ p, p = ao + i * 8 := ⟨_, rfl⟩
        obtain ⟨p2, hp2⟩ : ∃ p, p = bo + i * 8 := ⟨_, rfl⟩
        rw [← hp1] at hix1 hu
        rw [← hp2] at hix2 hv
        clear hp1 hp2
        have HU := hid_of hu
        have HV := hid_of hv
        have HCl := hid_of hcall
        clear hu hv hcall hz HCC
        generalize smB ar[i] br[i] = bt1 at *
        have cs := HU.out wr HW.out
        have x0 := cs 0 (by show 0 < 8; decide)
        have x1 := cs 1 (by show 1 < 8; decide)
        have x2 := cs 2 (by show 2 < 8; decide)
        have x3 := cs 3 (by show 3 < 8; decide)
        have x4 := cs 4 (by show 4 < 8; decide)
        have x5 := cs 5 (by show 5 < 8; decide)
        have x6 := cs 6 (by show 6 < 8; decide)
        have x7 := cs 7 (by show 7 < 8; decide)
        try simp only [Nat.add_zero] at x0
        clear cs
        have hbA := bel1 wr (.cells (rc k x nm (.slice la ln lc) wi n d (.slice qa qn qc)) 26)
        have hnA := new_1 wr (.cells (rc k x nm (.slice la ln lc) wi n d (.slice qa qn qc)) 26)
        have HWA := hid_of (bt HW.out hbA)
        have HNA := hid_of hnA
        clear hbA hnA
        go_upto_region 6 with fail
        generalize wr.alloc (.cells (rc k x nm (.slice la ln lc) wi n d (.slice qa qn qc)) 26) = W1 at *
        generalize wr.heap.size = g1 at *
        clear x0 x1 x2 x3 x4 x5 x6 x7
        have cs := HV.out W1 HWA.out
        have x0 := cs 0 (by show 0 < 8; decide)
        have x1 := cs 1 (by show 1 < 8; decide)
        have x2 := cs 2 (by show 2 < 8; decide)
        have x3 := cs 3 (by show 3 < 8; decide)
        have x4 := cs 4 (by show 4 < 8; decide)
        have x5 := cs 5 (by show 5 < 8; decide)
        have x6 := cs 6 (by show 6 < 8; decide)
        have x7 := cs 7 (by show 7 < 8; decide)
        try simp only [Nat.add_zero] at x0
        clear cs
        have hbB := bel1 W1 (.cells (rc k' x' nm' (.slice la' ln' lc') wi' n' d' (.slice qa' qn' qc')) 26)
        have hnB := new_1 W1 (.cells (rc k' x' nm' (.slice la' ln' lc') wi' n' d' (.slice qa' qn' qc')) 26)
        have HWB := hid_of (bt HWA.out hbB)
        have HNB := hid_of hnB
        have HNA2 := hid_of ((hbB.block _ (Array.getElem?_eq_some_iff.1 HNA.out).1).trans HNA.out)
        clear hbB hnB HNA
        go_upto_region 7 with fail
        generalize W1.alloc (.cells (rc k' x' nm' (.slice la' ln' lc') wi' n' d' (.slice qa' qn' qc')) 26) = W2 at *
        generalize W1.heap.size = g2 at *
        clear x0 x1 x2 x3 x4 x5 x6 x7
        obtain ⟨y0, y1, y2, y3, y4, y5, y6, y7⟩ := eight HNA2.out
        obtain ⟨z0, z1, z2, z3, z4, z5, z6, z7⟩ := eight HNB.out
        have D : La.HidC _ _ _ _ _ := HCl.out W2 HWB.out
        clear HCl HU HV HWA HNA2 HNB HW HZ
        go_wp2_with fail
        refine Calls.mono D.out ?_
        rintro e w3 ⟨rfl, hb3⟩
        have HW3 := hid_of (bt HWB.out hb3)
        clear D hb3 HWB y0 y1 y2 y3 y4 y5 y6 y7 z0 z1 z2 z3 z4 z5 z6 z7
        cases bt1
        · have HE : Hid (Z = false) := by show _ = _; rw [HZ1.out, Bool.false_and]
          clear HZ1
          as_aux_lemma =>
            go_wp2_with fail
            go_ret
            exact ⟨congrArg (fun b : Bool => Ending.returned (.bool b)) HE.out.symm, HW3.out⟩
        · have HE : Hid (Z = smL (ar.drop (i + 1)) (br.drop (i + 1))) := by show _ = _; rw [HZ1.out, Bool.true_and]
          clear HZ1
          as_aux_lemma =>
            go_wp2_with fail
            exact ⟨⟨i + 1, by omega, by go_num, HW3, HE⟩, by simp [intOf]; omega⟩
      · obtain rfl : i = ar.length := by omega
        have hlt' : ¬ (ar.length : Int) < (ar.length : Int) := by omega
        have HE : Hid (Z = true) := by show _ = _; rw [HZ.out, smL_end _ _ HL.out]
        clear HZ HCC HA HB
        as_aux_lemma =>
          go_wp2_with fail
          go_ret
          exact ⟨congrArg (fun b : Bool => Ending.returned (.bool b)) HE.out.symm, HW.out⟩
  · have ht : ((ar.length : Int) != (br.length : Int)) = true := by rw [bne_iff_ne]; omega
    have HE : Hid (Z = false) := by show _ = _; rw [hZ, smL_ne _ _ hlen]
    clear hlen hZ HC haa hba
    go_enter Tryz.func17, Tryz.ntmps17
    go_wp2_with fail
    go_ret
    exact ⟨congrArg (fun b : Bool => Ending.returned (.bool b)) HE.out.symm, Below.refl _ _⟩
end Go.Proofs.YtmmkboldkaehgaaGreatDoor.Ru
/- RULES: SAME OF ANY TWO RULES (printed by gen_vo.py). Own work of the verifier. -/
namespace Go.Proofs.YtmmkboldkaehgaaGreatDoor.Ru
open Go.RowKit Me

/-- Its number is a word. -/
def szX : RT → Prop
  | .mk _ x _ _ _ _ _ _ => x < 18446744073709551616
theorem bel_dn' (w : World) (n : Nat) : Below w.heap.size w (w.drewN n) := bel_dn (Below.refl _ _) n
set_option maxHeartbeats 4000000 in
set_option maxRecDepth 100000 in
/-- SAME OF ANY TWO RULES. -/
theorem csame_any : ∀ (t t2 : RT) (v v2 : Value) (w : World), RV 0 w t v → RV 0 w t2 v2 → (∀ s ∈ nds t, szX s) → (∀ s ∈ nds t2, szX s) →
    Calls Tryz.prog 7 #[v, v2] w fun e w' => e = .returned (.bool (smB t t2)) ∧ Below w.heap.size w w' := by
  refine RT.ind ?_
  intro k x nm lb wi n d ar ih t2 v v2 w hv hv2 hz hz2
  obtain ⟨k2, x2, nm2, lb2, wi2, n2, d2, ar2⟩ := t2
  have hx : x < 18446744073709551616 := hz _ (nds_self _)
  have hx2 : x2 < 18446744073709551616 := hz2 _ (nds_self _)
  have hch : ∀ i (hi : i < ar.length), ∀ s ∈ nds ar[i], szX s := fun i hi s hs => hz s (by
    unfold nds
    exact List.mem_cons_of_mem _ (ndsL_mem (List.getElem_mem hi) hs))
  have hch2 : ∀ i (hi : i < ar2.length), ∀ s ∈ nds ar2[i], szX s := fun i hi s hs => hz2 s (by
    unfold nds
    exact List.mem_cons_of_mem _ (ndsL_mem (List.getElem_mem hi) hs))
  unfold RV at hv hv2
  obtain ⟨lv, qa, ab, ao, qc, rfl, ⟨la, b1, o1, lc, rfl, hl1, hl2, hl3, hl4⟩, haa, hac, hac2, hrs⟩ := hv
  obtain ⟨lv2, qa2, ab2, ao2, qc2, rfl, ⟨la2, b2, o2, lc2, rfl, hm1, hm2, hm3, hm4⟩, hba, hbc, hbc2, hrs2⟩ := hv2
  obtain ⟨W0, hW0⟩ : ∃ W0, W0 = (w.alloc (.cells (rc k x nm (.slice la lb.length lc) wi n d (.slice qa ar.length qc)) 26)).alloc (.cells (rc k2 x2 nm2 (.slice la2 lb2.length lc2) wi2 n2 d2 (.slice qa2 ar2.length qc2)) 26) := ⟨_, rfl⟩
  have hb0 : Below w.heap.size w W0 := by rw [hW0]; exact La.bel2 w _ _
  have hn0 : W0.heap[w.heap.size]? = some (.cells (rc k x nm (.slice la lb.length lc) wi n d (.slice qa ar.length qc)) 26) := by rw [hW0]; exact heap_alloc2_old w _ _
  have hz0 : W0.heap[w.heap.size + 1]? = some (.cells (rc k2 x2 nm2 (.slice la2 lb2.length lc2) wi2 n2 d2 (.slice qa2 ar2.length qc2)) 26) := by
    rw [hW0]
    have := new_1 (w.alloc (.cells (rc k x nm (.slice la lb.length lc) wi n d (.slice qa ar.length qc)) 26)) (.cells (rc k2 x2 nm2 (.slice la2 lb2.length lc2) wi2 n2 d2 (.slice qa2 ar2.length qc2)) 26)
    rw [show (w.alloc (.cells (rc k x nm (.slice la lb.length lc) wi n d (.slice qa ar.length qc)) 26)).heap.size = w.heap.size + 1 by simp] at this
    exact this
  have HS : Hid (∀ W, Calls Tryz.prog 15 #[.float .f64 x, .float .f64 x2] W fun e w' => e = .returned (.bool (Re.sF x x2)) ∧ w' = W) := fun W => Re.same_any x x2 hx hx2 W
  have HE : Hid (∀ W, Below w.heap.size w W → Calls Tryz.prog 16 #[.slice la lb.length lc, .slice la2 lb2.length lc2] W fun e w' => e = .returned (.bool (decide (lb = lb2))) ∧ Below W.heap.size W w') := fun W hb => (La.csamel_any la b1 o1 lc lb (fun e => (hl1 e).1) la2 b2 o2 lc2 lb2 (fun e => (hm1 e).1) (by omega) W (hl4.below hb) (hm4.below hb)).mono (by
    rintro e w1 ⟨rfl, m, rfl⟩
    exact ⟨rfl, bel_dn' _ _⟩)
  have HF : Hid (∀ W, Below w.heap.size w W → Calls Tryz.prog 17 #[.slice qa ar.length qc, .slice qa2 ar2.length qc2, .func (.func 7) #[] #[]] W fun e w' => e = .returned (.bool (smL ar ar2)) ∧ Below W.heap.size W w') := fun W hb => eqf_any ar ar2 qa ab ao qc qa2 ab2 ao2 qc2 W (fun e => (haa e).1) (fun e => (hba e).1) (by omega) (by omega) (fun i hi hj => by
    obtain ⟨u, h1, h2, h3⟩ := hrs.at_ i hi
    obtain ⟨u2, g1, g2, g3⟩ := hrs2.at_ i hj
    refine ⟨u, u2, ?_, ?_, fun W1 h j hj => cellH' (bt hb h) (h3 j hj), fun W1 h j hj => cellH' (bt hb h) (g3 j hj), fun W1 h => ih ar[i] (List.getElem_mem hi) ar2[i] (.agg u) (.agg u2) W1 (h1.below (bt hb h)) (g1.below (bt hb h)) (hch i hi) (hch2 i hj)⟩
    · obtain ⟨k', x', nm', la', ln', lc', w', n', d', aa', an', ac', e⟩ := h1.form
      exact ⟨k', x', nm', la', ln', lc', w', n', d', aa', an', ac', by cases e; rfl⟩
    · obtain ⟨k', x', nm', la', ln', lc', w', n', d', aa', an', ac', e⟩ := g1.form
      exact ⟨k', x', nm', la', ln', lc', w', n', d', aa', an', ac', by cases e; rfl⟩)
  have hQ : smB (.mk k x nm lb wi n d ar) (.mk k2 x2 nm2 lb2 wi2 n2 d2 ar2) = ((k == k2) && Re.sF x x2 && (nm == nm2) && decide (lb = lb2) && (wi == wi2) && (n == n2) && (d == d2) && smL ar ar2) := by rw [smB]
  rw [hQ]
  have HW0 := hid_of hW0
  have Hb0 := hid_of hb0
  have HN0 := hid_of hn0
  have HZ0 := hid_of hz0
  clear hW0 hb0 hn0 hz0 hQ ih hch hch2 hz hz2 hx hx2 hrs hrs2 hl1 hl2 hl3 hl4 hm1 hm2 hm3 hm4 haa hba hac hac2 hbc hbc2
  obtain ⟨e0, he0⟩ : ∃ b, b = (k == k2) := ⟨_, rfl⟩
  obtain ⟨e2, he2⟩ : ∃ b, b = (nm == nm2) := ⟨_, rfl⟩
  obtain ⟨e4, he4⟩ : ∃ b, b = (wi == wi2) := ⟨_, rfl⟩
  obtain ⟨e5, he5⟩ : ∃ b, b = (n == n2) := ⟨_, rfl⟩
  obtain ⟨e6, he6⟩ : ∃ b, b = (d == d2) := ⟨_, rfl⟩
  rw [← he0, ← he2, ← he4, ← he5, ← he6]
  have H0 : Hid ((k == k2) = e0) := he0.symm
  have H2 : Hid ((nm == nm2) = e2) := he2.symm
  have H4 : Hid ((wi == wi2) = e4) := he4.symm
  have H5 : Hid ((n == n2) = e5) := he5.symm
  have H6 : Hid ((d == d2) = e6) := he6.symm
  clear he0 he2 he4 he5 he6
  generalize Re.sF x x2 = e1 at *
  generalize decide (lb = lb2) = e3 at *
  generalize smL ar ar2 = e7 at *
  obtain ⟨RR, hRR⟩ : ∃ b, b = (e0 && e1 && e2 && e3 && e4 && e5 && e6 && e7) := ⟨_, rfl⟩
  rw [← hRR]
  have HQ := hid_of hRR
  clear hRR
  go_enter Tryz.func7, Tryz.ntmps7
  go_upto_region 1 with fail
  rw [← HW0.out]
  clear HW0
  obtain ⟨y0, y1, y2, y3, y4, y5, y6, y7⟩ := eight HN0.out
  obtain ⟨z0, z1, z2, z3, z4, z5, z6, z7⟩ := eight HZ0.out
  clear y2 z2 y3 z3 y4 z4 y5 z5 y6 z6 y7 z7
  have he := H0.out
  cases e0
  · clear H2 H4 H5 H6 HS HE HF HN0 HZ0 y1 z1
    have HR : Hid (RR = false) := by
      show _ = _
      have := HQ.out
      simpa using this
    clear HQ
    go_wp2_with fail
    go_ret
    exact ⟨congrArg (fun b : Bool => Ending.returned (.bool b)) HR.out.symm, Hb0.out⟩
  · clear H0
    go_wp2_with fail
    refine Calls.mono (HS.out _) ?_
    rintro e w1 ⟨rfl, hw⟩
    subst hw
    clear HS he y0 z0 y1 z1
    cases e1
    · clear H2 H4 H5 H6 HE HF HN0 HZ0
      have HR : Hid (RR = false) := by
        show _ = _
        have := HQ.out
        simpa using this
      clear HQ
      go_wp2_with fail
      go_ret
      exact ⟨congrArg (fun b : Bool => Ending.returned (.bool b)) HR.out.symm, Hb0.out⟩
    ·
      obtain ⟨y0, y1, y2, y3, y4, y5, y6, y7⟩ := eight HN0.out
      obtain ⟨z0, z1, z2, z3, z4, z5, z6, z7⟩ := eight HZ0.out
      clear y0 z0 y1 z1 y4 z4 y5 z5 y6 z6 y7 z7
      have he := H2.out
      cases e2
      · clear H4 H5 H6 HE HF HN0 HZ0 y3 z3
        have HR : Hid (RR = false) := by
          show _ = _
          have := HQ.out
          simpa using this
        clear HQ
        go_wp2_with fail
        go_ret
        exact ⟨congrArg (fun b : Bool => Ending.returned (.bool b)) HR.out.symm, Hb0.out⟩
      · clear H2
        go_wp2_with fail
        refine Calls.mono (HE.out _ Hb0.out) ?_
        rintro e w1 ⟨rfl, hb1⟩
        have hn1 := (hb1.block _ (Array.getElem?_eq_some_iff.1 HN0.out).1).trans HN0.out
        have hz1 := (hb1.block _ (Array.getElem?_eq_some_iff.1 HZ0.out).1).trans HZ0.out
        have HB1 := hid_of (bt Hb0.out hb1)
        clear HE hb1 HN0 HZ0 Hb0 he y2 z2 y3 z3
        cases e3
        · clear H4 H5 H6 HF hn1 hz1
          have HR : Hid (RR = false) := by
            show _ = _
            have := HQ.out
            simpa using this
          clear HQ
          go_wp2_with fail
          go_ret
          exact ⟨congrArg (fun b : Bool => Ending.returned (.bool b)) HR.out.symm, HB1.out⟩
        ·
          obtain ⟨y0, y1, y2, y3, y4, y5, y6, y7⟩ := eight hn1
          obtain ⟨z0, z1, z2, z3, z4, z5, z6, z7⟩ := eight hz1
          clear y0 z0 y1 z1 y2 z2 y3 z3
          clear hn1 hz1
          have h4 := H4.out
          cases e4
          · clear H5 H6 HF y5 z5 y6 z6 y7 z7
            have HR : Hid (RR = false) := by
              show _ = _
              have := HQ.out
              simpa using this
            clear HQ
            go_wp2_with fail
            go_ret
            exact ⟨congrArg (fun b : Bool => Ending.returned (.bool b)) HR.out.symm, HB1.out⟩
          · clear H4
            have h5 := H5.out
            cases e5
            · clear H6 HF y6 z6 y7 z7
              have HR : Hid (RR = false) := by
                show _ = _
                have := HQ.out
                simpa using this
              clear HQ
              go_wp2_with fail
              go_ret
              exact ⟨congrArg (fun b : Bool => Ending.returned (.bool b)) HR.out.symm, HB1.out⟩
            · clear H5
              have h6 := H6.out
              cases e6
              · clear HF y7 z7
                have HR : Hid (RR = false) := by
                  show _ = _
                  have := HQ.out
                  simpa using this
                clear HQ
                go_wp2_with fail
                go_ret
                exact ⟨congrArg (fun b : Bool => Ending.returned (.bool b)) HR.out.symm, HB1.out⟩
              · clear H6
                go_wp2_with fail
                refine Calls.mono (HF.out _ HB1.out) ?_
                rintro e w2 ⟨rfl, hb2⟩
                have HB2 := hid_of (bt HB1.out hb2)
                clear HF hb2 HB1 y4 y5 y6 y7 z4 z5 z6 z7 h4 h5 h6
                have HR : Hid (RR = e7) := by
                  show _ = _
                  have := HQ.out
                  simpa using this
                clear HQ
                go_wp2_with fail
                go_ret
                exact ⟨congrArg (fun b : Bool => Ending.returned (.bool b)) HR.out.symm, HB2.out⟩
end Go.Proofs.YtmmkboldkaehgaaGreatDoor.Ru
/- RULES: the law's left, small. Own work of the verifier. -/
namespace Go.Proofs.YtmmkboldkaehgaaGreatDoor.Ru
open Go.RowKit Me

mutual
/-- How many of n parts a rule leaves. -/
def lfF : RT → Int → Int
  | .mk _ _ _ lb _ _ _ ar, n => lfL ar (n - (1 + (lb.length : Int)))
def lfL : List RT → Int → Int
  | [], n => n
  | a :: ar, n => if 0 ≤ n then lfL ar (lfF a n) else n
end
theorem lfL_le' : ∀ (ar : List RT) (n : Int), (∀ a ∈ ar, ∀ n, lfF a n ≤ n) → lfL ar n ≤ n
  | [], n, _ => by unfold lfL; omega
  | a :: ar, n, h => by
    unfold lfL
    split
    · have := lfL_le' ar (lfF a n) (fun b hb => h b (List.mem_cons_of_mem _ hb))
      have := h a List.mem_cons_self n
      omega
    · omega
theorem lfF_le : ∀ (t : RT) (n : Int), lfF t n ≤ n := by
  refine RT.ind ?_
  intro k x nm lb w n d ar ih m
  unfold lfF
  have := lfL_le' ar (m - (1 + (lb.length : Int))) (fun a ha n => ih a ha n)
  omega
/-- Its labels are no more than memory holds. -/
def szB : RT → Prop
  | .mk _ _ _ lb _ _ _ _ => lb.length ≤ 140737488355328
theorem lfL_ge' : ∀ (ar : List RT) (n : Int), (∀ a ∈ ar, ∀ n : Int, 0 ≤ n → -140737488355330 ≤ lfF a n) → -140737488355330 ≤ n → -140737488355330 ≤ lfL ar n
  | [], n, _, h => by unfold lfL; exact h
  | a :: ar, n, h, hn => by
    unfold lfL
    split
    · rename_i k
      exact lfL_ge' ar _ (fun b hb => h b (List.mem_cons_of_mem _ hb)) (h a List.mem_cons_self n k)
    · exact hn
theorem lfF_ge : ∀ (t : RT), (∀ s ∈ nds t, szB s) → ∀ (n : Int), 0 ≤ n → -140737488355330 ≤ lfF t n := by
  refine RT.ind ?_
  intro k x nm lb w n d ar ih hz m hm
  have h0 : lb.length ≤ 140737488355328 := hz _ (nds_self _)
  unfold lfF
  exact lfL_ge' ar _ (fun a ha n hn => ih a ha (fun s hs => hz s (by
    unfold nds
    exact List.mem_cons_of_mem _ (ndsL_mem ha hs))) n hn) (by omega)
theorem lfL_drop (ar : List RT) (i : Nat) (h : i < ar.length) (n : Int) (hn : 0 ≤ n) : lfL (ar.drop i) n = lfL (ar.drop (i + 1)) (lfF ar[i] n) := by
  rw [List.drop_eq_getElem_cons h, lfL, if_pos hn]
theorem lfL_neg (ar : List RT) (n : Int) (hn : ¬ 0 ≤ n) : lfL ar n = n := by
  cases ar with
  | nil => rw [lfL]
  | cons a ar => rw [lfL, if_neg hn]
set_option maxHeartbeats 4000000 in
set_option maxRecDepth 100000 in
theorem left_any : ∀ (t : RT) (v : Value) (w : World) (m : Int), RV 0 w t v → (∀ s ∈ nds t, szB s) → 0 ≤ m → m ≤ 32768 →
    Calls Tryz.prog 14 #[v, .int .i64 m] w fun e w' => e = .returned (.int .i64 (lfF t m)) ∧ Below w.heap.size w w' := by
  refine RT.ind ?_
  intro k x nm lb wi n d ar ih v w m hv hz hm0 hm1
  have hlb : lb.length ≤ 140737488355328 := hz _ (nds_self _)
  have hch : ∀ i (hi : i < ar.length), ∀ s ∈ nds ar[i], szB s := fun i hi s hs => hz s (by
    unfold nds
    exact List.mem_cons_of_mem _ (ndsL_mem (List.getElem_mem hi) hs))
  unfold RV at hv
  obtain ⟨lv, qa, ab, ao, qc, rfl, ⟨la, b1, o1, lc, rfl, hl1, hl2, hl3, hl4⟩, haa, hac, hac2, hrs⟩ := hv
  obtain ⟨W0, hW0⟩ : ∃ W0, W0 = w.alloc (.cells (rc k x nm (.slice la lb.length lc) wi n d (.slice qa ar.length qc)) 26) := ⟨_, rfl⟩
  have hb0 : Below w.heap.size w W0 := by rw [hW0]; exact bel1 w _
  have hn0 : W0.heap[w.heap.size]? = some (.cells (rc k x nm (.slice la lb.length lc) wi n d (.slice qa ar.length qc)) 26) := by rw [hW0]; exact new_1 w _
  have HC : Hid (∀ i (hi : i < ar.length), ∃ c : Array Value, IsRc c ∧ (∀ W, Below w.heap.size w W → ∀ j (hj : j < c.size), W.cell? ⟨ab, ao + i * 8 + j, none⟩ = some c[j]) ∧ (∀ W (m : Int), Below w.heap.size w W → 0 ≤ m → m ≤ 32768 → Calls Tryz.prog 14 #[.agg c, .int .i64 m] W fun e w' => e = .returned (.int .i64 (lfF ar[i] m)) ∧ Below W.heap.size W w')) := fun i hi => by
    obtain ⟨c, h1, h2, h3⟩ := hrs.at_ i hi
    refine ⟨c, ?_, fun W hb j hj => cellH' hb (h3 j hj), fun W m hb q0 q1 => ih ar[i] (List.getElem_mem hi) (.agg c) W m (h1.below hb) (hch i hi) q0 q1⟩
    obtain ⟨k', x', nm', la', ln', lc', w', n', d', aa', an', ac', e⟩ := h1.form
    exact ⟨k', x', nm', la', ln', lc', w', n', d', aa', an', ac', by cases e; rfl⟩
  have HLo : Hid (∀ i (hi : i < ar.length) (m : Int), 0 ≤ m → lfF ar[i] m ≤ m ∧ -140737488355330 ≤ lfF ar[i] m) := fun i hi m q => ⟨lfF_le _ _, lfF_ge _ (hch i hi) m q⟩
  obtain ⟨m1, hm1'⟩ : ∃ m1, m1 = m - (1 + (lb.length : Int)) := ⟨_, rfl⟩
  obtain ⟨Z, hZ⟩ : ∃ Z, Z = lfF (.mk k x nm lb wi n d ar) m := ⟨_, rfl⟩
  have HZ0 : Hid (Z = lfL (ar.drop 0) m1) := by show _ = _; rw [hZ, List.drop_zero, lfF, hm1']
  rw [← hZ]
  have w1 : IntKind.i64.wrap (1 + (lb.length : Int)) = 1 + (lb.length : Int) := by rw [IntKind.wrap_i64]; omega
  have w2 : IntKind.i64.wrap (m - (1 + (lb.length : Int))) = m1 := by rw [IntKind.wrap_i64]; omega
  have hm1b : m1 ≤ 32768 ∧ -140737488355330 ≤ m1 := by omega
  have HB0 := hid_of hb0
  have HN0 := hid_of hn0
  have HW0 := hid_of hW0
  have HA := hid_of haa
  have hal : (ar.length : Int) ≤ 9223372036854775807 := by omega
  have Hm1 := hid_of hm1b
  have sF := store_f
  clear ih hz hch hl1 hl2 hl3 hl4 haa hac2 hrs hW0 hb0 hn0 hZ hm1' hm1b hlb
  go_enter Tryz.func14, Tryz.ntmps14
  go_upto_region 1 with fail
  rw [← HW0.out]
  obtain ⟨y0, y1, y2, y3, y4, y5, y6, y7⟩ := eight HN0.out
  go_upto_region 2 with fail
  clear y0 y1 y2 y3 y4 y5 y6 y7 w1 w2 hm0 hm1
  go_wp2_with fail
  go_loopw [1, 5] (fun q a W => ∃ (i : Nat) (z : Int), i ≤ ar.length ∧ q = .int .i64 z ∧ a = .int .i64 (i : Int) ∧ Hid (z ≤ 32768 ∧ -140737488355330 ≤ z) ∧ Hid (Below w.heap.size w W) ∧ Hid (W.heap[w.heap.size]? = some (.cells (rc k x nm (.slice la lb.length lc) wi n d (.slice qa ar.length qc)) 26)) ∧ Hid (Z = lfL (ar.drop i) z)) (fun _ a _ => ar.length - (intOf a).toNat)
  case atStart => exact ⟨0, m1, by omega, rfl, rfl, Hm1, HB0, HN0, HZ0⟩
  case round =>
    clear HB0 HN0 HW0 HZ0 Hm1
    obtain ⟨i, z, hi, rfl, rfl, Hz, HB, HN, HZ⟩ := hrel
    obtain ⟨y0, y1, y2, y3, y4, y5, y6, y7⟩ := eight HN.out
    clear y0 y1 y2 y3 y4 y5 y6
    by_cases hlt : i < ar.length
    · have hlt' : (i : Int) < (ar.length : Int) := by omega
      by_cases hz0 : 0 ≤ z
      · obtain ⟨rfl, -⟩ := HA.out (fun e => by rw [e] at hlt; simp at hlt)
        obtain ⟨c, ⟨k', x', nm', la', ln', lc', w', n', d', aa', an', ac', rfl⟩, hcs, hcall⟩ := HC.out i hlt
        obtain ⟨q1, q2⟩ := HLo.out i hlt z hz0
        have hz := HZ.out
        rw [lfL_drop _ _ hlt z hz0] at hz
        have HZ1 := hid_of hz
        have D : La.HidC _ _ _ _ _ := hcall wr z HB.out hz0 Hz.out.1
        have hix := index_rl ab ao ar.length qc i (i : Int) rfl hlt
        obtain ⟨p1, hp1⟩ : ∃ p, p = ao + i * 8 := ⟨_, rfl⟩
        rw [← hp1] at hix hcs
        clear hp1 hcall hz HZ HC HLo
        have cs := hcs wr HB.out
        have x0 := cs 0 (by show 0 < 8; decide)
        have x1 := cs 1 (by show 1 < 8; decide)
        have x2 := cs 2 (by show 2 < 8; decide)
        have x3 := cs 3 (by show 3 < 8; decide)
        have x4 := cs 4 (by show 4 < 8; decide)
        have x5 := cs 5 (by show 5 < 8; decide)
        have x6 := cs 6 (by show 6 < 8; decide)
        have x7 := cs 7 (by show 7 < 8; decide)
        try simp only [Nat.add_zero] at x0
        clear cs hcs
        have Hq : Hid (lfF ar[i] z ≤ 32768 ∧ -140737488355330 ≤ lfF ar[i] z) := ⟨by have := Hz.out.1; omega, q2⟩
        clear q1 q2 Hz
        generalize lfF ar[i] z = z1 at *
        go_wp2_with fail
        refine Calls.mono D.out ?_
        rintro e w3 ⟨rfl, hb3⟩
        have HB3 := hid_of (bt HB.out hb3)
        have HN3 := hid_of ((hb3.block _ (Array.getElem?_eq_some_iff.1 HN.out).1).trans HN.out)
        clear D hb3 HB HN y7 x0 x1 x2 x3 x4 x5 x6 x7 hix
        go_wp2_with fail
        exact ⟨⟨i + 1, z1, by omega, rfl, by go_num, Hq, HB3, HN3, HZ1⟩, by simp [intOf]; omega⟩
      · have HE : Hid (Z = z) := by show _ = _; rw [HZ.out, lfL_neg _ _ hz0]
        clear HZ HC HLo
        go_wp2_with fail
        go_ret
        exact ⟨congrArg (fun b : Int => Ending.returned (.int .i64 b)) HE.out.symm, HB.out⟩
    · have hlt' : ¬ (i : Int) < (ar.length : Int) := by omega
      have HE : Hid (Z = z) := by show _ = _; rw [HZ.out, List.drop_eq_nil_of_le (by omega), lfL]
      clear HZ HC HLo
      go_wp2_with fail
      go_ret
      exact ⟨congrArg (fun b : Int => Ending.returned (.int .i64 b)) HE.out.symm, HB.out⟩
set_option maxHeartbeats 1000000 in
theorem small_any (t : RT) (v : Value) (w : World) (hv : RV 0 w t v) (hz : ∀ s ∈ nds t, szB s) :
    Calls Tryz.prog 5 #[v] w fun e w' => e = .returned (.bool (decide (0 ≤ lfF t 32768))) ∧ Below w.heap.size w w' := by
  have HL : Hid (∀ W, Below w.heap.size w W → Calls Tryz.prog 14 #[v, .int .i64 32768] W fun e w' => e = .returned (.int .i64 (lfF t 32768)) ∧ Below W.heap.size W w') := fun W hb => left_any t v W 32768 (hv.below hb) hz (by decide) (by decide)
  obtain ⟨k, x, nm, la, ln, lc, wi, n, d, aa, an, ac, rfl⟩ := hv.form
  clear hv hz
  generalize lfF t 32768 = z at *
  go_enter Tryz.func5, Tryz.ntmps5
  have hb0 := bel1 w (.cells (rc k x nm (.slice la ln lc) wi n d (.slice aa an ac)) 26)
  go_wp2_with fail
  refine Calls.mono (HL.out _ hb0) ?_
  rintro e w1 ⟨rfl, hb1⟩
  have HB1 := hid_of (bt hb0 hb1)
  clear hb0 hb1 HL
  go_wp2_with fail
  go_ret
  exact ⟨rfl, HB1.out⟩
end Go.Proofs.YtmmkboldkaehgaaGreatDoor.Ru
/- RULES: the law's of: a rule in memory of its own. Own work of the verifier. -/
namespace Go.Proofs.YtmmkboldkaehgaaGreatDoor.Ru
open Go.RowKit Me

mutual
/-- A rule that is handed in: a list without an address has no room. -/
def RVh (W : World) : RT → Value → Prop
  | .mk k x nm lb w n d ar, v => ∃ la lc ao b o cap, v = rx k x nm (.slice la lb.length lc) w n d (.slice ao ar.length cap) ∧ LbV 0 W (.slice la lb.length lc) lb ∧ (la = none → lc = 0) ∧ (ar ≠ [] → ao = some ⟨b, o, none⟩) ∧ ar.length ≤ cap ∧ cap ≤ 9223372036854775807 ∧ RVhs W b o ar
def RVhs (W : World) (b : Nat) : Nat → List RT → Prop
  | _, [] => True
  | o, t :: ar => (∃ u : Array Value, RVh W t (.agg u) ∧ u.size = 8 ∧ ∀ j (h : j < u.size), W.cell? ⟨b, o + j, none⟩ = some u[j]) ∧ RVhs W b (o + 8) ar
end
theorem RVhs.rv {W : World} {b : Nat} : ∀ (ar : List RT) (o : Nat), (∀ a ∈ ar, ∀ v, RVh W a v → RV 0 W a v) → RVhs W b o ar → RVs 0 W b o ar
  | [], _, _, _ => by unfold RVs; trivial
  | t :: ar, o, h, hs => by
    unfold RVhs at hs
    unfold RVs
    obtain ⟨⟨u, h1, h2, h3⟩, h4⟩ := hs
    exact ⟨⟨u, h t List.mem_cons_self _ h1, h2, h3⟩, RVhs.rv ar (o + 8) (fun a ha => h a (List.mem_cons_of_mem _ ha)) h4⟩
theorem RVh.rv {W : World} : ∀ (t : RT) (v : Value), RVh W t v → RV 0 W t v := by
  refine RT.ind ?_
  intro k x nm lb w n d ar ih v h
  unfold RVh at h
  unfold RV
  obtain ⟨la, lc, ao, b, o, cap, rfl, h1, -, h2, h3, h4, h5⟩ := h
  exact ⟨_, ao, b, o, cap, rfl, h1, fun e => ⟨h2 e, Nat.zero_le _⟩, h3, h4, RVhs.rv ar o (fun a ha v hv => ih a ha v hv) h5⟩
theorem RVhs.below {W W1 : World} {b : Nat} (hb : Below W.heap.size W W1) : ∀ (ar : List RT) (o : Nat), (∀ a ∈ ar, ∀ v, RVh W a v → RVh W1 a v) → RVhs W b o ar → RVhs W1 b o ar
  | [], _, _, _ => by unfold RVhs; trivial
  | t :: ar, o, h, hs => by
    unfold RVhs at hs ⊢
    obtain ⟨⟨u, h1, h2, h3⟩, h4⟩ := hs
    exact ⟨⟨u, h t List.mem_cons_self _ h1, h2, fun j hj => cellH' hb (h3 j hj)⟩, RVhs.below hb ar (o + 8) (fun a ha => h a (List.mem_cons_of_mem _ ha)) h4⟩
theorem RVh.below {W W1 : World} (hb : Below W.heap.size W W1) : ∀ (t : RT) (v : Value), RVh W t v → RVh W1 t v := by
  refine RT.ind ?_
  intro k x nm lb w n d ar ih v h
  unfold RVh at h ⊢
  obtain ⟨la, lc, ao, b, o, cap, rfl, h1, h0, h2, h3, h4, h5⟩ := h
  exact ⟨la, lc, ao, b, o, cap, rfl, h1.below hb, h0, h2, h3, h4, RVhs.below hb ar o (fun a ha v hv => ih a ha v hv) h5⟩
theorem RVhs.at_ {W : World} {b : Nat} : ∀ {ar : List RT} {o : Nat}, RVhs W b o ar → ∀ i (hi : i < ar.length), ∃ u : Array Value, RVh W ar[i] (.agg u) ∧ u.size = 8 ∧ ∀ j (h : j < u.size), W.cell? ⟨b, o + i * 8 + j, none⟩ = some u[j]
  | [], _, _, i, hi => by simp at hi
  | t :: ar, o, h, i, hi => by
    unfold RVhs at h
    obtain ⟨⟨u, h1, h2, h3⟩, h4⟩ := h
    cases i with
    | zero => exact ⟨u, h1, h2, fun j hj => by rw [Nat.zero_mul, Nat.add_zero]; exact h3 j hj⟩
    | succ i =>
      obtain ⟨u', k1, k2, k3⟩ := RVhs.at_ h4 i (by simpa using hi)
      exact ⟨u', k1, k2, fun j hj => by rw [show o + (i + 1) * 8 + j = o + 8 + i * 8 + j by omega]; exact k3 j hj⟩
theorem flL_one (L : List La.Lb) : ∀ u ∈ La.flL L, u.oneCell' = true := by
  induction L with
  | nil => intro u hu; cases hu
  | cons c L ih =>
    intro u hu
    simp only [La.flL, List.mem_cons] at hu
    rcases hu with rfl | rfl | h
    · rfl
    · rfl
    · exact ih u h
theorem rowL_cells {w : World} {b o : Nat} {L : List La.Lb} (h : La.RowL w b o L) (j : Nat) (u : Value) (hu : (La.flL L)[j]? = some u) : w.cell? ((⟨b, o, none⟩ : Addr).add j) = some u := by
  have hj : j < (La.flL L).length := by
    rcases Nat.lt_or_ge j (La.flL L).length with c | c
    · exact c
    · rw [List.getElem?_eq_none c] at hu; cases hu
  rw [La.flL_length] at hj
  have hi : j / 2 < L.length := by omega
  obtain ⟨g1, g2⟩ := La.flL_get L (j / 2) hi
  obtain ⟨h1, h2⟩ := h (j / 2) hi
  rw [Addr.add_lit]
  rcases Nat.mod_two_eq_zero_or_one j with e | e
  · rw [show j / 2 * 2 = j by omega] at g1 h1
    rw [g1] at hu
    cases hu
    exact h1
  · rw [show j / 2 * 2 + 1 = j by omega] at g2
    rw [show o + j / 2 * 2 + 1 = o + j by omega] at h2
    rw [g2] at hu
    cases hu
    exact h2
theorem infoRule : (Tryz.prog.info? 26).map (fun i => (i.zero, i.size, i.bytes)) = some (some (.agg (rc 0 0 [] (.slice none 0 0) 0 0 0 (.slice none 0 0))), 8, 104) := by kernel_rfl
theorem bel_gr {B g : Nat} {a b : World} (h : a.grownBy b (some g)) (hB : B ≤ g) (hs : B ≤ a.heap.size) : Below B a b := ⟨h.os, h.tape, h.output, h.size, fun k hk => h.block k (by omega) (by intro e; cases e; omega)⟩
theorem ex_gr {g : Nat} {a b : World} (h : a.grownBy b (some g)) : La.Ex g a b := ⟨h.os, h.tape, h.output, h.size, fun k hk hn => h.block k hk (by intro e; cases e; exact hn rfl)⟩
theorem bel_g0 {a b : World} (h : a.grownBy b none) : Below a.heap.size a b := ⟨h.os, h.tape, h.output, h.size, fun k hk => h.block k hk (by simp)⟩
/-- How far of has come. -/
structure OfI (w : World) (c : Array Value) (ln n ga : Nat) (ar : List RT) (i : Nat) (W : World) : Prop where
  b : Below w.heap.size w W
  g1 : W.heap[w.heap.size]? = some (.cells c 26)
  g2 : Z8 (w.heap.size + 1) W
  lr : W.ownsRow (w.heap.size + 2) 49 2 (.slice (some ⟨w.heap.size + 2, 0, none⟩) 0 (ln + 2)) 0 []
  ro : ∃ xs : List Value, xs.length = i * 8 ∧ W.ownsRow (w.heap.size + 2) 26 8 (.slice (some ⟨ga, 0, none⟩) i (n + 2)) i xs ∧ ∀ j (h : j < ar.length), j < i → ∃ u : Array Value, u.size = 8 ∧ (∀ q (k : q < u.size), xs[j * 8 + q]? = some u[q]) ∧ RV (ga + 1) W ar[j] (.agg u)
  gs : w.heap.size + 3 ≤ ga
  sz : ga + 1 ≤ W.heap.size
theorem OfI.below {w : World} {c : Array Value} {ln n ga : Nat} {ar : List RT} {i : Nat} {W W1 : World} (h : OfI w c ln n ga ar i W) (hb : Below W.heap.size W W1) : OfI w c ln n ga ar i W1 := by
  obtain ⟨xs, h1, h2, h3⟩ := h.ro
  exact ⟨bt h.b hb, (hb.block _ (Array.getElem?_eq_some_iff.1 h.g1).1).trans h.g1, h.g2.below hb, own_belG h.lr hb, ⟨xs, h1, own_belG h2 hb, fun j hj hi => by
    obtain ⟨u, k1, k2, k3⟩ := h3 j hj hi
    exact ⟨u, k1, k2, k3.below hb⟩⟩, h.gs, by have := h.sz; have := hb.size; omega⟩
theorem OfI.push {w : World} {c : Array Value} {ln n ga : Nat} {ar : List RT} {i : Nat} {W W1 : World} {xs : List Value} {u : Array Value} (h : OfI w c ln n ga ar i W) (hi : i < ar.length) (hx : xs.length = i * 8) (h0 : W.ownsRow (w.heap.size + 2) 26 8 (.slice (some ⟨ga, 0, none⟩) i (n + 2)) i xs)
    (h3 : ∀ j (h : j < ar.length), j < i → ∃ u : Array Value, u.size = 8 ∧ (∀ q (k : q < u.size), xs[j * 8 + q]? = some u[q]) ∧ RV (ga + 1) W ar[j] (.agg u))
    (hu : u.size = 8) (hv : RV (ga + 1) W ar[i] (.agg u)) (ho : W1.ownsRow (w.heap.size + 2) 26 8 (.slice (some ⟨ga, 0, none⟩) (i + 1) (n + 2)) (i + 1) (xs ++ u.toList)) (hg : W.grownBy W1 (some ga)) : OfI w c ln n ga ar (i + 1) W1 := by
  have hx8 := ex_gr hg
  have hgs := h.gs
  have h8 : u.toList.length = 8 := by rw [Array.length_toList, hu]
  have hxl : (xs ++ u.toList).length = (i + 1) * 8 := by rw [List.length_append, hx, h8]; omega
  refine ⟨h.b.trans (bel_gr hg (by omega) (by have := h.sz; omega)), (hg.block _ (Array.getElem?_eq_some_iff.1 h.g1).1 (by intro e; have := Option.some.inj e; omega)).trans h.g1, (hg.block _ h.g2.lt (by intro e; have := Option.some.inj e; omega)).trans h.g2, World.ownsRow.kept h.lr hg (own_apart h.lr h0 (by decide)), ⟨xs ++ u.toList, hxl, ho, fun j hj hji => ?_⟩, h.gs, by have := h.sz; have := hg.size; omega⟩
  by_cases e : j < i
  · obtain ⟨u', k1, k2, k3⟩ := h3 j hj e
    exact ⟨u', k1, fun q k => by rw [List.getElem?_append_left (by rw [hx]; omega)]; exact k2 q k, k3.ex hx8 (by omega)⟩
  · obtain rfl : j = i := by omega
    exact ⟨u, hu, fun q k => by
      rw [List.getElem?_append_right (by rw [hx]; omega), hx, show j * 8 + q - j * 8 = q by omega, Array.getElem?_toList]
      exact Array.getElem?_eq_getElem k, hv.ex hx8 (by omega)⟩
/-- A row of rules in memory, out of its cells. -/
theorem rvs_of {B b : Nat} {W : World} : ∀ (ar : List RT) (o : Nat), (∀ j (h : j < ar.length), ∃ u : Array Value, u.size = 8 ∧ (∀ q (k : q < u.size), W.cell? ⟨b, o + j * 8 + q, none⟩ = some u[q]) ∧ RV B W ar[j] (.agg u)) → RVs B W b o ar
  | [], _, _ => by unfold RVs; trivial
  | t :: ar, o, h => by
    unfold RVs
    obtain ⟨u, h1, h2, h3⟩ := h 0 (by simp)
    refine ⟨⟨u, h3, h1, fun j hj => by have := h2 j hj; rw [Nat.zero_mul, Nat.add_zero] at this; exact this⟩, rvs_of ar (o + 8) fun j hj => ?_⟩
    obtain ⟨u', k1, k2, k3⟩ := h (j + 1) (by simpa using hj)
    exact ⟨u', k1, fun q k => by rw [show o + 8 + j * 8 + q = o + (j + 1) * 8 + q by omega]; exact k2 q k, k3⟩
theorem own_cellq {W : World} {B n cap g : Nat} {e : TypeId} {xs : List Value} {s : Nat} (h : W.ownsRow B e s (.slice (some ⟨g, 0, none⟩) n cap) n xs) (j : Nat) (u : Value) (hu : xs[j]? = some u) : W.cell? ⟨g, j, none⟩ = some u := by
  have hj : j < xs.length := by
    rcases Nat.lt_or_ge j xs.length with c | c
    · exact c
    · rw [List.getElem?_eq_none c] at hu; cases hu
  rcases h.2 with ⟨k, _⟩ | ⟨g', cap', cur, hv, hg, hh, h3, h4, h5, h6⟩
  · cases k
  · cases hv
    rw [← h6, List.getElem?_take] at hu
    split at hu
    · simp only [World.cell?, hh]
      rw [Array.getElem?_toList] at hu
      exact hu
    · cases hu
/-- What of tells. -/
def OfQ (t : RT) (w : World) (e : Ending) (W : World) : Prop := ∃ v, e = .returned v ∧ RV w.heap.size W t v ∧ Below w.heap.size w W
/-- Its lists are no longer than a small rule's. -/
def szO : RT → Prop
  | .mk _ _ _ lb _ _ _ ar => lb.length ≤ 32768 ∧ ar.length ≤ 32768
end Go.Proofs.YtmmkboldkaehgaaGreatDoor.Ru
