/- RULES: SAME OF ANY TWO RULES (printed by gen_vn.py). Own work of the verifier. -/
import Derived.Test.YtoaaijohmfaphaaGreatDoorSBH
import Derived.Test.YtoaaijohmfaphaaGreatDoorSAU
import Derived.Test.YtoaaijohmfaphaaGreatDoorSAB
import Derived.Deep.RegionHeld3
namespace Go.Proofs.YtoaaijohmfaphaaGreatDoor.Ru
open Go.RowKit Me

mutual
def smB : RT → RT → Bool
  | .mk k x nm lb w n d ar, .mk k' x' nm' lb' w' n' d' ar' => (k == k') && Re.sF x x' && (nm == nm') && decide (lb = lb') && (w == w') && (n == n') && (d == d') && smL ar ar'
def smL : List RT → List RT → Bool
  | [], br => br.isEmpty
  | _ :: _, [] => false
  | a :: ar, b :: br => smB a b && smL ar br
end
theorem smL_ne : ∀ (a b : List RT), a.length ≠ b.length → smL a b = false
  | [], [], h => absurd rfl h
  | [], _ :: _, _ => by rw [smL]; rfl
  | _ :: _, [], _ => by rw [smL]
  | a :: ar, b :: br, h => by rw [smL, smL_ne ar br (fun e => h (by simp [e])), Bool.and_false]
theorem smL_drop (ar br : List RT) (i : Nat) (h : i < ar.length) (k : i < br.length) : smL (ar.drop i) (br.drop i) = (smB ar[i] br[i] && smL (ar.drop (i + 1)) (br.drop (i + 1))) := by
  rw [List.drop_eq_getElem_cons h, List.drop_eq_getElem_cons k, smL]
theorem smL_end (ar br : List RT) (h : ar.length = br.length) : smL (ar.drop ar.length) (br.drop ar.length) = true := by
  rw [List.drop_length, h, List.drop_length, smL]; rfl
abbrev IsRc (c : Array Value) : Prop := ∃ k x nm la ln lc w n d aa an ac, c = rc k x nm (.slice la ln lc) w n d (.slice aa an ac)
set_option maxHeartbeats 2000000 in
set_option maxRecDepth 100000 in
theorem eqf_any (ar br : List RT) (aa : Option Addr) (ab ao ac : Nat) (ba : Option Addr) (bb bo bc : Nat) (w : World) (haa : ar ≠ [] → aa = some ⟨ab, ao, none⟩) (hba : br ≠ [] → ba = some ⟨bb, bo, none⟩) (hla : ar.length ≤ 9223372036854775807) (_hlb : br.length ≤ 9223372036854775807)
    (HC : ∀ i (hi : i < ar.length) (hj : i < br.length), ∃ u v : Array Value, IsRc u ∧ IsRc v ∧ (∀ W, Below w.heap.size w W → ∀ j (h : j < u.size), W.cell? ⟨ab, ao + i * 8 + j, none⟩ = some u[j]) ∧ (∀ W, Below w.heap.size w W → ∀ j (h : j < v.size), W.cell? ⟨bb, bo + i * 8 + j, none⟩ = some v[j]) ∧ ∀ W, Below w.heap.size w W → Calls Tryz.prog 10 #[.agg u, .agg v] W fun e w' => e = .returned (.bool (smB ar[i] br[i])) ∧ Below W.heap.size W w') :
    Calls Tryz.prog 23 #[.slice aa ar.length ac, .slice ba br.length bc, .func (.func 10) #[] #[]] w fun e w' => e = .returned (.bool (smL ar br)) ∧ Below w.heap.size w w' := by
  obtain ⟨Z, hZ⟩ : ∃ Z, Z = smL ar br := ⟨_, rfl⟩
  rw [← hZ]
  have sF := store_f
  have hla' : (ar.length : Int) ≤ 9223372036854775807 := by omega
  by_cases hlen : ar.length = br.length
  · have ht : ((ar.length : Int) != (br.length : Int)) = false := by rw [bne_eq_false_iff_eq]; omega
    have HZ0 : Hid (Z = smL (ar.drop 0) (br.drop 0)) := by show _ = _; rw [List.drop_zero, List.drop_zero]; exact hZ
    have HL := hid_of hlen
    have HA := hid_of haa
    have HB := hid_of hba
    have HCC := hid_of HC
    clear hZ hlen haa hba HC
    go_enter Tryz.func23, Tryz.ntmps23
    go_wp2_with fail
    go_loopw [17] (fun a W => ∃ i : Nat, i ≤ ar.length ∧ a = .int .i64 (i : Int) ∧ Hid (Below w.heap.size w W) ∧ Hid (Z = smL (ar.drop i) (br.drop i))) (fun a _ => ar.length - (intOf a).toNat)
    case atStart => exact ⟨0, by omega, rfl, Below.refl _ _, HZ0⟩
    case round =>
      clear HZ0
      obtain ⟨i, hi, rfl, HW, HZ⟩ := hrel
      by_cases hlt : i < ar.length
      · have hlt2 : i < br.length := by have := HL.out; omega
        obtain rfl := HA.out (by intro e; rw [e] at hlt; simp at hlt)
        obtain rfl := HB.out (by intro e; rw [e] at hlt2; simp at hlt2)
        have hlt' : (i : Int) < (ar.length : Int) := by omega
        have hlt2' : (i : Int) < (br.length : Int) := by omega
        obtain ⟨u, v, ⟨k, x, nm, la, ln, lc, wi, n, d, qa, qn, qc, rfl⟩, ⟨k', x', nm', la', ln', lc', wi', n', d', qa', qn', qc', rfl⟩, hu, hv, hcall⟩ := HCC.out i hlt hlt2
        have hz := HZ.out
        rw [smL_drop _ _ _ hlt hlt2] at hz
        have HZ1 := hid_of hz
        have hix1 := index_rl ab ao ar.length ac i (i : Int) rfl hlt
        have hix2 := index_rl bb bo br.length bc i (i : Int) rfl hlt2
        obtain ⟨p1, hp1⟩ : ∃ p, p = ao + i * 8 := ⟨_, rfl⟩
        obtain ⟨p2, hp2⟩ : ∃ p, p = bo + i * 8 := ⟨_, rfl⟩
        rw [← hp1] at hix1 hu
        rw [← hp2] at hix2 hv
        clear hp1 hp2
        have HU := hid_of hu
        have HV := hid_of hv
        have HCl := hid_of hcall
        clear hu hv hcall hz HCC
        generalize smB ar[i] br[i] = bt1 at *
        have cs := HU.out wr HW.out
        have x0 := cs 0 (by show 0 < 8; decide)
        have x1 := cs 1 (by show 1 < 8; decide)
        have x2 := cs 2 (by show 2 < 8; decide)
        have x3 := cs 3 (by show 3 < 8; decide)
        have x4 := cs 4 (by show 4 < 8; decide)
        have x5 := cs 5 (by show 5 < 8; decide)
        have x6 := cs 6 (by show 6 < 8; decide)
        have x7 := cs 7 (by show 7 < 8; decide)
        try simp only [Nat.add_zero] at x0
        clear cs
        have hbA := bel1 wr (.cells (rc k x nm (.slice la ln lc) wi n d (.slice qa qn qc)) 26)
        have hnA := new_1 wr (.cells (rc k x nm (.slice la ln lc) wi n d (.slice qa qn qc)) 26)
        have HWA := hid_of (bt HW.out hbA)
        have HNA := hid_of hnA
        clear hbA hnA
        go_upto_region 6 with fail
        generalize wr.alloc (.cells (rc k x nm (.slice la ln lc) wi n d (.slice qa qn qc)) 26) = W1 at *
        generalize wr.heap.size = g1 at *
        clear x0 x1 x2 x3 x4 x5 x6 x7
        have cs := HV.out W1 HWA.out
        have x0 := cs 0 (by show 0 < 8; decide)
        have x1 := cs 1 (by show 1 < 8; decide)
        have x2 := cs 2 (by show 2 < 8; decide)
        have x3 := cs 3 (by show 3 < 8; decide)
        have x4 := cs 4 (by show 4 < 8; decide)
        have x5 := cs 5 (by show 5 < 8; decide)
        have x6 := cs 6 (by show 6 < 8; decide)
        have x7 := cs 7 (by show 7 < 8; decide)
        try simp only [Nat.add_zero] at x0
        clear cs
        have hbB := bel1 W1 (.cells (rc k' x' nm' (.slice la' ln' lc') wi' n' d' (.slice qa' qn' qc')) 26)
        have hnB := new_1 W1 (.cells (rc k' x' nm' (.slice la' ln' lc') wi' n' d' (.slice qa' qn' qc')) 26)
        have HWB := hid_of (bt HWA.out hbB)
        have HNB := hid_of hnB
        have HNA2 := hid_of ((hbB.block _ (Array.getElem?_eq_some_iff.1 HNA.out).1).trans HNA.out)
        clear hbB hnB HNA
        go_upto_region 7 with fail
        generalize W1.alloc (.cells (rc k' x' nm' (.slice la' ln' lc') wi' n' d' (.slice qa' qn' qc')) 26) = W2 at *
        generalize W1.heap.size = g2 at *
        clear x0 x1 x2 x3 x4 x5 x6 x7
        obtain ⟨y0, y1, y2, y3, y4, y5, y6, y7⟩ := eight HNA2.out
        obtain ⟨z0, z1, z2, z3, z4, z5, z6, z7⟩ := eight HNB.out
        have D : La.HidC _ _ _ _ _ := HCl.out W2 HWB.out
        clear HCl HU HV HWA HNA2 HNB HW HZ
        go_wp2_with fail
        refine Calls.mono D.out ?_
        rintro e w3 ⟨rfl, hb3⟩
        have HW3 := hid_of (bt HWB.out hb3)
        clear D hb3 HWB y0 y1 y2 y3 y4 y5 y6 y7 z0 z1 z2 z3 z4 z5 z6 z7
        cases bt1
        · have HE : Hid (Z = false) := by show _ = _; rw [HZ1.out, Bool.false_and]
          clear HZ1
          as_aux_lemma =>
            go_wp2_with fail
            go_ret
            exact ⟨congrArg (fun b : Bool => Ending.returned (.bool b)) HE.out.symm, HW3.out⟩
        · have HE : Hid (Z = smL (ar.drop (i + 1)) (br.drop (i + 1))) := by show _ = _; rw [HZ1.out, Bool.true_and]
          clear HZ1
          as_aux_lemma =>
            go_wp2_with fail
            exact ⟨⟨i + 1, by omega, by go_num, HW3, HE⟩, by simp [intOf]; omega⟩
      · obtain rfl : i = ar.length := by omega
        have hlt' : ¬ (ar.length : Int) < (ar.length : Int) := by omega
        have HE : Hid (Z = true) := by show _ = _; rw [HZ.out, smL_end _ _ HL.out]
        clear HZ HCC HA HB
        as_aux_lemma =>
          go_wp2_with fail
          go_ret
          exact ⟨congrArg (fun b : Bool => Ending.returned (.bool b)) HE.out.symm, HW.out⟩
  · have ht : ((ar.length : Int) != (br.length : Int)) = true := by rw [bne_iff_ne]; omega
    have HE : Hid (Z = false) := by show _ = _; rw [hZ, smL_ne _ _ hlen]
    clear hlen hZ HC haa hba
    go_enter Tryz.func23, Tryz.ntmps23
    go_wp2_with fail
    go_ret
    exact ⟨congrArg (fun b : Bool => Ending.returned (.bool b)) HE.out.symm, Below.refl _ _⟩
end Go.Proofs.YtoaaijohmfaphaaGreatDoor.Ru
/- RULES: SAME OF ANY TWO RULES (printed by gen_vo.py). Own work of the verifier. -/
namespace Go.Proofs.YtoaaijohmfaphaaGreatDoor.Ru
open Go.RowKit Me

def szX : RT → Prop
  | .mk _ x _ _ _ _ _ _ => x < 18446744073709551616
theorem bel_dn' (w : World) (n : Nat) : Below w.heap.size w (w.drewN n) := bel_dn (Below.refl _ _) n
set_option maxHeartbeats 4000000 in
set_option maxRecDepth 100000 in
theorem csame_any : ∀ (t t2 : RT) (v v2 : Value) (w : World), RV 0 w t v → RV 0 w t2 v2 → (∀ s ∈ nds t, szX s) → (∀ s ∈ nds t2, szX s) →
    Calls Tryz.prog 10 #[v, v2] w fun e w' => e = .returned (.bool (smB t t2)) ∧ Below w.heap.size w w' := by
  refine RT.ind ?_
  intro k x nm lb wi n d ar ih t2 v v2 w hv hv2 hz hz2
  obtain ⟨k2, x2, nm2, lb2, wi2, n2, d2, ar2⟩ := t2
  have hx : x < 18446744073709551616 := hz _ (nds_self _)
  have hx2 : x2 < 18446744073709551616 := hz2 _ (nds_self _)
  have hch : ∀ i (hi : i < ar.length), ∀ s ∈ nds ar[i], szX s := fun i hi s hs => hz s (by
    unfold nds
    exact List.mem_cons_of_mem _ (ndsL_mem (List.getElem_mem hi) hs))
  have hch2 : ∀ i (hi : i < ar2.length), ∀ s ∈ nds ar2[i], szX s := fun i hi s hs => hz2 s (by
    unfold nds
    exact List.mem_cons_of_mem _ (ndsL_mem (List.getElem_mem hi) hs))
  unfold RV at hv hv2
  obtain ⟨lv, qa, ab, ao, qc, rfl, ⟨la, b1, o1, lc, rfl, hl1, hl2, hl3, hl4⟩, haa, hac, hac2, hrs⟩ := hv
  obtain ⟨lv2, qa2, ab2, ao2, qc2, rfl, ⟨la2, b2, o2, lc2, rfl, hm1, hm2, hm3, hm4⟩, hba, hbc, hbc2, hrs2⟩ := hv2
  obtain ⟨W0, hW0⟩ : ∃ W0, W0 = (w.alloc (.cells (rc k x nm (.slice la lb.length lc) wi n d (.slice qa ar.length qc)) 26)).alloc (.cells (rc k2 x2 nm2 (.slice la2 lb2.length lc2) wi2 n2 d2 (.slice qa2 ar2.length qc2)) 26) := ⟨_, rfl⟩
  have hb0 : Below w.heap.size w W0 := by rw [hW0]; exact La.bel2 w _ _
  have hn0 : W0.heap[w.heap.size]? = some (.cells (rc k x nm (.slice la lb.length lc) wi n d (.slice qa ar.length qc)) 26) := by rw [hW0]; exact heap_alloc2_old w _ _
  have hz0 : W0.heap[w.heap.size + 1]? = some (.cells (rc k2 x2 nm2 (.slice la2 lb2.length lc2) wi2 n2 d2 (.slice qa2 ar2.length qc2)) 26) := by
    rw [hW0]
    have := new_1 (w.alloc (.cells (rc k x nm (.slice la lb.length lc) wi n d (.slice qa ar.length qc)) 26)) (.cells (rc k2 x2 nm2 (.slice la2 lb2.length lc2) wi2 n2 d2 (.slice qa2 ar2.length qc2)) 26)
    rw [show (w.alloc (.cells (rc k x nm (.slice la lb.length lc) wi n d (.slice qa ar.length qc)) 26)).heap.size = w.heap.size + 1 by simp] at this
    exact this
  have HS : Hid (∀ W, Calls Tryz.prog 21 #[.float .f64 x, .float .f64 x2] W fun e w' => e = .returned (.bool (Re.sF x x2)) ∧ w' = W) := fun W => Re.same_any x x2 hx hx2 W
  have HE : Hid (∀ W, Below w.heap.size w W → Calls Tryz.prog 22 #[.slice la lb.length lc, .slice la2 lb2.length lc2] W fun e w' => e = .returned (.bool (decide (lb = lb2))) ∧ Below W.heap.size W w') := fun W hb => (La.csamel_any la b1 o1 lc lb (fun e => (hl1 e).1) la2 b2 o2 lc2 lb2 (fun e => (hm1 e).1) (by omega) W (hl4.below hb) (hm4.below hb)).mono (by
    rintro e w1 ⟨rfl, m, rfl⟩
    exact ⟨rfl, bel_dn' _ _⟩)
  have HF : Hid (∀ W, Below w.heap.size w W → Calls Tryz.prog 23 #[.slice qa ar.length qc, .slice qa2 ar2.length qc2, .func (.func 10) #[] #[]] W fun e w' => e = .returned (.bool (smL ar ar2)) ∧ Below W.heap.size W w') := fun W hb => eqf_any ar ar2 qa ab ao qc qa2 ab2 ao2 qc2 W (fun e => (haa e).1) (fun e => (hba e).1) (by omega) (by omega) (fun i hi hj => by
    obtain ⟨u, h1, h2, h3⟩ := hrs.at_ i hi
    obtain ⟨u2, g1, g2, g3⟩ := hrs2.at_ i hj
    refine ⟨u, u2, ?_, ?_, fun W1 h j hj => cellH' (bt hb h) (h3 j hj), fun W1 h j hj => cellH' (bt hb h) (g3 j hj), fun W1 h => ih ar[i] (List.getElem_mem hi) ar2[i] (.agg u) (.agg u2) W1 (h1.below (bt hb h)) (g1.below (bt hb h)) (hch i hi) (hch2 i hj)⟩
    · obtain ⟨k', x', nm', la', ln', lc', w', n', d', aa', an', ac', e⟩ := h1.form
      exact ⟨k', x', nm', la', ln', lc', w', n', d', aa', an', ac', by cases e; rfl⟩
    · obtain ⟨k', x', nm', la', ln', lc', w', n', d', aa', an', ac', e⟩ := g1.form
      exact ⟨k', x', nm', la', ln', lc', w', n', d', aa', an', ac', by cases e; rfl⟩)
  have hQ : smB (.mk k x nm lb wi n d ar) (.mk k2 x2 nm2 lb2 wi2 n2 d2 ar2) = ((k == k2) && Re.sF x x2 && (nm == nm2) && decide (lb = lb2) && (wi == wi2) && (n == n2) && (d == d2) && smL ar ar2) := by rw [smB]
  rw [hQ]
  have HW0 := hid_of hW0
  have Hb0 := hid_of hb0
  have HN0 := hid_of hn0
  have HZ0 := hid_of hz0
  clear hW0 hb0 hn0 hz0 hQ ih hch hch2 hz hz2 hx hx2 hrs hrs2 hl1 hl2 hl3 hl4 hm1 hm2 hm3 hm4 haa hba hac hac2 hbc hbc2
  obtain ⟨e0, he0⟩ : ∃ b, b = (k == k2) := ⟨_, rfl⟩
  obtain ⟨e2, he2⟩ : ∃ b, b = (nm == nm2) := ⟨_, rfl⟩
  obtain ⟨e4, he4⟩ : ∃ b, b = (wi == wi2) := ⟨_, rfl⟩
  obtain ⟨e5, he5⟩ : ∃ b, b = (n == n2) := ⟨_, rfl⟩
  obtain ⟨e6, he6⟩ : ∃ b, b = (d == d2) := ⟨_, rfl⟩
  rw [← he0, ← he2, ← he4, ← he5, ← he6]
  have H0 : Hid ((k == k2) = e0) := he0.symm
  have H2 : Hid ((nm == nm2) = e2) := he2.symm
  have H4 : Hid ((wi == wi2) = e4) := he4.symm
  have H5 : Hid ((n == n2) = e5) := he5.symm
  have H6 : Hid ((d == d2) = e6) := he6.symm
  clear he0 he2 he4 he5 he6
  generalize Re.sF x x2 = e1 at *
  generalize decide (lb = lb2) = e3 at *
  generalize smL ar ar2 = e7 at *
  obtain ⟨RR, hRR⟩ : ∃ b, b = (e0 && e1 && e2 && e3 && e4 && e5 && e6 && e7) := ⟨_, rfl⟩
  rw [← hRR]
  have HQ := hid_of hRR
  clear hRR
  go_enter Tryz.func10, Tryz.ntmps10
  go_upto_region 1 with fail
  rw [← HW0.out]
  clear HW0
  obtain ⟨y0, y1, y2, y3, y4, y5, y6, y7⟩ := eight HN0.out
  obtain ⟨z0, z1, z2, z3, z4, z5, z6, z7⟩ := eight HZ0.out
  clear y2 z2 y3 z3 y4 z4 y5 z5 y6 z6 y7 z7
  have he := H0.out
  cases e0
  · clear H2 H4 H5 H6 HS HE HF HN0 HZ0 y1 z1
    have HR : Hid (RR = false) := by
      show _ = _
      have := HQ.out
      simpa using this
    clear HQ
    go_wp2_with fail
    go_ret
    exact ⟨congrArg (fun b : Bool => Ending.returned (.bool b)) HR.out.symm, Hb0.out⟩
  · clear H0
    go_wp2_with fail
    refine Calls.mono (HS.out _) ?_
    rintro e w1 ⟨rfl, hw⟩
    subst hw
    clear HS he y0 z0 y1 z1
    cases e1
    · clear H2 H4 H5 H6 HE HF HN0 HZ0
      have HR : Hid (RR = false) := by
        show _ = _
        have := HQ.out
        simpa using this
      clear HQ
      go_wp2_with fail
      go_ret
      exact ⟨congrArg (fun b : Bool => Ending.returned (.bool b)) HR.out.symm, Hb0.out⟩
    ·
      obtain ⟨y0, y1, y2, y3, y4, y5, y6, y7⟩ := eight HN0.out
      obtain ⟨z0, z1, z2, z3, z4, z5, z6, z7⟩ := eight HZ0.out
      clear y0 z0 y1 z1 y4 z4 y5 z5 y6 z6 y7 z7
      have he := H2.out
      cases e2
      · clear H4 H5 H6 HE HF HN0 HZ0 y3 z3
        have HR : Hid (RR = false) := by
          show _ = _
          have := HQ.out
          simpa using this
        clear HQ
        go_wp2_with fail
        go_ret
        exact ⟨congrArg (fun b : Bool => Ending.returned (.bool b)) HR.out.symm, Hb0.out⟩
      · clear H2
        go_wp2_with fail
        refine Calls.mono (HE.out _ Hb0.out) ?_
        rintro e w1 ⟨rfl, hb1⟩
        have hn1 := (hb1.block _ (Array.getElem?_eq_some_iff.1 HN0.out).1).trans HN0.out
        have hz1 := (hb1.block _ (Array.getElem?_eq_some_iff.1 HZ0.out).1).trans HZ0.out
        have HB1 := hid_of (bt Hb0.out hb1)
        clear HE hb1 HN0 HZ0 Hb0 he y2 z2 y3 z3
        cases e3
        · clear H4 H5 H6 HF hn1 hz1
          have HR : Hid (RR = false) := by
            show _ = _
            have := HQ.out
            simpa using this
          clear HQ
          go_wp2_with fail
          go_ret
          exact ⟨congrArg (fun b : Bool => Ending.returned (.bool b)) HR.out.symm, HB1.out⟩
        ·
          obtain ⟨y0, y1, y2, y3, y4, y5, y6, y7⟩ := eight hn1
          obtain ⟨z0, z1, z2, z3, z4, z5, z6, z7⟩ := eight hz1
          clear y0 z0 y1 z1 y2 z2 y3 z3
          clear hn1 hz1
          have h4 := H4.out
          cases e4
          · clear H5 H6 HF y5 z5 y6 z6 y7 z7
            have HR : Hid (RR = false) := by
              show _ = _
              have := HQ.out
              simpa using this
            clear HQ
            go_wp2_with fail
            go_ret
            exact ⟨congrArg (fun b : Bool => Ending.returned (.bool b)) HR.out.symm, HB1.out⟩
          · clear H4
            have h5 := H5.out
            cases e5
            · clear H6 HF y6 z6 y7 z7
              have HR : Hid (RR = false) := by
                show _ = _
                have := HQ.out
                simpa using this
              clear HQ
              go_wp2_with fail
              go_ret
              exact ⟨congrArg (fun b : Bool => Ending.returned (.bool b)) HR.out.symm, HB1.out⟩
            · clear H5
              have h6 := H6.out
              cases e6
              · clear HF y7 z7
                have HR : Hid (RR = false) := by
                  show _ = _
                  have := HQ.out
                  simpa using this
                clear HQ
                go_wp2_with fail
                go_ret
                exact ⟨congrArg (fun b : Bool => Ending.returned (.bool b)) HR.out.symm, HB1.out⟩
              · clear H6
                go_wp2_with fail
                refine Calls.mono (HF.out _ HB1.out) ?_
                rintro e w2 ⟨rfl, hb2⟩
                have HB2 := hid_of (bt HB1.out hb2)
                clear HF hb2 HB1 y4 y5 y6 y7 z4 z5 z6 z7 h4 h5 h6
                have HR : Hid (RR = e7) := by
                  show _ = _
                  have := HQ.out
                  simpa using this
                clear HQ
                go_wp2_with fail
                go_ret
                exact ⟨congrArg (fun b : Bool => Ending.returned (.bool b)) HR.out.symm, HB2.out⟩
end Go.Proofs.YtoaaijohmfaphaaGreatDoor.Ru
/- RULES: the law's left, small. Own work of the verifier. -/
namespace Go.Proofs.YtoaaijohmfaphaaGreatDoor.Ru
open Go.RowKit Me

mutual
def lfF : RT → Int → Int
  | .mk _ _ _ lb _ _ _ ar, n => lfL ar (n - (1 + (lb.length : Int)))
def lfL : List RT → Int → Int
  | [], n => n
  | a :: ar, n => if 0 ≤ n then lfL ar (lfF a n) else n
end
theorem lfL_le' : ∀ (ar : List RT) (n : Int), (∀ a ∈ ar, ∀ n, lfF a n ≤ n) → lfL ar n ≤ n
  | [], n, _ => by unfold lfL; omega
  | a :: ar, n, h => by
    unfold lfL
    split
    · have := lfL_le' ar (lfF a n) (fun b hb => h b (List.mem_cons_of_mem _ hb))
      have := h a List.mem_cons_self n
      omega
    · omega
theorem lfF_le : ∀ (t : RT) (n : Int), lfF t n ≤ n := by
  refine RT.ind ?_
  intro k x nm lb w n d ar ih m
  unfold lfF
  have := lfL_le' ar (m - (1 + (lb.length : Int))) (fun a ha n => ih a ha n)
  omega
def szB : RT → Prop
  | .mk _ _ _ lb _ _ _ _ => lb.length ≤ 140737488355328
theorem lfL_ge' : ∀ (ar : List RT) (n : Int), (∀ a ∈ ar, ∀ n : Int, 0 ≤ n → -140737488355330 ≤ lfF a n) → -140737488355330 ≤ n → -140737488355330 ≤ lfL ar n
  | [], n, _, h => by unfold lfL; exact h
  | a :: ar, n, h, hn => by
    unfold lfL
    split
    · rename_i k
      exact lfL_ge' ar _ (fun b hb => h b (List.mem_cons_of_mem _ hb)) (h a List.mem_cons_self n k)
    · exact hn
theorem lfF_ge : ∀ (t : RT), (∀ s ∈ nds t, szB s) → ∀ (n : Int), 0 ≤ n → -140737488355330 ≤ lfF t n := by
  refine RT.ind ?_
  intro k x nm lb w n d ar ih hz m hm
  have h0 : lb.length ≤ 140737488355328 := hz _ (nds_self _)
  unfold lfF
  exact lfL_ge' ar _ (fun a ha n hn => ih a ha (fun s hs => hz s (by
    unfold nds
    exact List.mem_cons_of_mem _ (ndsL_mem ha hs))) n hn) (by omega)
theorem lfL_drop (ar : List RT) (i : Nat) (h : i < ar.length) (n : Int) (hn : 0 ≤ n) : lfL (ar.drop i) n = lfL (ar.drop (i + 1)) (lfF ar[i] n) := by
  rw [List.drop_eq_getElem_cons h, lfL, if_pos hn]
theorem lfL_neg (ar : List RT) (n : Int) (hn : ¬ 0 ≤ n) : lfL ar n = n := by
  cases ar with
  | nil => rw [lfL]
  | cons a ar => rw [lfL, if_neg hn]
set_option maxHeartbeats 4000000 in
set_option maxRecDepth 100000 in
theorem left_any : ∀ (t : RT) (v : Value) (w : World) (m : Int), RV 0 w t v → (∀ s ∈ nds t, szB s) → 0 ≤ m → m ≤ 32768 →
    Calls Tryz.prog 15 #[v, .int .i64 m] w fun e w' => e = .returned (.int .i64 (lfF t m)) ∧ Below w.heap.size w w' := by
  refine RT.ind ?_
  intro k x nm lb wi n d ar ih v w m hv hz hm0 hm1
  have hlb : lb.length ≤ 140737488355328 := hz _ (nds_self _)
  have hch : ∀ i (hi : i < ar.length), ∀ s ∈ nds ar[i], szB s := fun i hi s hs => hz s (by
    unfold nds
    exact List.mem_cons_of_mem _ (ndsL_mem (List.getElem_mem hi) hs))
  unfold RV at hv
  obtain ⟨lv, qa, ab, ao, qc, rfl, ⟨la, b1, o1, lc, rfl, hl1, hl2, hl3, hl4⟩, haa, hac, hac2, hrs⟩ := hv
  obtain ⟨W0, hW0⟩ : ∃ W0, W0 = w.alloc (.cells (rc k x nm (.slice la lb.length lc) wi n d (.slice qa ar.length qc)) 26) := ⟨_, rfl⟩
  have hb0 : Below w.heap.size w W0 := by rw [hW0]; exact bel1 w _
  have hn0 : W0.heap[w.heap.size]? = some (.cells (rc k x nm (.slice la lb.length lc) wi n d (.slice qa ar.length qc)) 26) := by rw [hW0]; exact new_1 w _
  have HC : Hid (∀ i (hi : i < ar.length), ∃ c : Array Value, IsRc c ∧ (∀ W, Below w.heap.size w W → ∀ j (hj : j < c.size), W.cell? ⟨ab, ao + i * 8 + j, none⟩ = some c[j]) ∧ (∀ W (m : Int), Below w.heap.size w W → 0 ≤ m → m ≤ 32768 → Calls Tryz.prog 15 #[.agg c, .int .i64 m] W fun e w' => e = .returned (.int .i64 (lfF ar[i] m)) ∧ Below W.heap.size W w')) := fun i hi => by
    obtain ⟨c, h1, h2, h3⟩ := hrs.at_ i hi
    refine ⟨c, ?_, fun W hb j hj => cellH' hb (h3 j hj), fun W m hb q0 q1 => ih ar[i] (List.getElem_mem hi) (.agg c) W m (h1.below hb) (hch i hi) q0 q1⟩
    obtain ⟨k', x', nm', la', ln', lc', w', n', d', aa', an', ac', e⟩ := h1.form
    exact ⟨k', x', nm', la', ln', lc', w', n', d', aa', an', ac', by cases e; rfl⟩
  have HLo : Hid (∀ i (hi : i < ar.length) (m : Int), 0 ≤ m → lfF ar[i] m ≤ m ∧ -140737488355330 ≤ lfF ar[i] m) := fun i hi m q => ⟨lfF_le _ _, lfF_ge _ (hch i hi) m q⟩
  obtain ⟨m1, hm1'⟩ : ∃ m1, m1 = m - (1 + (lb.length : Int)) := ⟨_, rfl⟩
  obtain ⟨Z, hZ⟩ : ∃ Z, Z = lfF (.mk k x nm lb wi n d ar) m := ⟨_, rfl⟩
  have HZ0 : Hid (Z = lfL (ar.drop 0) m1) := by show _ = _; rw [hZ, List.drop_zero, lfF, hm1']
  rw [← hZ]
  have w1 : IntKind.i64.wrap (1 + (lb.length : Int)) = 1 + (lb.length : Int) := by rw [IntKind.wrap_i64]; omega
  have w2 : IntKind.i64.wrap (m - (1 + (lb.length : Int))) = m1 := by rw [IntKind.wrap_i64]; omega
  have hm1b : m1 ≤ 32768 ∧ -140737488355330 ≤ m1 := by omega
  have HB0 := hid_of hb0
  have HN0 := hid_of hn0
  have HW0 := hid_of hW0
  have HA := hid_of haa
  have hal : (ar.length : Int) ≤ 9223372036854775807 := by omega
  have Hm1 := hid_of hm1b
  have sF := store_f
  clear ih hz hch hl1 hl2 hl3 hl4 haa hac2 hrs hW0 hb0 hn0 hZ hm1' hm1b hlb
  go_enter Tryz.func15, Tryz.ntmps15
  go_upto_region 1 with fail
  rw [← HW0.out]
  obtain ⟨y0, y1, y2, y3, y4, y5, y6, y7⟩ := eight HN0.out
  go_upto_region 2 with fail
  clear y0 y1 y2 y3 y4 y5 y6 y7 w1 w2 hm0 hm1
  go_wp2_with fail
  go_loopw [1, 5] (fun q a W => ∃ (i : Nat) (z : Int), i ≤ ar.length ∧ q = .int .i64 z ∧ a = .int .i64 (i : Int) ∧ Hid (z ≤ 32768 ∧ -140737488355330 ≤ z) ∧ Hid (Below w.heap.size w W) ∧ Hid (W.heap[w.heap.size]? = some (.cells (rc k x nm (.slice la lb.length lc) wi n d (.slice qa ar.length qc)) 26)) ∧ Hid (Z = lfL (ar.drop i) z)) (fun _ a _ => ar.length - (intOf a).toNat)
  case atStart => exact ⟨0, m1, by omega, rfl, rfl, Hm1, HB0, HN0, HZ0⟩
  case round =>
    clear HB0 HN0 HW0 HZ0 Hm1
    obtain ⟨i, z, hi, rfl, rfl, Hz, HB, HN, HZ⟩ := hrel
    obtain ⟨y0, y1, y2, y3, y4, y5, y6, y7⟩ := eight HN.out
    clear y0 y1 y2 y3 y4 y5 y6
    by_cases hlt : i < ar.length
    · have hlt' : (i : Int) < (ar.length : Int) := by omega
      by_cases hz0 : 0 ≤ z
      · obtain ⟨rfl, -⟩ := HA.out (fun e => by rw [e] at hlt; simp at hlt)
        obtain ⟨c, ⟨k', x', nm', la', ln', lc', w', n', d', aa', an', ac', rfl⟩, hcs, hcall⟩ := HC.out i hlt
        obtain ⟨q1, q2⟩ := HLo.out i hlt z hz0
        have hz := HZ.out
        rw [lfL_drop _ _ hlt z hz0] at hz
        have HZ1 := hid_of hz
        have D : La.HidC _ _ _ _ _ := hcall wr z HB.out hz0 Hz.out.1
        have hix := index_rl ab ao ar.length qc i (i : Int) rfl hlt
        obtain ⟨p1, hp1⟩ : ∃ p, p = ao + i * 8 := ⟨_, rfl⟩
        rw [← hp1] at hix hcs
        clear hp1 hcall hz HZ HC HLo
        have cs := hcs wr HB.out
        have x0 := cs 0 (by show 0 < 8; decide)
        have x1 := cs 1 (by show 1 < 8; decide)
        have x2 := cs 2 (by show 2 < 8; decide)
        have x3 := cs 3 (by show 3 < 8; decide)
        have x4 := cs 4 (by show 4 < 8; decide)
        have x5 := cs 5 (by show 5 < 8; decide)
        have x6 := cs 6 (by show 6 < 8; decide)
        have x7 := cs 7 (by show 7 < 8; decide)
        try simp only [Nat.add_zero] at x0
        clear cs hcs
        have Hq : Hid (lfF ar[i] z ≤ 32768 ∧ -140737488355330 ≤ lfF ar[i] z) := ⟨by have := Hz.out.1; omega, q2⟩
        clear q1 q2 Hz
        generalize lfF ar[i] z = z1 at *
        go_wp2_with fail
        refine Calls.mono D.out ?_
        rintro e w3 ⟨rfl, hb3⟩
        have HB3 := hid_of (bt HB.out hb3)
        have HN3 := hid_of ((hb3.block _ (Array.getElem?_eq_some_iff.1 HN.out).1).trans HN.out)
        clear D hb3 HB HN y7 x0 x1 x2 x3 x4 x5 x6 x7 hix
        go_wp2_with fail
        exact ⟨⟨i + 1, z1, by omega, rfl, by go_num, Hq, HB3, HN3, HZ1⟩, by simp [intOf]; omega⟩
      · have HE : Hid (Z = z) := by show _ = _; rw [HZ.out, lfL_neg _ _ hz0]
        clear HZ HC HLo
        go_wp2_with fail
        go_ret
        exact ⟨congrArg (fun b : Int => Ending.returned (.int .i64 b)) HE.out.symm, HB.out⟩
    · have hlt' : ¬ (i : Int) < (ar.length : Int) := by omega
      have HE : Hid (Z = z) := by show _ = _; rw [HZ.out, List.drop_eq_nil_of_le (by omega), lfL]
      clear HZ HC HLo
      go_wp2_with fail
      go_ret
      exact ⟨congrArg (fun b : Int => Ending.returned (.int .i64 b)) HE.out.symm, HB.out⟩
set_option maxHeartbeats 1000000 in
theorem small_any (t : RT) (v : Value) (w : World) (hv : RV 0 w t v) (hz : ∀ s ∈ nds t, szB s) :
    Calls Tryz.prog 5 #[v] w fun e w' => e = .returned (.bool (decide (0 ≤ lfF t 32768))) ∧ Below w.heap.size w w' := by
  have HL : Hid (∀ W, Below w.heap.size w W → Calls Tryz.prog 15 #[v, .int .i64 32768] W fun e w' => e = .returned (.int .i64 (lfF t 32768)) ∧ Below W.heap.size W w') := fun W hb => left_any t v W 32768 (hv.below hb) hz (by decide) (by decide)
  obtain ⟨k, x, nm, la, ln, lc, wi, n, d, aa, an, ac, rfl⟩ := hv.form
  clear hv hz
  generalize lfF t 32768 = z at *
  go_enter Tryz.func5, Tryz.ntmps5
  have hb0 := bel1 w (.cells (rc k x nm (.slice la ln lc) wi n d (.slice aa an ac)) 26)
  go_wp2_with fail
  refine Calls.mono (HL.out _ hb0) ?_
  rintro e w1 ⟨rfl, hb1⟩
  have HB1 := hid_of (bt hb0 hb1)
  clear hb0 hb1 HL
  go_wp2_with fail
  go_ret
  exact ⟨rfl, HB1.out⟩
end Go.Proofs.YtoaaijohmfaphaaGreatDoor.Ru
/- RULES: THE DOCUMENT'S series, args, truth, Nodes. Own work of the verifier. -/
namespace Go.Proofs.YtoaaijohmfaphaaGreatDoor.Ru
open Go.RowKit Me

/-- Does a kind name a series? -/
def dSer (k : Int) : Bool := decide (2 ≤ k) && decide (k ≤ 8)
/-- How many Args a kind has. -/
def dAr (k : Int) : Int := if k = 21 then 1 else if 9 ≤ k ∧ k ≤ 20 then 2 else 0
/-- Is anything there that names a series? -/
def nmd (nm : List UInt8) (ln : Nat) (wi : Int) : Bool := (nm != []) || decide (0 < ln) || (wi != 0)
/-- Are a node's fields what they may be? -/
def dFld (k : Int) (x : Nat) (nm : List UInt8) (ln : Nat) (wi n d : Int) (al : Nat) : Bool :=
  !(((al : Int) != dAr k) || (!dSer k && nmd nm ln wi) || ((k != 8) && ((n != 0) || (d != 0)))) && !((k != 1) && (Re.sg (Re.rk x) (Re.rk 0) != 0)) &&
    !(((k == 1) && !Re.finF x) || (dSer k && (decide (wi < 1) || decide (4611686018427387904 < wi)))) && ((k != 8) || (decide (1 ≤ d) && decide (0 ≤ n) && decide (n ≤ d)))
end Go.Proofs.YtoaaijohmfaphaaGreatDoor.Ru
/- RULES: what Check tells is a number of the list. Own work of the verifier. -/
namespace Go.Proofs.YtoaaijohmfaphaaGreatDoor.Ru
open Go.RowKit Me

theorem txE_nn (l : List UInt8) : 0 ≤ La.txE l := by
  unfold La.txE
  repeat' split
  all_goals omega
theorem bhE_nn (a b : List UInt8) : 0 ≤ La.bhE a b := by
  unfold La.bhE
  repeat' split
  all_goals omega
theorem chkL_nn : ∀ (l : List La.Lb) (p : Option (List UInt8)), 0 ≤ La.chkL l p
  | [], _ => by unfold La.chkL; omega
  | a :: r, p => by
    have h1 := txE_nn a.2
    have h3 := chkL_nn r (some a.1)
    unfold La.chkL
    split
    · omega
    · split
      · exact h1
      · cases p with
        | none => exact h3
        | some q =>
          show 0 ≤ (if La.bhE q a.1 ≠ 0 then La.bhE q a.1 else La.chkL r (some a.1))
          split
          · exact bhE_nn _ _
          · exact h3
theorem chkD_nn (d : La.Ds) : 0 ≤ La.chkD d := by
  have h1 := txE_nn d.help
  have h2 := chkL_nn d.labels none
  unfold La.chkD
  repeat' split
  all_goals omega
theorem okN_nn : ∀ t : RT, 0 ≤ okN t
  | .mk k x nm lb w n d ar => by
    have := chkD_nn ⟨1, nm, [], lb⟩
    show 0 ≤ ndE _ _ _ _ _ _ _ _
    unfold ndE
    repeat' split
    all_goals omega
theorem typE_nn : ∀ t : RT, 0 ≤ typE t := by
  refine RT.ind ?_
  intro k x nm lb w n d ar ih
  unfold typE
  generalize (decide (shp k = 6) || decide (shp k = 7)) = b
  induction ar with
  | nil => unfold typL; omega
  | cons a ar hi =>
    unfold typL
    split
    · exact ih a List.mem_cons_self
    · split
      · omega
      · exact hi (fun q hq => ih q (List.mem_cons_of_mem _ hq))
theorem fstE_nn : ∀ r : List RT, 0 ≤ fstE r
  | [] => by unfold fstE; omega
  | t :: r => by
    unfold fstE
    split
    · exact okN_nn t
    · exact fstE_nn r
theorem ckE_nn (t : RT) : 0 ≤ ckE t := by
  have h1 := typE_nn t
  have h2 := fstE_nn (nds t)
  unfold ckE chkE
  repeat' split
  all_goals omega
theorem ckAt_of (t : RT) (u : World) (hz : ∀ s ∈ nds t, szN s) (h : Kd u) : CkAt (fun t => (ckE t).toNat) u t := fun W B v hb hv =>
  (check_any t v W (hv.mono (Nat.zero_le _)) hz (h.below hb)).mono (by
    rintro e w1 ⟨rfl, hb1⟩
    exact ⟨by rw [Int.toNat_of_nonneg (ckE_nn t)], hb1⟩)
end Go.Proofs.YtoaaijohmfaphaaGreatDoor.Ru
/- RULES: WHAT THE DOCUMENT'S Check TELLS IS WHAT THE CODE'S TELLS. Own work of the verifier. -/
namespace Go.Proofs.YtoaaijohmfaphaaGreatDoor.Ru
open Go.RowKit Me

theorem shp_val (k : Int) (h : 1 ≤ k ∧ k ≤ 21) : shp k = if k = 1 then 1 else if k ≤ 7 then 2 else if k = 8 then 3 else if k ≤ 12 then 4 else if k ≤ 18 then 5 else if k ≤ 20 then 6 else 7 := by
  have : k = 1 ∨ k = 2 ∨ k = 3 ∨ k = 4 ∨ k = 5 ∨ k = 6 ∨ k = 7 ∨ k = 8 ∨ k = 9 ∨ k = 10 ∨ k = 11 ∨ k = 12 ∨ k = 13 ∨ k = 14 ∨ k = 15 ∨ k = 16 ∨ k = 17 ∨ k = 18 ∨ k = 19 ∨ k = 20 ∨ k = 21 := by omega
  rcases this with rfl | rfl | rfl | rfl | rfl | rfl | rfl | rfl | rfl | rfl | rfl | rfl | rfl | rfl | rfl | rfl | rfl | rfl | rfl | rfl | rfl
  all_goals decide
theorem shp_out (k : Int) (h : k < 1 ∨ 21 < k) : shp k = 0 := by
  unfold shp kwI
  split
  · have : k = 0 := by omega
    subst this
    rfl
  · rfl
theorem ne_b (al m : Nat) : ((al : Int) != (m : Int)) = !decide (al = m) := by
  unfold bne
  congr 1
  by_cases h : al = m
  · rw [decide_eq_true h, beq_iff_eq, h]
  · rw [decide_eq_false h, beq_eq_false_iff_ne]; omega
theorem lt_b (ln : Nat) : decide (0 < ln) = !decide (ln = 0) := by
  by_cases h : ln = 0
  · subst h; rfl
  · rw [decide_eq_true (Nat.pos_of_ne_zero h), decide_eq_false h]; rfl
theorem lt1_b (w : Int) : decide (w < 1) = !decide (1 ≤ w) := by
  by_cases h : 1 ≤ w
  · rw [decide_eq_true h, decide_eq_false (by omega)]; rfl
  · rw [decide_eq_false h, decide_eq_true (by omega)]; rfl
theorem gtm_b (w : Int) : decide (4611686018427387904 < w) = !decide (w ≤ 4611686018427387904) := by
  by_cases h : w ≤ 4611686018427387904
  · rw [decide_eq_true h, decide_eq_false (by omega)]; rfl
  · rw [decide_eq_false h, decide_eq_true (by omega)]; rfl
theorem sF_00 : Re.sF 0 0 = true := by decide
theorem sg_b (x : Nat) : (Re.sg (Re.rk x) (Re.rk 0) != 0) = !Re.sF x 0 := rfl
theorem fields_eq (k : Int) (h : 1 ≤ k ∧ k ≤ 21) (x : Nat) (nm : List UInt8) (ln : Nat) (w n d : Int) (al : Nat) : dFld k x nm ln w n d al = (smO (shp k) x nm ln w n d al && hldB (shp k) x w n d al) := by
  rw [shp_val k h]
  have n0 := ne_b al 0
  have n1 := ne_b al 1
  have n2 := ne_b al 2
  have key : ∀ c : Prop, True := fun _ => trivial
  clear key
  unfold dFld nmd
  rw [lt_b, lt1_b, gtm_b, sg_b]
  by_cases c1 : k = 1
  · subst c1
    rw [if_pos rfl, show dAr 1 = ((0 : Nat) : Int) from rfl, n0]
    unfold smO hldB s0B
    simp only [if_true, sF_00, show dSer 1 = false from rfl, bne, show ((1 : Int) == 8) = false from rfl, show ((1 : Int) == 1) = true from rfl]
    generalize decide (al = 0) = b0, (nm == []) = b1, decide (ln = 0) = b2, (w == 0) = b3, (n == 0) = b4, (d == 0) = b5, Re.finF x = b6
    simp
    revert b0 b1 b2 b3 b4 b5 b6
    decide
  rw [if_neg c1]
  have e1 : (k == 1) = false := beq_eq_false_iff_ne.2 c1
  by_cases c2 : k ≤ 7
  · have e8 : (k == 8) = false := beq_eq_false_iff_ne.2 (by omega)
    have es : dSer k = true := by unfold dSer; rw [decide_eq_true (by omega), decide_eq_true (by omega)]; rfl
    have ea : dAr k = ((0 : Nat) : Int) := by unfold dAr; rw [if_neg (by omega), if_neg (by omega)]; rfl
    rw [if_pos c2, ea, n0]
    unfold smO hldB s0B winB
    simp only [es, bne, e1, e8]
    generalize decide (al = 0) = b0, (n == 0) = b4, (d == 0) = b5, Re.sF x 0 = b6, decide (1 ≤ w) = b7, decide (w ≤ 4611686018427387904) = b8
    simp
    revert b0 b4 b5 b6 b7 b8
    decide
  rw [if_neg c2]
  by_cases c3 : k = 8
  · subst c3
    rw [if_pos rfl, show dAr 8 = ((0 : Nat) : Int) from rfl, n0]
    unfold smO hldB s0B winB shrB
    simp only [show dSer 8 = true from rfl, bne, show ((8 : Int) == 8) = true from rfl, show ((8 : Int) == 1) = false from rfl]
    generalize decide (al = 0) = b0, Re.sF x 0 = b6, decide (1 ≤ w) = b7, decide (w ≤ 4611686018427387904) = b8, decide (1 ≤ d) = b9, decide (0 ≤ n) = ba, decide (n ≤ d) = bb
    simp
    revert b0 b6 b7 b8 b9 ba bb
    decide
  rw [if_neg c3]
  have e8 : (k == 8) = false := beq_eq_false_iff_ne.2 c3
  have es : dSer k = false := by unfold dSer; rw [decide_eq_false (by omega : ¬ k ≤ 8), Bool.and_false]
  by_cases c4 : k ≤ 20
  · have ea : dAr k = ((2 : Nat) : Int) := by unfold dAr; rw [if_neg (by omega), if_pos (by omega)]; rfl
    have sh : ∃ s, (if k ≤ 12 then 4 else if k ≤ 18 then 5 else if k ≤ 20 then 6 else 7) = s ∧ (s = 4 ∨ s = 5 ∨ s = 6) := by
      refine ⟨_, rfl, ?_⟩
      repeat' split
      all_goals omega
    obtain ⟨s, h1, h2⟩ := sh
    rw [h1, ea, n2]
    unfold smO hldB s0B
    rw [if_neg (by omega), if_neg (by omega), if_neg (by omega), if_neg (by omega), if_neg (by omega), if_neg (by omega), if_neg (by omega)]
    simp only [es, bne, e1, e8]
    generalize decide (al = 2) = b0, (nm == []) = b1, decide (ln = 0) = b2, (w == 0) = b3, (n == 0) = b4, (d == 0) = b5, Re.sF x 0 = b6
    simp
    revert b0 b1 b2 b3 b4 b5 b6
    decide
  · have c5 : k = 21 := by omega
    subst c5
    rw [show dAr 21 = ((1 : Nat) : Int) from rfl, n1]
    unfold smO hldB s0B
    simp only [show dSer 21 = false from rfl, bne, show ((21 : Int) == 8) = false from rfl, show ((21 : Int) == 1) = false from rfl]
    generalize decide (al = 1) = b0, (nm == []) = b1, decide (ln = 0) = b2, (w == 0) = b3, (n == 0) = b4, (d == 0) = b5, Re.sF x 0 = b6
    simp
    revert b0 b1 b2 b3 b4 b5 b6
    decide
theorem ser_shp (k : Int) (h : 1 ≤ k ∧ k ≤ 21) : (shp k = 2 ∨ shp k = 3) ↔ dSer k = true := by
  rw [shp_val k h]
  unfold dSer
  rw [Bool.and_eq_true, decide_eq_true_eq, decide_eq_true_eq]
  repeat' split
  all_goals omega
theorem shp_pos (k : Int) (h : 1 ≤ k ∧ k ≤ 21) : shp k ≠ 0 := by
  rw [shp_val k h]
  repeat' split
  all_goals omega
/-- What is wrong with a node by itself, as the document says it. -/
theorem okN_doc (k : Int) (x : Nat) (nm : List UInt8) (lb : List La.Lb) (w n d : Int) (ar : List RT) :
    okN (.mk k x nm lb w n d ar) = if k < 1 ∨ 21 < k then 7 else if dFld k x nm lb.length w n d ar.length = false then 1 else if dSer k = true ∧ La.chkD ⟨1, nm, [], lb⟩ ≠ 0 then La.chkD ⟨1, nm, [], lb⟩ else 0 := by
  show ndE (shp k) x nm lb w n d ar.length = _
  unfold ndE
  by_cases h : k < 1 ∨ 21 < k
  · rw [if_pos h, if_pos (shp_out k h)]
  · have hr : 1 ≤ k ∧ k ≤ 21 := by omega
    rw [if_neg h, if_neg (shp_pos k hr), fields_eq k hr]
    have hs := ser_shp k hr
    cases smO (shp k) x nm lb.length w n d ar.length
    · rfl
    · cases hldB (shp k) x w n d ar.length
      · rfl
      · simp only [Bool.and_self, Bool.true_eq_false, if_false]
        by_cases hd : dSer k = true
        · rw [if_pos (hs.2 hd)]
          by_cases hc : La.chkD ⟨1, nm, [], lb⟩ = 0
          · rw [hc, if_neg (fun q => q.2 rfl)]
          · rw [if_pos ⟨hd, hc⟩]
        · rw [if_neg (fun q => hd (hs.1 q)), if_neg (fun q => hd q.1)]
theorem ok_range {t : RT} (h : okN t = 0) : 1 ≤ t.kd ∧ t.kd ≤ 21 := by
  obtain ⟨k, x, nm, lb, w, n, d, ar⟩ := t
  rw [okN_doc] at h
  by_cases h1 : k < 1 ∨ 21 < k
  · rw [if_pos h1] at h; exact absurd h (by decide)
  · show 1 ≤ k ∧ k ≤ 21
    omega
end Go.Proofs.YtoaaijohmfaphaaGreatDoor.Ru
