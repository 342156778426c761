/- RULES: the law's of: THE WALK. Own work of the verifier. -/
import Derived.Test.YtmmkboldkaehgaaGreatDoorSBC
import Derived.Test.YtmmkboldkaehgaaGreatDoorSBB
namespace Go.Proofs.YtmmkboldkaehgaaGreatDoor.Ru
open Go.RowKit Me

theorem of_end {w wr w8 : World} {c : Array Value} {ga : Nat} (k : Int) (x : Nat) (nm : List UInt8) (lb : List La.Lb) (wi n d : Int) (ar : List RT) (HI : OfI w c lb.length ar.length ga ar ar.length wr)
    (hown : La.OwnL (w.heap.size + 2) (.slice (some ⟨w.heap.size + 2, 0, none⟩) lb.length (lb.length + 2)) lb w8) (hgr : wr.grownBy w8 (some (w.heap.size + 2))) (ha : ar.length ≤ 32768) :
    OfQ (.mk k x nm lb wi n d ar) w (.returned (rx k x nm (.slice (some ⟨w.heap.size + 2, 0, none⟩) lb.length (lb.length + 2)) wi n d (.slice (some ⟨ga, 0, none⟩) ar.length (ar.length + 2)))) (put8 ((w8.setCell ⟨w.heap.size, 3, none⟩ (.slice (some ⟨w.heap.size + 2, 0, none⟩) lb.length (lb.length + 2))).setCell ⟨w.heap.size, 7, none⟩ (.slice (some ⟨ga, 0, none⟩) ar.length (ar.length + 2))) (w.heap.size + 1) (.int .i64 k) (.float .f64 x) (.string ⟨nm.toArray⟩) (.slice (some ⟨w.heap.size + 2, 0, none⟩) lb.length (lb.length + 2)) (.int .i64 wi) (.int .i64 n) (.int .i64 d) (.slice (some ⟨ga, 0, none⟩) ar.length (ar.length + 2))) ∧ (put8 ((w8.setCell ⟨w.heap.size, 3, none⟩ (.slice (some ⟨w.heap.size + 2, 0, none⟩) lb.length (lb.length + 2))).setCell ⟨w.heap.size, 7, none⟩ (.slice (some ⟨ga, 0, none⟩) ar.length (ar.length + 2))) (w.heap.size + 1) (.int .i64 k) (.float .f64 x) (.string ⟨nm.toArray⟩) (.slice (some ⟨w.heap.size + 2, 0, none⟩) lb.length (lb.length + 2)) (.int .i64 wi) (.int .i64 n) (.int .i64 d) (.slice (some ⟨ga, 0, none⟩) ar.length (ar.length + 2))).heap[w.heap.size + 1]? = some (.cells (rc k x nm (.slice (some ⟨w.heap.size + 2, 0, none⟩) lb.length (lb.length + 2)) wi n d (.slice (some ⟨ga, 0, none⟩) ar.length (ar.length + 2))) 26) := by
  obtain ⟨xs, hx, ho, hel⟩ := HI.ro
  have hgs := HI.gs
  have hsz := HI.sz
  have E1 := ex_gr hgr
  have E2 : La.Ex w.heap.size w8 ((w8.setCell ⟨w.heap.size, 3, none⟩ (.slice (some ⟨w.heap.size + 2, 0, none⟩) lb.length (lb.length + 2))).setCell ⟨w.heap.size, 7, none⟩ (.slice (some ⟨ga, 0, none⟩) ar.length (ar.length + 2))) := ((La.Ex.refl _ _).set _ _).set _ _
  have E3 : La.Ex (w.heap.size + 1) ((w8.setCell ⟨w.heap.size, 3, none⟩ (.slice (some ⟨w.heap.size + 2, 0, none⟩) lb.length (lb.length + 2))).setCell ⟨w.heap.size, 7, none⟩ (.slice (some ⟨ga, 0, none⟩) ar.length (ar.length + 2))) (put8 ((w8.setCell ⟨w.heap.size, 3, none⟩ (.slice (some ⟨w.heap.size + 2, 0, none⟩) lb.length (lb.length + 2))).setCell ⟨w.heap.size, 7, none⟩ (.slice (some ⟨ga, 0, none⟩) ar.length (ar.length + 2))) (w.heap.size + 1) (.int .i64 k) (.float .f64 x) (.string ⟨nm.toArray⟩) (.slice (some ⟨w.heap.size + 2, 0, none⟩) lb.length (lb.length + 2)) (.int .i64 wi) (.int .i64 n) (.int .i64 d) (.slice (some ⟨ga, 0, none⟩) ar.length (ar.length + 2))) := put8_one _ _ _ _ _ _ _ _ _ _
  have s1 := E1.size
  have s2 := E2.size
  have hz8 : ((w8.setCell ⟨w.heap.size, 3, none⟩ (.slice (some ⟨w.heap.size + 2, 0, none⟩) lb.length (lb.length + 2))).setCell ⟨w.heap.size, 7, none⟩ (.slice (some ⟨ga, 0, none⟩) ar.length (ar.length + 2))).heap[w.heap.size + 1]? = some (.cells (rc 0 0 [] (.slice none 0 0) 0 0 0 (.slice none 0 0)) 26) := (E2.block _ (by omega) (by omega)).trans ((E1.block _ (by omega) (by omega)).trans HI.g2)
  refine ⟨⟨_, rfl, ?_, ?_⟩, put8_heap hz8 _ _ _ _ _ _ _ _⟩
  · unfold RV
    refine ⟨_, some ⟨ga, 0, none⟩, ga, 0, ar.length + 2, rfl, (((LbV.of hown).ex E2 (by omega)).ex E3 (by omega)).mono (by omega), fun _ => ⟨rfl, by omega⟩, by omega, by omega, rvs_of ar 0 fun j hj => ?_⟩
    obtain ⟨u, k1, k2, k3⟩ := hel j hj hj
    refine ⟨u, k1, fun q hq => ?_, (((k3.ex E1 (by omega)).ex E2 (by omega)).ex E3 (by omega)).mono (by omega)⟩
    rw [Nat.zero_add]
    have hblk := (E3.block ga (by omega) (by omega)).trans ((E2.block ga (by omega) (by omega)).trans (E1.block ga (by omega) (by omega)))
    exact (World.cell?_of_block (w := wr) (a := ⟨ga, j * 8 + q, none⟩) hblk).trans (own_cellq ho _ _ (k2 q hq))
  · exact ((HI.b.trans (E1.below (by omega) (by omega))).trans (E2.below (Nat.le_refl _) (by omega))).trans (E3.below (by omega) (by omega))
set_option maxHeartbeats 8000000 in
set_option maxRecDepth 100000 in
theorem of_any : ∀ (t : RT) (v : Value) (w : World), RVh w t v → (∀ s ∈ nds t, szO s) →
    Calls Tryz.prog 6 #[v] w fun e w' => OfQ t w e w' := by
  refine RT.ind ?_
  intro k x nm lb wi n d ar ih v w hv hz
  obtain ⟨hl0, ha0⟩ := hz _ (nds_self _)
  have hch : ∀ i (hi : i < ar.length), ∀ s ∈ nds ar[i], szO s := fun i hi s hs => hz s (by
    unfold nds
    exact List.mem_cons_of_mem _ (ndsL_mem (List.getElem_mem hi) hs))
  unfold RVh at hv
  obtain ⟨la, lc, qa, ab, ao, qc, rfl, hlb, hnil, haa, hac, hac2, hrs⟩ := hv
  obtain ⟨W0, hW0⟩ : ∃ W0, W0 = (w.alloc (.cells (rc k x nm (.slice la lb.length lc) wi n d (.slice qa ar.length qc)) 26)).alloc (.cells (rc 0 0 [] (.slice none 0 0) 0 0 0 (.slice none 0 0)) 26) := ⟨_, rfl⟩
  have hb0 : Below w.heap.size w W0 := by rw [hW0]; exact La.bel2 w _ _
  have hn0 : W0.heap[w.heap.size]? = some (.cells (rc k x nm (.slice la lb.length lc) wi n d (.slice qa ar.length qc)) 26) := by rw [hW0]; exact heap_alloc2_old w _ _
  have hz0 : Z8 (w.heap.size + 1) W0 := by
    rw [hW0]
    have := new_1 (w.alloc (.cells (rc k x nm (.slice la lb.length lc) wi n d (.slice qa ar.length qc)) 26)) (.cells (rc 0 0 [] (.slice none 0 0) 0 0 0 (.slice none 0 0)) 26)
    rw [show (w.alloc (.cells (rc k x nm (.slice la lb.length lc) wi n d (.slice qa ar.length qc)) 26)).heap.size = w.heap.size + 1 by simp] at this
    exact this
  have hs0 : W0.heap.size = w.heap.size + 2 := by rw [hW0]; simp
  have HC : Hid (∀ i (hi : i < ar.length), ∃ c : Array Value, IsRc c ∧ (∀ W, Below w.heap.size w W → ∀ j (hj : j < c.size), W.cell? ⟨ab, ao + i * 8 + j, none⟩ = some c[j]) ∧ (∀ W, Below w.heap.size w W → Calls Tryz.prog 6 #[.agg c] W fun e w' => OfQ ar[i] W e w')) := fun i hi => by
    obtain ⟨c, h1, h2, h3⟩ := hrs.at_ i hi
    refine ⟨c, ?_, fun W hb j hj => cellH' hb (h3 j hj), fun W hb => ih ar[i] (List.getElem_mem hi) (.agg c) W (RVh.below hb _ _ h1) (hch i hi)⟩
    obtain ⟨k', x', nm', la', ln', lc', w', n', d', aa', an', ac', e⟩ := (RVh.rv _ _ h1).form
    exact ⟨k', x', nm', la', ln', lc', w', n', d', aa', an', ac', by cases e; rfl⟩
  have HW0 := hid_of hW0
  have HB0 := hid_of hb0
  have HN0 := hid_of hn0
  have HZ0 := hid_of hz0
  have HS0 := hid_of hs0
  have HLb := hid_of hlb
  have HNil := hid_of hnil
  have HA := hid_of haa
  have w1 : IntKind.i64.wrap ((lb.length : Int) + 2) = (lb.length : Int) + 2 := by rw [IntKind.wrap_i64]; omega
  have w2 : IntKind.i64.wrap ((ar.length : Int) + 2) = (ar.length : Int) + 2 := by rw [IntKind.wrap_i64]; omega
  have sF := store_f
  clear ih hz hch hlb hnil haa hac2 hrs hW0 hb0 hn0 hz0 hs0
  go_enter Tryz.func6, Tryz.ntmps6
  go_upto_region 1 with fail
  rw [← HW0.out]
  clear HW0
  go_cut [3] from 7 to 11 (fun z W => z = .slice (some ⟨w.heap.size + 2, 0, none⟩) 0 (lb.length + 2) ∧ Hid (Below W0.heap.size W0 W) ∧ Hid (W.ownsRow (w.heap.size + 2) 49 2 (.slice (some ⟨w.heap.size + 2, 0, none⟩) 0 (lb.length + 2)) 0 []))
  case first =>
    obtain ⟨y0, y1, y2, y3, y4, y5, y6, y7⟩ := eight HN0.out
    clear y0 y1 y2 y4 y5 y6 y7 HC HA
    obtain ⟨i0, hi0, hz0, hz1, hz2⟩ := info_parts La.infoLabel
    have hz0' := hid_of hz0
    have hz1' := hid_of hz1
    have hz2' := hid_of hz2
    clear hz0 hz1 hz2
    go_wp2_with (first
      | (refine wpList_make_own _ rfl _ _ 23 rfl (w.heap.size + 2) 49 i0 _ 2 Tryz.underlying23 hi0 hz0'.out hz1'.out .i64 .i64 _ (lb.length + 2) rfl rfl (by first | rfl | omega | simp) (by rw [hz2'.out]; omega) (by unfold maxLen; omega) (by rw [HS0.out]; omega) ?_; intro w3 hown hgr))
    go_meet
    exact ⟨by rw [HS0.out], bel_g0 hgr, by rw [HS0.out] at hown; exact hown⟩
  case rest =>
  obtain ⟨rfl, HB1, HO1⟩ := hcut
  have HN1 := hid_of ((HB1.out.block _ (Array.getElem?_eq_some_iff.1 HN0.out).1).trans HN0.out)
  have HZ1 := hid_of (HZ0.out.below HB1.out)
  have HBw1 := hid_of (bt HB0.out HB1.out)
  clear HB1 HN0 HZ0 HB0 w1
  go_upto_region 2 with fail
  have HS1 : Hid (w.heap.size + 3 ≤ wc.heap.size) := by
    have := (own_atG HO1.out)
    rcases this with h | ⟨g, h1, h2, h3⟩
    · cases h
    · cases h1; show _ ≤ _; omega
  obtain ⟨ga, hga⟩ : ∃ ga, ga = wc.heap.size := ⟨_, rfl⟩
  rw [← hga] at HS1
  have HGa := hid_of hga
  clear hga
  go_cut [4] from 12 to 16 (fun z W => z = .slice (some ⟨ga, 0, none⟩) 0 (ar.length + 2) ∧ Hid (OfI w (rc k x nm (.slice la lb.length lc) wi n d (.slice qa ar.length qc)) lb.length ar.length ga ar 0 W))
  case first =>
    obtain ⟨y0, y1, y2, y3, y4, y5, y6, y7⟩ := eight HN1.out
    clear y0 y1 y2 y3 y4 y5 y6 HC HA
    obtain ⟨i0, hi0, hz0, hz1, hz2⟩ := info_parts infoRule
    have hz0' := hid_of hz0
    have hz1' := hid_of hz1
    have hz2' := hid_of hz2
    clear hz0 hz1 hz2
    go_wp2_with (first
      | (refine wpList_make_own _ rfl _ _ 24 rfl (w.heap.size + 2) 26 i0 _ 8 Tryz.underlying24 hi0 hz0'.out hz1'.out .i64 .i64 _ (ar.length + 2) rfl rfl (by first | rfl | omega | simp) (by rw [hz2'.out]; omega) (by unfold maxLen; omega) (by have := HS1.out; have := HGa.out; omega) ?_; intro w3 hown hgr))
    go_meet
    have hsz : ga + 1 ≤ w3.heap.size := by
      rcases own_atG hown with h | ⟨g, h1, h2, h3⟩
      · cases h
      · cases h1
        have h3' : wc.heap.size < w3.heap.size := h3
        have := HGa.out
        omega
    refine ⟨by rw [HGa.out], bt HBw1.out (bel_g0 hgr), ((bel_g0 hgr).block _ (Array.getElem?_eq_some_iff.1 HN1.out).1).trans HN1.out, HZ1.out.below (bel_g0 hgr), own_belG HO1.out (bel_g0 hgr), ⟨[], rfl, by rw [← HGa.out] at hown; exact hown, fun j _ h => absurd h (by omega)⟩, HS1.out, hsz⟩
  case rest =>
  obtain ⟨rfl, HI0⟩ := hcut
  clear HN1 HZ1 HBw1 HO1 HGa HS1 w2 HS0
  go_upto_region 3 with fail
  obtain ⟨y0, y1, y2, y3, y4, y5, y6, y7⟩ := eight HI0.out.g1
  clear y0 y1 y2 y3 y4 y5 y6
  go_upto_region 4 with fail
  clear y7
  go_loopw [4, 20] (fun v a W => ∃ i : Nat, i ≤ ar.length ∧ v = .slice (some ⟨ga, 0, none⟩) i (ar.length + 2) ∧ a = .int .i64 (i : Int) ∧ Hid (OfI w (rc k x nm (.slice la lb.length lc) wi n d (.slice qa ar.length qc)) lb.length ar.length ga ar i W)) (fun _ a _ => ar.length - (intOf a).toNat)
  case atStart => exact ⟨0, by omega, rfl, rfl, HI0⟩
  case round =>
    clear HI0
    obtain ⟨i, hi, rfl, rfl, HI⟩ := hrel
    by_cases hlt : i < ar.length
    · have hlt' : (i : Int) < (ar.length : Int) := by omega
      obtain rfl := HA.out (by intro e; rw [e] at hlt; simp at hlt)
      obtain ⟨c, ⟨k', x', nm', la', ln', lc', w', n', d', aa', an', ac', rfl⟩, hcs, hcall⟩ := HC.out i hlt
      have hix := index_rl ab ao ar.length qc i (i : Int) rfl hlt
      obtain ⟨p1, hp1⟩ : ∃ p, p = ao + i * 8 := ⟨_, rfl⟩
      rw [← hp1] at hix hcs
      have cs := hcs wr HI.out.b
      have x0 := cs 0 (by show 0 < 8; decide)
      have x1 := cs 1 (by show 1 < 8; decide)
      have x2 := cs 2 (by show 2 < 8; decide)
      have x3 := cs 3 (by show 3 < 8; decide)
      have x4 := cs 4 (by show 4 < 8; decide)
      have x5 := cs 5 (by show 5 < 8; decide)
      have x6 := cs 6 (by show 6 < 8; decide)
      have x7 := cs 7 (by show 7 < 8; decide)
      try simp only [Nat.add_zero] at x0
      have hbA := bel1 wr (.cells (rc k' x' nm' (.slice la' ln' lc') w' n' d' (.slice aa' an' ac')) 26)
      have hnA := new_1 wr (.cells (rc k' x' nm' (.slice la' ln' lc') w' n' d' (.slice aa' an' ac')) 26)
      have HI5 := hid_of (HI.out.below hbA)
      have HN5 := hid_of hnA
      have D : La.HidC _ _ _ _ _ := hcall _ HI5.out.b
      have HSr : Hid (ga + 1 ≤ wr.heap.size) := HI.out.sz
      clear cs hcs hcall hp1 HC HA HLb HNil hbA hnA HI
      go_upto_region 6 with fail
      have HSz5 : Hid (ga + 1 ≤ (wr.alloc (.cells (rc k' x' nm' (.slice la' ln' lc') w' n' d' (.slice aa' an' ac')) 26)).heap.size) := HI5.out.sz
      generalize wr.alloc (.cells (rc k' x' nm' (.slice la' ln' lc') w' n' d' (.slice aa' an' ac')) 26) = W5 at *
      generalize wr.heap.size = gb at *
      clear x0 x1 x2 x3 x4 x5 x6 x7 hix
      obtain ⟨y0, y1, y2, y3, y4, y5, y6, y7⟩ := eight HN5.out
      go_wp2_with fail
      refine Calls.mono D.out ?_
      rintro e w6 ⟨v', rfl, hv', hb6⟩
      have HI6 := hid_of (HI5.out.below hb6)
      have hv6 := hv'.mono (B' := ga + 1) HSz5.out
      obtain ⟨k2, x2, nm2, la2, ln2, lc2, wi2, n2, d2, aa2, an2, ac2, rfl⟩ := hv6.form
      have hbB := bel1 w6 (.cells (rc k2 x2 nm2 (.slice la2 ln2 lc2) wi2 n2 d2 (.slice aa2 an2 ac2)) 26)
      have HI7 := hid_of (HI6.out.below hbB)
      have HV7 := hid_of (hv6.below hbB)
      have HN7 := hid_of (new_1 w6 (.cells (rc k2 x2 nm2 (.slice la2 ln2 lc2) wi2 n2 d2 (.slice aa2 an2 ac2)) 26))
      clear D hv' hb6 hv6 hbB HI5 HI6 HN5 HSz5 HSr y0 y1 y2 y3 y4 y5 y6 y7
      obtain ⟨xs, hx, ho, hel⟩ := HI7.out.ro
      have HX := hid_of hx
      have HO := hid_of ho
      have HEl := hid_of hel
      clear hx ho hel
      obtain ⟨i0, hi0, hz0, hz1, hz2⟩ := info_parts infoRule
      have hz1' := hid_of hz1
      clear hz0 hz1 hz2
      have hnw : ∀ (ad : Addr), some (⟨w6.heap.size, 0, none⟩ : Addr) = some ad → ∀ j u, ([.int .i64 k2, .float .f64 x2, .string ⟨nm2.toArray⟩, .slice la2 ln2 lc2, .int .i64 wi2, .int .i64 n2, .int .i64 d2, .slice aa2 an2 ac2] : List Value)[j]? = some u → (w6.alloc (.cells (rc k2 x2 nm2 (.slice la2 ln2 lc2) wi2 n2 d2 (.slice aa2 an2 ac2)) 26)).cell? (ad.add j) = some u := fun ad e j u hu => by
        cases e
        exact World.news_of_block HN7.out j u hu
      have HNw := hid_of hnw
      clear hnw
      go_wp2_with (first
        | (at_builtin; refine wpList_append_fits_any _ rfl _ _ 24 rfl (w.heap.size + 2) 26 i0 8 Tryz.underlying24 hi0 hz1'.out ga i (ar.length + 2) xs rfl HO.out (some ⟨w6.heap.size, 0, none⟩) 1 1 [.int .i64 k2, .float .f64 x2, .string ⟨nm2.toArray⟩, .slice la2 ln2 lc2, .int .i64 wi2, .int .i64 n2, .int .i64 d2, .slice aa2 an2 ac2] rfl rfl (fun e => by cases e) HNw.out (by simp [Value.oneCell']) (by omega) ?_; intro w8 hown hgr; have HI8 := hid_of (OfI.push HI7.out hlt HX.out HO.out HEl.out (u := rc k2 x2 nm2 (.slice la2 ln2 lc2) wi2 n2 d2 (.slice aa2 an2 ac2)) rfl HV7.out hown hgr); clear hown hgr HI7 HX HO HEl HV7 HN7))
      exact ⟨⟨i + 1, by omega, rfl, by go_num, HI8⟩, by simp [intOf]; omega⟩
    · obtain rfl : i = ar.length := by omega
      have hlt' : ¬ (ar.length : Int) < (ar.length : Int) := by omega
      obtain ⟨ao', b', o', cap', hveq, h1, h2, h3, h4⟩ := HLb.out.below HI.out.b
      cases hveq
      have hc : ∀ ad, la = some ad → ∀ j u, (La.flL lb)[j]? = some u → wr.cell? (ad.add j) = some u := fun ad e j u hu => by
        by_cases q : lb = []
        · subst q; simp [La.flL] at hu
        · have := (h1 q).1
          rw [e] at this
          cases this
          exact rowL_cells h4 j u hu
      have hn0 : la = none → lb.length = 0 ∧ lc = 0 := fun e => by
        refine ⟨?_, HNil.out e⟩
        by_cases q : lb = []
        · rw [q]; rfl
        · have := (h1 q).1
          rw [e] at this
          cases this
      have HCc := hid_of hc
      have HN0 := hid_of hn0
      have HFl := hid_of (flL_one lb)
      have HFn := hid_of (La.flL_length lb)
      obtain ⟨y0, y1, y2, y3, y4, y5, y6, y7⟩ := eight HI.out.g1
      obtain ⟨i0, hi0, hz0, hz1, hz2⟩ := info_parts La.infoLabel
      have hz1' := hid_of hz1
      have Hsz : Hid (w.heap.size + 3 ≤ wr.heap.size) := by have := HI.out.sz; have := HI.out.gs; show _ ≤ _; omega
      have HLr := hid_of HI.out.lr
      clear hz0 hz1 hz2 hc hn0 h1 h2 h3 h4 HC HA HLb HNil y0 y1 y2 y4 y5 y6 y7
      go_wp2_with (first
        | (at_builtin; refine wpList_append_fits_any _ rfl _ _ 23 rfl (w.heap.size + 2) 49 i0 2 Tryz.underlying23 hi0 hz1'.out (w.heap.size + 2) 0 (lb.length + 2) [] rfl HLr.out la lb.length lc (La.flL lb) rfl HFn.out HN0.out HCc.out HFl.out (by omega) ?_; intro w8 hown hgr; have g1' := (hgr.block w.heap.size (by have := Hsz.out; omega) (by intro e; have := Option.some.inj e; omega)).trans HI.out.g1; have g2' := (hgr.block (w.heap.size + 1) (by have := Hsz.out; omega) (by intro e; have := Option.some.inj e; omega)).trans HI.out.g2; clear y3; obtain ⟨y0, y1, y2, y3, y4, y5, y6, y7⟩ := eight g1'; have yf := eight_f g1'; obtain ⟨z0, z1, z2, z3, z4, z5, z6, z7⟩ := eight g2'; have zf := eight_f g2'; rw [Nat.zero_add, List.nil_append] at hown; have HE := of_end k x nm lb wi n d ar HI.out hown hgr ha0; have HE1 := hid_of HE.1; have HE2 := hid_of HE.2; clear HE hown hgr g1' g2' HI HLr HN0 HCc HFl HFn Hsz))
      obtain ⟨W9, hW9⟩ : ∃ W9, W9 = (put8 ((w8.setCell ⟨w.heap.size, 3, none⟩ (.slice (some ⟨w.heap.size + 2, 0, none⟩) lb.length (lb.length + 2))).setCell ⟨w.heap.size, 7, none⟩ (.slice (some ⟨ga, 0, none⟩) ar.length (ar.length + 2))) (w.heap.size + 1) (.int .i64 k) (.float .f64 x) (.string ⟨nm.toArray⟩) (.slice (some ⟨w.heap.size + 2, 0, none⟩) lb.length (lb.length + 2)) (.int .i64 wi) (.int .i64 n) (.int .i64 d) (.slice (some ⟨ga, 0, none⟩) ar.length (ar.length + 2))) := ⟨_, rfl⟩
      rw [← hW9] at HE1 HE2
      refine bodyPost_ret (results_cell_row (P := Tryz.prog) rfl _ _ (w.heap.size + 1) 26 _ (0, 0) _ rfl (by rw [hW9] at HE2; exact HE2.out) Tryz.underlying26 rfl (by kernel_rfl)) rfl ?_
      rw [hW9] at HE1
      exact HE1.out
end Go.Proofs.YtmmkboldkaehgaaGreatDoor.Ru
/- RULES: what Check tells is a number of the list. Own work of the verifier. -/
namespace Go.Proofs.YtmmkboldkaehgaaGreatDoor.Ru
open Go.RowKit Me

theorem txE_nn (l : List UInt8) : 0 ≤ La.txE l := by
  unfold La.txE
  repeat' split
  all_goals omega
theorem bhE_nn (a b : List UInt8) : 0 ≤ La.bhE a b := by
  unfold La.bhE
  repeat' split
  all_goals omega
theorem chkL_nn : ∀ (l : List La.Lb) (p : Option (List UInt8)), 0 ≤ La.chkL l p
  | [], _ => by unfold La.chkL; omega
  | a :: r, p => by
    have h1 := txE_nn a.2
    have h3 := chkL_nn r (some a.1)
    unfold La.chkL
    split
    · omega
    · split
      · exact h1
      · cases p with
        | none => exact h3
        | some q =>
          show 0 ≤ (if La.bhE q a.1 ≠ 0 then La.bhE q a.1 else La.chkL r (some a.1))
          split
          · exact bhE_nn _ _
          · exact h3
theorem chkD_nn (d : La.Ds) : 0 ≤ La.chkD d := by
  have h1 := txE_nn d.help
  have h2 := chkL_nn d.labels none
  unfold La.chkD
  repeat' split
  all_goals omega
theorem okN_nn : ∀ t : RT, 0 ≤ okN t
  | .mk k x nm lb w n d ar => by
    have := chkD_nn ⟨1, nm, [], lb⟩
    show 0 ≤ ndE _ _ _ _ _ _ _ _
    unfold ndE
    repeat' split
    all_goals omega
theorem typE_nn : ∀ t : RT, 0 ≤ typE t := by
  refine RT.ind ?_
  intro k x nm lb w n d ar ih
  unfold typE
  generalize (decide (shp k = 6) || decide (shp k = 7)) = b
  induction ar with
  | nil => unfold typL; omega
  | cons a ar hi =>
    unfold typL
    split
    · exact ih a List.mem_cons_self
    · split
      · omega
      · exact hi (fun q hq => ih q (List.mem_cons_of_mem _ hq))
theorem fstE_nn : ∀ r : List RT, 0 ≤ fstE r
  | [] => by unfold fstE; omega
  | t :: r => by
    unfold fstE
    split
    · exact okN_nn t
    · exact fstE_nn r
theorem ckE_nn (t : RT) : 0 ≤ ckE t := by
  have h1 := typE_nn t
  have h2 := fstE_nn (nds t)
  unfold ckE chkE
  repeat' split
  all_goals omega
/-- Check, as Parse calls it. -/
theorem ckAt_of (t : RT) (u : World) (hz : ∀ s ∈ nds t, szN s) (h : Kd u) : CkAt (fun t => (ckE t).toNat) u t := fun W B v hb hv =>
  (check_any t v W (hv.mono (Nat.zero_le _)) hz (h.below hb)).mono (by
    rintro e w1 ⟨rfl, hb1⟩
    exact ⟨by rw [Int.toNat_of_nonneg (ckE_nn t)], hb1⟩)
end Go.Proofs.YtmmkboldkaehgaaGreatDoor.Ru
