/- RULES: THE DOCUMENT'S fits, node. Own work of the verifier. -/
import Derived.Test.YtibahfopmjiffaaGreatDoorSBH
import Derived.Deep.RegionHeld3
import Derived.Test.YtibahfopmjiffaaGreatDoorSBJ
import Derived.Test.YtibahfopmjiffaaGreatDoorSAE
import Derived.Test.YtibahfopmjiffaaGreatDoorSBG
set_option maxRecDepth 100000
set_option maxHeartbeats 4000000
namespace Go.Proofs.YtibahfopmjiffaaGreatDoor.Ru
open Go.RowKit Me
theorem bD' {a w:World} (h:Below a.heap.size a w):Below a.heap.size a w.drew:=⟨h.os,h.tape,h.output,h.size,h.block⟩
mutual
def fitB:RT→Bool
  | .mk k _ _ _ _ _ _ ar=>fitL (decide (19≤k)) ar
def fitL (b:Bool):List RT→Bool
  | []=>true
  | t::ar=>(decide (13≤t.kd) == b) && fitB t && fitL b ar
end
theorem fitL_drop (b:Bool) (ar:List RT) (i:Nat) (h:i < ar.length):fitL b (ar.drop i)=((decide (13≤ar[i].kd) == b) && fitB ar[i] && fitL b (ar.drop (i+1))):=by
  rw [List.drop_eq_getElem_cons h,fitL]
theorem dfits_any : ∀ (t : RT) (v : Value) (w : World), RV 0 w t v →
    Calls Tryz.prog 27 #[v] w fun e w' => e = .returned (.bool (fitB t)) ∧ Below w.heap.size w w' := by
  refine RT.ind ?_
  intro k x nm lb wi n d ar ih v w hv
  unfold RV at hv
  obtain ⟨lv, qa, ab, ao, qc, rfl, ⟨la, b1, o1, lc, rfl, hl1, hl2, hl3, hl4⟩, haa, hac, hac2, hrs⟩ := hv
  obtain ⟨W0, hW0⟩ : ∃ W0, W0 = w.alloc (.cells (rc k x nm (.slice la lb.length lc) wi n d (.slice qa ar.length qc)) 26) := ⟨_, rfl⟩
  have hb0 : Below w.heap.size w W0 := by rw [hW0]; exact bel1 w _
  have hn0 : W0.heap[w.heap.size]? = some (.cells (rc k x nm (.slice la lb.length lc) wi n d (.slice qa ar.length qc)) 26) := by rw [hW0]; exact new_1 w _
  have HC : Hid (∀ i (hi : i < ar.length), ∃ c : Array Value, (∃ x' nm' la' ln' lc' w' n' d' aa' an' ac', c = rc ar[i].kd x' nm' (.slice la' ln' lc') w' n' d' (.slice aa' an' ac')) ∧ (∀ W, Below w.heap.size w W → ∀ j (hj : j < c.size), W.cell? ⟨ab, ao + i * 8 + j, none⟩ = some c[j]) ∧ (∀ W, Below w.heap.size w W → Calls Tryz.prog 27 #[.agg c] W fun e w' => e = .returned (.bool (fitB ar[i])) ∧ Below W.heap.size W w')) := fun i hi => by
    obtain ⟨c, h1, h2, h3⟩ := hrs.at_ i hi
    refine ⟨c, ?_, fun W hb j hj => cellH' hb (h3 j hj), fun W hb => ih ar[i] (List.getElem_mem hi) (.agg c) W (h1.below hb)⟩
    clear h3 ih
    generalize ar[i] = t at *
    obtain ⟨k', x', nm', lb', w', n', d', ar'⟩ := t
    unfold RV at h1
    obtain ⟨lv, qa', ab', ao', qc', e, ⟨la', b1', o1', lc', rfl, -⟩, -⟩ := h1
    exact ⟨_, _, _, _, _, _, _, _, _, _, _, Value.agg.inj e⟩
  obtain ⟨Z, hZ⟩ : ∃ Z, Z = fitB (.mk k x nm lb wi n d ar) := ⟨_, rfl⟩
  have HZ0 : Hid (Z = fitL (decide (19 ≤ k)) (ar.drop 0)) := by show _ = _; rw [hZ, List.drop_zero, fitB]
  rw [← hZ]
  have HB0 := hid_of hb0
  have HN0 := hid_of hn0
  have HW0 := hid_of hW0
  have HA := hid_of haa
  have hal : (ar.length : Int) ≤ 9223372036854775807 := by omega
  have sF := store_f
  obtain ⟨kb, hkb⟩ : ∃ b, decide (19 ≤ k) = b := ⟨_, rfl⟩
  rw [hkb] at HZ0
  clear ih hl1 hl2 hl3 hl4 haa hac2 hrs hW0 hb0 hn0 hZ
  go_enter Tryz.func27, Tryz.ntmps27
  go_upto_region 1 with fail
  rw [← HW0.out]
  clear HW0
  go_wp2_with fail
  go_loopw [3] (fun a W => ∃ (i : Nat), i ≤ ar.length ∧ a = .int .i64 (i : Int) ∧ Hid (Z = fitL kb (ar.drop i)) ∧ Hid (Below w.heap.size w W) ∧ Hid (W.heap[w.heap.size]? = some (.cells (rc k x nm (.slice la lb.length lc) wi n d (.slice qa ar.length qc)) 26))) (fun a _ => ar.length - (intOf a).toNat)
  case atStart => exact ⟨0, by omega, rfl, HZ0, HB0, HN0⟩
  case round =>
    clear HB0 HN0 HZ0
    obtain ⟨i, hi, rfl, HZ, HB, HN⟩ := hrel
    obtain ⟨y0, y1, y2, y3, y4, y5, y6, y7⟩ := eight HN.out
    clear y1 y2 y3 y4 y5 y6
    by_cases hlt : i < ar.length
    · have hlt' : (i : Int) < (ar.length : Int) := by omega
      obtain ⟨rfl, -⟩ := HA.out (fun e => by rw [e] at hlt; simp at hlt)
      obtain ⟨c, ⟨x', nm', la', ln', lc', w', n', d', aa', an', ac', rfl⟩, hcs, hcall⟩ := HC.out i hlt
      have D := hid_of hcall
      have hz := HZ.out
      rw [fitL_drop _ _ _ hlt] at hz
      have HT : Hid (∀ W, Calls Tryz.prog 20 #[.int .i64 ar[i].kd] W fun e w' => e = .returned (.bool (decide (13 ≤ ar[i].kd))) ∧ w' = W) := fun W => dtruth_any _ W
      have hix := index_rl ab ao ar.length qc i (i : Int) rfl hlt
      obtain ⟨p1, hp1⟩ : ∃ p, p = ao + i * 8 := ⟨_, rfl⟩
      rw [← hp1] at hix hcs
      have HZ1 := hid_of hz
      clear hp1 hcall HC hz HZ
      have cs := hcs wr HB.out
      have x0 := cs 0 (by show 0 < 8; decide)
      have x1 := cs 1 (by show 1 < 8; decide)
      have x2 := cs 2 (by show 2 < 8; decide)
      have x3 := cs 3 (by show 3 < 8; decide)
      have x4 := cs 4 (by show 4 < 8; decide)
      have x5 := cs 5 (by show 5 < 8; decide)
      have x6 := cs 6 (by show 6 < 8; decide)
      have x7 := cs 7 (by show 7 < 8; decide)
      try simp only [Nat.add_zero] at x0
      clear cs hcs
      generalize decide (13 ≤ ar[i].kd) = tb at *
      generalize ar[i].kd = kk at *
      generalize fitB ar[i] = fb at *
      have hkn : ∀ q : Bool, (q != decide (19 ≤ k)) = (q != kb) := fun q => by rw [hkb]
      by_cases ht : (tb != kb) = true
      · have HE : Hid (Z = false) := by
          show _ = _
          rw [HZ1.out]
          have : (tb == kb) = false := by simpa [bne] using ht
          rw [this]; rfl
        clear HZ1
        by_cases hk : 19 ≤ k
        · have e : kb = true := by rw [← hkb]; exact decide_eq_true hk
          subst e
          have e : tb = false := by simpa using ht
          subst e
          clear hkn hkb ht
          go_wp2_with fail
          go_quiet ((go_at_call 20; exact Calls.quiet_of_same (HT.out _)))
          go_wp2_with fail
          go_ret
          exact ⟨congrArg (fun b : Bool => Ending.returned (.bool b)) HE.out.symm, La.bel_drewN HB.out _⟩
        · have hk' : decide (19 ≤ k) = false := decide_eq_false hk
          have e : kb = false := by rw [← hkb]; exact hk'
          subst e
          have e : tb = true := by simpa using ht
          subst e
          clear hkn hkb ht
          go_wp2_with fail
          go_quiet ((go_at_call 20; exact Calls.quiet_of_same (HT.out _)))
          go_wp2_with fail
          go_ret
          exact ⟨congrArg (fun b : Bool => Ending.returned (.bool b)) HE.out.symm, La.bel_drewN HB.out _⟩
      · have e : tb = kb := by simpa using ht
        subst e
        have HZ2 : Hid (Z = (fb && fitL tb (ar.drop (i + 1)))) := by show _ = _; rw [HZ1.out]; simp
        have hkd : decide (19 ≤ k) = tb := hkb
        clear HZ1 hkn ht hkb
        have HKp : Hid (∀ W, Below wr.heap.size wr W → W.cell? ⟨w.heap.size, 0, none⟩ = some (.int .i64 k) ∧ W.cell? ⟨w.heap.size, 7, none⟩ = some (.slice (some ⟨ab, ao, none⟩) ar.length qc) ∧ W.cell? ⟨ab, p1, none⟩ = some (.int .i64 kk) ∧ W.cell? ⟨ab, p1 + 1, none⟩ = some (.float .f64 x') ∧ W.cell? ⟨ab, p1 + 2, none⟩ = some (.string ⟨nm'.toArray⟩) ∧ W.cell? ⟨ab, p1 + 3, none⟩ = some (.slice la' ln' lc') ∧ W.cell? ⟨ab, p1 + 4, none⟩ = some (.int .i64 w') ∧ W.cell? ⟨ab, p1 + 5, none⟩ = some (.int .i64 n') ∧ W.cell? ⟨ab, p1 + 6, none⟩ = some (.int .i64 d') ∧ W.cell? ⟨ab, p1 + 7, none⟩ = some (.slice aa' an' ac')) := fun W hb => ⟨cellH' hb y0, cellH' hb y7, cellH' hb x0, cellH' hb x1, cellH' hb x2, cellH' hb x3, cellH' hb x4, cellH' hb x5, cellH' hb x6, cellH' hb x7⟩
        have D2 : Hid (∀ W, Below wr.heap.size wr W → Calls Tryz.prog 27 #[rx kk x' nm' (.slice la' ln' lc') w' n' d' (.slice aa' an' ac')] W fun e w' => e = .returned (.bool fb) ∧ Below W.heap.size W w') := fun W hb => D.out W (bt HB.out hb)
        clear D
        cases tb <;> cases fb
        all_goals
          go_wp2_with fail
          go_region_held3 (fun W => W.cell? ⟨w.heap.size, 0, none⟩ = some (.int .i64 k) ∧ W.cell? ⟨w.heap.size, 7, none⟩ = some (.slice (some ⟨ab, ao, none⟩) ar.length qc) ∧ W.cell? ⟨ab, p1, none⟩ = some (.int .i64 kk) ∧ W.cell? ⟨ab, p1 + 1, none⟩ = some (.float .f64 x') ∧ W.cell? ⟨ab, p1 + 2, none⟩ = some (.string ⟨nm'.toArray⟩) ∧ W.cell? ⟨ab, p1 + 3, none⟩ = some (.slice la' ln' lc') ∧ W.cell? ⟨ab, p1 + 4, none⟩ = some (.int .i64 w') ∧ W.cell? ⟨ab, p1 + 5, none⟩ = some (.int .i64 n') ∧ W.cell? ⟨ab, p1 + 6, none⟩ = some (.int .i64 d') ∧ W.cell? ⟨ab, p1 + 7, none⟩ = some (.slice aa' an' ac'))
            (((with_reducible refine HKp.out _ ?_); repeat (first | with_reducible exact hB9 | with_reducible exact Below.refl _ _ | with_reducible refine bD' ?_)))
            (first
              | (go_at_call 20; (with_reducible refine Calls.mono (HT.out _) ?_); rintro e w8 ⟨rfl, rfl⟩)
              | (go_at_call 27; (with_reducible refine Calls.mono (D2.out _ (by repeat (first | with_reducible exact Below.refl _ _ | with_reducible refine bD' ?_))) ?_); rintro e w9 ⟨rfl, hb9⟩; have hB9 : Below wr.heap.size wr w9 := bt (by repeat (first | with_reducible exact Below.refl _ _ | with_reducible refine bD' ?_)) hb9))
          all_goals
            have HB3 : Hid (Below w.heap.size w w9) := bt HB.out hB9
            have HN3 : Hid (w9.heap[w.heap.size]? = some (.cells (rc k x nm (.slice la lb.length lc) wi n d (.slice (some ⟨ab, ao, none⟩) ar.length qc)) 26)) := (hB9.block _ (Array.getElem?_eq_some_iff.1 HN.out).1).trans HN.out
            clear HKp D2 HB HN y0 y7 x0 x1 x2 x3 x4 x5 x6 x7 hix HT
            first
              | (have HE : Hid (Z = false) := by show _ = _; rw [HZ2.out]; rfl
                 clear HZ2
                 go_wp2_with fail
                 go_ret
                 exact ⟨congrArg (fun b : Bool => Ending.returned (.bool b)) HE.out.symm, HB3.out⟩)
              | (have HE := hid_of (HZ2.out.trans (Bool.true_and _))
                 clear HZ2
                 go_wp2_with fail
                 exact ⟨⟨i + 1, by omega, by go_num, HE, HB3, HN3⟩, by simp [intOf]; omega⟩)
    · have hlt' : ¬ (i : Int) < (ar.length : Int) := by omega
      have HE : Hid (Z = true) := by show _ = _; rw [HZ.out, List.drop_eq_nil_of_le (by omega), fitL]
      clear HZ HC
      go_wp2_with fail
      go_ret
      exact ⟨congrArg (fun b : Bool => Ending.returned (.bool b)) HE.out.symm, HB.out⟩
end Go.Proofs.YtibahfopmjiffaaGreatDoor.Ru
/- RULES: THE DOCUMENT'S node. Own work of the verifier. -/
set_option maxRecDepth 100000
set_option maxHeartbeats 4000000
namespace Go.Proofs.YtibahfopmjiffaaGreatDoor.Ru
open Go.RowKit Me
mutual
def nodE:RT→Int
  | .mk k x nm lb w n d ar=>if k < 1∨21 < k then 7 else if dFld k x nm lb.length w n d ar.length=false then 1 else if dSer k=true∧La.chkD ⟨1,nm,[],lb⟩≠0 then La.chkD ⟨1,nm,[],lb⟩ else nodL ar
def nodL:List RT→Int
  | []=>0
  | t::ar=>if nodE t≠0 then nodE t else nodL ar
end
theorem nodL_drop (ar:List RT) (i:Nat) (h:i < ar.length):nodL (ar.drop i)=if nodE ar[i]≠0 then nodE ar[i] else nodL (ar.drop (i+1)):=by
  rw [List.drop_eq_getElem_cons h,nodL]
theorem dnode_any:∀ (t:RT) (v:Value) (w:World),RV 0 w t v→(∀ s ∈ nds t,szN s) →
    Calls Tryz.prog 26 #[v] w fun e w'=>e=.returned (.int .i64 (nodE t))∧Below w.heap.size w w':=by
  refine RT.ind ?_
  intro k x nm lb wi n d ar ih v w hv hz
  have hch:∀ i (hi:i < ar.length),∀ s ∈ nds ar[i],szN s:=fun i hi s hs=>hz s (by
    unfold nds
    exact List.mem_cons_of_mem _ (ndsL_mem (List.getElem_mem hi) hs))
  obtain ⟨hx,hds⟩:x < 18446744073709551616∧La.DsS ⟨1,nm,[],lb⟩:=hz _ (nds_self _)
  unfold RV at hv
  obtain ⟨lv,qa,ab,ao,qc,rfl,⟨la,b1,o1,lc,rfl,hl1,hl2,hl3,hl4⟩,haa,hac,hac2,hrs⟩:=hv
  obtain ⟨W0,hW0⟩:∃ W0,W0=w.alloc (.cells (rc k x nm (.slice la lb.length lc) wi n d (.slice qa ar.length qc)) 26):=⟨_,rfl⟩
  have hb0:Below w.heap.size w W0:=by rw [hW0];exact bel1 w _
  have hn0:W0.heap[w.heap.size]? =some (.cells (rc k x nm (.slice la lb.length lc) wi n d (.slice qa ar.length qc)) 26):=by rw [hW0];exact new_1 w _
  have HC:Hid (∀ i (hi:i < ar.length),∃ c:Array Value,IsRc c∧(∀ W,Below w.heap.size w W→∀ j (hj:j < c.size),W.cell? ⟨ab,ao+i*8+j,none⟩=some c[j])∧(∀ W,Below w.heap.size w W→Calls Tryz.prog 26 #[.agg c] W fun e w'=>e=.returned (.int .i64 (nodE ar[i]))∧Below W.heap.size W w')):=fun i hi=>by
    obtain ⟨c,h1,h2,h3⟩:=hrs.at_ i hi
    refine ⟨c,?_,fun W hb j hj=>cellH' hb (h3 j hj),fun W hb=>ih ar[i] (List.getElem_mem hi) (.agg c) W (h1.below hb) (hch i hi)⟩
    obtain ⟨k',x',nm',la',ln',lc',w',n',d',aa',an',ac',e⟩:=h1.form
    exact ⟨k',x',nm',la',ln',lc',w',n',d',aa',an',ac',by cases e;rfl⟩
  have HF:Hid (∀ W,Calls Tryz.prog 43 #[rx k x nm (.slice la lb.length lc) wi n d (.slice qa ar.length qc)] W fun e w'=>e=.returned (.bool (dFld k x nm lb.length wi n d ar.length))∧Below W.heap.size W w'):=fun W=>dfields_any k x nm la lb.length lc wi n d qa ar.length qc hx W
  have HS:Hid (∀ W,Calls Tryz.prog 38 #[.int .i64 k] W fun e w'=>e=.returned (.bool (dSer k))∧w'=W):=fun W=>dser_any k W
  have HK:Hid (∀ W,Below w.heap.size w W→Calls Tryz.prog 44 #[.agg #[.int .i64 1,.string ⟨nm.toArray⟩,.string ⟨#[]⟩,.slice la lb.length lc]] W fun e w'=>e=.returned (.int .i64 (La.chkD ⟨1,nm,[],lb⟩))∧Below W.heap.size W w'):=fun W hb=>La.dcheck_any ⟨1,nm,[],lb⟩ _ W ⟨la,b1,o1,lc,rfl,fun e=>(hl1 e).1,Nat.le_trans hl2 hl3,hl4.below hb⟩ hds
  obtain ⟨Z,hZ⟩:∃ Z,Z=nodE (.mk k x nm lb wi n d ar):=⟨_,rfl⟩
  have HZ:Hid (Z=if k < 1∨21 < k then 7 else if dFld k x nm lb.length wi n d ar.length=false then 1 else if dSer k=true∧La.chkD ⟨1,nm,[],lb⟩≠0 then La.chkD ⟨1,nm,[],lb⟩ else nodL ar):=by show _=_;rw [hZ,nodE]
  rw [← hZ]
  have HB0:=hid_of hb0
  have HN0:=hid_of hn0
  have HW0:=hid_of hW0
  have HA:=hid_of haa
  have hal:(ar.length:Int)≤9223372036854775807:=by omega
  have sF:=store_f
  clear ih hz hch hds hx hl1 hl2 hl3 hl4 haa hac2 hrs hW0 hb0 hn0 hZ
  generalize dFld k x nm lb.length wi n d ar.length=fb at *
  generalize dSer k=sb at *
  generalize La.chkD ⟨1,nm,[],lb⟩=cd at *
  go_enter Tryz.func26,Tryz.ntmps26
  go_upto_region 1 with fail
  rw [← HW0.out]
  clear HW0
  obtain ⟨y0,y1,y2,y3,y4,y5,y6,y7⟩:=eight HN0.out
  by_cases g1:k < 1
  · have HE:Hid (Z=7):=by show _=_;rw [HZ.out,if_pos (Or.inl g1)]
    clear HZ HC HF HS HK
    go_wp2_with fail
    go_ret
    exact ⟨congrArg (fun b:Int=>Ending.returned (.int .i64 b)) HE.out.symm,HB0.out⟩
  by_cases g2:21 < k
  · have HE:Hid (Z=7):=by show _=_;rw [HZ.out,if_pos (Or.inr g2)]
    clear HZ HC HF HS HK
    go_wp2_with fail
    go_ret
    exact ⟨congrArg (fun b:Int=>Ending.returned (.int .i64 b)) HE.out.symm,HB0.out⟩
  have HZ1:Hid (Z=if fb=false then 1 else if sb=true∧cd≠0 then cd else nodL ar):=by show _=_;rw [HZ.out,if_neg (by omega)]
  clear HZ
  go_wp2_with fail
  refine Calls.mono (HF.out _) ?_
  rintro e w1 ⟨rfl,hb1⟩
  have HB1:=hid_of (bt HB0.out hb1)
  have HN1:Hid (w1.heap[w.heap.size]? =some (.cells (rc k x nm (.slice la lb.length lc) wi n d (.slice qa ar.length qc)) 26)):=(hb1.block _ (Array.getElem?_eq_some_iff.1 HN0.out).1).trans HN0.out
  clear HF hb1 HB0 HN0 y0 y1 y2 y3 y4 y5 y6 y7
  obtain ⟨y0,y1,y2,y3,y4,y5,y6,y7⟩:=eight HN1.out
  cases fb
  · have HE:Hid (Z=1):=by show _=_;rw [HZ1.out,if_pos rfl]
    clear HZ1 HC HS HK
    go_wp2_with fail
    go_ret
    exact ⟨congrArg (fun b:Int=>Ending.returned (.int .i64 b)) HE.out.symm,HB1.out⟩
  have HZ2:Hid (Z=if sb=true∧cd≠0 then cd else nodL ar):=by show _=_;rw [HZ1.out,if_neg (by decide)]
  clear HZ1
  cases sb
  · have HE:Hid (Z=nodL (ar.drop 0)):=by show _=_;rw [HZ2.out,if_neg (fun q=>by cases q.1),List.drop_zero]
    clear HZ2 HK
    go_wp2_with fail
    refine Calls.mono (HS.out _) ?_
    rintro e w2 ⟨rfl,rfl⟩
    clear HS
    go_wp2_with fail
    go_loopw [4] (fun a W=>∃ (i:Nat),i≤ar.length∧a=.int .i64 (i:Int)∧Hid (Z=nodL (ar.drop i))∧Hid (Below w.heap.size w W)∧Hid (W.heap[w.heap.size]? =some (.cells (rc k x nm (.slice la lb.length lc) wi n d (.slice qa ar.length qc)) 26))) (fun a _=>ar.length - (intOf a).toNat)
    case atStart=>exact ⟨0,by omega,rfl,HE,HB1,HN1⟩
    case round =>
      clear HB1 HN1 HE
      obtain ⟨i,hi,rfl,HZ,HB,HN⟩:=hrel
      obtain ⟨y0,y1,y2,y3,y4,y5,y6,y7⟩:=eight HN.out
      clear y0 y1 y2 y3 y4 y5 y6
      by_cases hlt:i < ar.length
      · have hlt':(i:Int) < (ar.length:Int):=by omega
        obtain ⟨rfl,-⟩:=HA.out (fun e=>by rw [e] at hlt;simp at hlt)
        obtain ⟨c,⟨k',x',nm',la',ln',lc',w',n',d',aa',an',ac',rfl⟩,hcs,hcall⟩:=HC.out i hlt
        have hz:=HZ.out
        rw [nodL_drop _ _ hlt] at hz
        have HZ1:=hid_of hz
        have D:La.HidC _ _ _ _ _:=hcall wr HB.out
        have hix:=index_rl ab ao ar.length qc i (i:Int) rfl hlt
        obtain ⟨p1,hp1⟩:∃ p,p=ao+i*8:=⟨_,rfl⟩
        rw [← hp1] at hix hcs
        clear hp1 hcall HC hz HZ
        have cs:=hcs wr HB.out
        have x0:=cs 0 (by show 0 < 8;decide)
        have x1:=cs 1 (by show 1 < 8;decide)
        have x2:=cs 2 (by show 2 < 8;decide)
        have x3:=cs 3 (by show 3 < 8;decide)
        have x4:=cs 4 (by show 4 < 8;decide)
        have x5:=cs 5 (by show 5 < 8;decide)
        have x6:=cs 6 (by show 6 < 8;decide)
        have x7:=cs 7 (by show 7 < 8;decide)
        try simp only [Nat.add_zero] at x0
        clear cs hcs
        generalize nodE ar[i]=z1 at *
        go_wp2_with fail
        refine Calls.mono D.out ?_
        rintro e w3 ⟨rfl,hb3⟩
        have HB3:=hid_of (bt HB.out hb3)
        have HN3:=hid_of ((hb3.block _ (Array.getElem?_eq_some_iff.1 HN.out).1).trans HN.out)
        clear D hb3 HB HN y7 x0 x1 x2 x3 x4 x5 x6 x7 hix
        by_cases hz1:z1=0
        · subst hz1
          have HE:=hid_of (HZ1.out.trans (if_neg (fun q=>q rfl)))
          clear HZ1
          go_wp2_with fail
          exact ⟨⟨i+1,by omega,by go_num,HE,HB3,HN3⟩,by simp [intOf];omega⟩
        · have HE:=hid_of (HZ1.out.trans (if_pos hz1))
          have hb1:(z1 != 0)=true:=by rw [bne_iff_ne];exact hz1
          clear HZ1 hz1
          go_wp2_with fail
          go_ret
          exact ⟨congrArg (fun b:Int=>Ending.returned (.int .i64 b)) HE.out.symm,HB3.out⟩
      · have hlt':¬ (i:Int) < (ar.length:Int):=by omega
        have HE:Hid (Z=0):=by show _=_;rw [HZ.out,List.drop_eq_nil_of_le (by omega),nodL]
        clear HZ HC
        go_wp2_with fail
        go_ret
        exact ⟨congrArg (fun b:Int=>Ending.returned (.int .i64 b)) HE.out.symm,HB.out⟩
  · go_wp2_with fail
    refine Calls.mono (HS.out _) ?_
    rintro e w2 ⟨rfl,rfl⟩
    clear HS
    go_wp2_with fail
    refine Calls.mono (HK.out _ HB1.out) ?_
    rintro e w3 ⟨rfl,hb3⟩
    have HB2:=hid_of (bt HB1.out hb3)
    have HN2:Hid (w3.heap[w.heap.size]? =some (.cells (rc k x nm (.slice la lb.length lc) wi n d (.slice qa ar.length qc)) 26)):=(hb3.block _ (Array.getElem?_eq_some_iff.1 HN1.out).1).trans HN1.out
    clear HK hb3 HB1 HN1 y0 y1 y2 y3 y4 y5 y6 y7
    by_cases hc:cd=0
    case neg =>
      have HE:=hid_of (HZ2.out.trans (if_pos (by simpa using hc)))
      have hb1:(cd != 0)=true:=by rw [bne_iff_ne];exact hc
      clear HZ2 hc HC
      go_wp2_with fail
      go_ret
      exact ⟨congrArg (fun b:Int=>Ending.returned (.int .i64 b)) HE.out.symm,HB2.out⟩
    subst hc
    have HE:Hid (Z=nodL (ar.drop 0)):=by show _=_;rw [HZ2.out,if_neg (fun q=>q.2 rfl),List.drop_zero]
    clear HZ2
    go_wp2_with fail
    go_loopw [4] (fun a W=>∃ (i:Nat),i≤ar.length∧a=.int .i64 (i:Int)∧Hid (Z=nodL (ar.drop i))∧Hid (Below w.heap.size w W)∧Hid (W.heap[w.heap.size]? =some (.cells (rc k x nm (.slice la lb.length lc) wi n d (.slice qa ar.length qc)) 26))) (fun a _=>ar.length - (intOf a).toNat)
    case atStart=>exact ⟨0,by omega,rfl,HE,HB2,HN2⟩
    case round =>
      clear HB2 HN2 HE
      obtain ⟨i,hi,rfl,HZ,HB,HN⟩:=hrel
      obtain ⟨y0,y1,y2,y3,y4,y5,y6,y7⟩:=eight HN.out
      clear y0 y1 y2 y3 y4 y5 y6
      by_cases hlt:i < ar.length
      · have hlt':(i:Int) < (ar.length:Int):=by omega
        obtain ⟨rfl,-⟩:=HA.out (fun e=>by rw [e] at hlt;simp at hlt)
        obtain ⟨c,⟨k',x',nm',la',ln',lc',w',n',d',aa',an',ac',rfl⟩,hcs,hcall⟩:=HC.out i hlt
        have hz:=HZ.out
        rw [nodL_drop _ _ hlt] at hz
        have HZ1:=hid_of hz
        have D:La.HidC _ _ _ _ _:=hcall wr HB.out
        have hix:=index_rl ab ao ar.length qc i (i:Int) rfl hlt
        obtain ⟨p1,hp1⟩:∃ p,p=ao+i*8:=⟨_,rfl⟩
        rw [← hp1] at hix hcs
        clear hp1 hcall HC hz HZ
        have cs:=hcs wr HB.out
        have x0:=cs 0 (by show 0 < 8;decide)
        have x1:=cs 1 (by show 1 < 8;decide)
        have x2:=cs 2 (by show 2 < 8;decide)
        have x3:=cs 3 (by show 3 < 8;decide)
        have x4:=cs 4 (by show 4 < 8;decide)
        have x5:=cs 5 (by show 5 < 8;decide)
        have x6:=cs 6 (by show 6 < 8;decide)
        have x7:=cs 7 (by show 7 < 8;decide)
        try simp only [Nat.add_zero] at x0
        clear cs hcs
        generalize nodE ar[i]=z1 at *
        go_wp2_with fail
        refine Calls.mono D.out ?_
        rintro e w3 ⟨rfl,hb3⟩
        have HB3:=hid_of (bt HB.out hb3)
        have HN3:=hid_of ((hb3.block _ (Array.getElem?_eq_some_iff.1 HN.out).1).trans HN.out)
        clear D hb3 HB HN y7 x0 x1 x2 x3 x4 x5 x6 x7 hix
        by_cases hz1:z1=0
        · subst hz1
          have HE:=hid_of (HZ1.out.trans (if_neg (fun q=>q rfl)))
          clear HZ1
          go_wp2_with fail
          exact ⟨⟨i+1,by omega,by go_num,HE,HB3,HN3⟩,by simp [intOf];omega⟩
        · have HE:=hid_of (HZ1.out.trans (if_pos hz1))
          have hb1:(z1 != 0)=true:=by rw [bne_iff_ne];exact hz1
          clear HZ1 hz1
          go_wp2_with fail
          go_ret
          exact ⟨congrArg (fun b:Int=>Ending.returned (.int .i64 b)) HE.out.symm,HB3.out⟩
      · have hlt':¬ (i:Int) < (ar.length:Int):=by omega
        have HE:Hid (Z=0):=by show _=_;rw [HZ.out,List.drop_eq_nil_of_le (by omega),nodL]
        clear HZ HC
        go_wp2_with fail
        go_ret
        exact ⟨congrArg (fun b:Int=>Ending.returned (.int .i64 b)) HE.out.symm,HB.out⟩
end Go.Proofs.YtibahfopmjiffaaGreatDoor.Ru
/- RULES: what Check tells is a number of the list. Own work of the verifier. -/
namespace Go.Proofs.YtibahfopmjiffaaGreatDoor.Ru
open Go.RowKit Me
theorem txE_nn (l:List UInt8):0≤La.txE l:=by
  unfold La.txE
  repeat' split
  all_goals omega
theorem bhE_nn (a b:List UInt8):0≤La.bhE a b:=by
  unfold La.bhE
  repeat' split
  all_goals omega
theorem chkL_nn:∀ (l:List La.Lb) (p:Option (List UInt8)),0≤La.chkL l p
  | [],_=>by unfold La.chkL;omega
  | a::r,p=>by
    have h1:=txE_nn a.2
    have h3:=chkL_nn r (some a.1)
    unfold La.chkL
    split
    · omega
    · split
      · exact h1
      · cases p with
        | none=>exact h3
        | some q =>
          show 0≤(if La.bhE q a.1≠0 then La.bhE q a.1 else La.chkL r (some a.1))
          split
          · exact bhE_nn _ _
          · exact h3
theorem chkD_nn (d:La.Ds):0≤La.chkD d:=by
  have h1:=txE_nn d.help
  have h2:=chkL_nn d.labels none
  unfold La.chkD
  repeat' split
  all_goals omega
theorem okN_nn:∀ t:RT,0≤okN t
  | .mk k x nm lb w n d ar=>by
    have:=chkD_nn ⟨1,nm,[],lb⟩
    show 0≤ndE _ _ _ _ _ _ _ _
    unfold ndE
    repeat' split
    all_goals omega
theorem typE_nn:∀ t:RT,0≤typE t:=by
  refine RT.ind ?_
  intro k x nm lb w n d ar ih
  unfold typE
  generalize (decide (shp k=6) || decide (shp k=7))=b
  induction ar with
  | nil=>unfold typL;omega
  | cons a ar hi =>
    unfold typL
    split
    · exact ih a List.mem_cons_self
    · split
      · omega
      · exact hi (fun q hq=>ih q (List.mem_cons_of_mem _ hq))
theorem fstE_nn:∀ r:List RT,0≤fstE r
  | []=>by unfold fstE;omega
  | t::r=>by
    unfold fstE
    split
    · exact okN_nn t
    · exact fstE_nn r
theorem ckE_nn (t:RT):0≤ckE t:=by
  have h1:=typE_nn t
  have h2:=fstE_nn (nds t)
  unfold ckE chkE
  repeat' split
  all_goals omega
theorem ckAt_of (t:RT) (u:World) (hz:∀ s ∈ nds t,szN s) (h:Kd u):CkAt (fun t=>(ckE t).toNat) u t:=fun W B v hb hv =>
  (check_any t v W (hv.mono (Nat.zero_le _)) hz (h.below hb)).mono (by
    rintro e w1 ⟨rfl,hb1⟩
    exact ⟨by rw [Int.toNat_of_nonneg (ckE_nn t)],hb1⟩)
end Go.Proofs.YtibahfopmjiffaaGreatDoor.Ru
/- RULES: WHAT THE DOCUMENT'S Check TELLS IS WHAT THE CODE'S TELLS. Own work of the verifier. -/
namespace Go.Proofs.YtibahfopmjiffaaGreatDoor.Ru
open Go.RowKit Me
theorem shp_val (k:Int) (h:1≤k∧k≤21):shp k=if k=1 then 1 else if k≤7 then 2 else if k=8 then 3 else if k≤12 then 4 else if k≤18 then 5 else if k≤20 then 6 else 7:=by
  have:k=1∨k=2∨k=3∨k=4∨k=5∨k=6∨k=7∨k=8∨k=9∨k=10∨k=11∨k=12∨k=13∨k=14∨k=15∨k=16∨k=17∨k=18∨k=19∨k=20∨k=21:=by omega
  rcases this with rfl | rfl | rfl | rfl | rfl | rfl | rfl | rfl | rfl | rfl | rfl | rfl | rfl | rfl | rfl | rfl | rfl | rfl | rfl | rfl | rfl
  all_goals decide
theorem shp_out (k:Int) (h:k < 1∨21 < k):shp k=0:=by
  unfold shp kwI
  split
  · have:k=0:=by omega
    subst this
    rfl
  · rfl
theorem ne_b (al m:Nat):((al:Int) != (m:Int))=!decide (al=m):=by
  unfold bne
  congr 1
  by_cases h:al=m
  · rw [decide_eq_true h,beq_iff_eq,h]
  · rw [decide_eq_false h,beq_eq_false_iff_ne];omega
theorem lt_b (ln:Nat):decide (0 < ln)=!decide (ln=0):=by
  by_cases h:ln=0
  · subst h;rfl
  · rw [decide_eq_true (Nat.pos_of_ne_zero h),decide_eq_false h];rfl
theorem lt1_b (w:Int):decide (w < 1)=!decide (1≤w):=by
  by_cases h:1≤w
  · rw [decide_eq_true h,decide_eq_false (by omega)];rfl
  · rw [decide_eq_false h,decide_eq_true (by omega)];rfl
theorem gtm_b (w:Int):decide (4611686018427387904 < w)=!decide (w≤4611686018427387904):=by
  by_cases h:w≤4611686018427387904
  · rw [decide_eq_true h,decide_eq_false (by omega)];rfl
  · rw [decide_eq_false h,decide_eq_true (by omega)];rfl
theorem sF_00:Re.sF 0 0=true:=by decide
theorem sg_b (x:Nat):(Re.sg (Re.rk x) (Re.rk 0) != 0)=!Re.sF x 0:=rfl
theorem fields_eq (k:Int) (h:1≤k∧k≤21) (x:Nat) (nm:List UInt8) (ln:Nat) (w n d:Int) (al:Nat):dFld k x nm ln w n d al=(smO (shp k) x nm ln w n d al && hldB (shp k) x w n d al):=by
  rw [shp_val k h]
  have n0:=ne_b al 0
  have n1:=ne_b al 1
  have n2:=ne_b al 2
  have key:∀ c:Prop,True:=fun _=>trivial
  clear key
  unfold dFld nmd
  rw [lt_b,lt1_b,gtm_b,sg_b]
  by_cases c1:k=1
  · subst c1
    rw [if_pos rfl,show dAr 1=((0:Nat):Int) from rfl,n0]
    unfold smO hldB s0B
    simp only [if_true,sF_00,show dSer 1=false from rfl,bne,show ((1:Int) == 8)=false from rfl,show ((1:Int) == 1)=true from rfl]
    generalize decide (al=0)=b0,(nm == [])=b1,decide (ln=0)=b2,(w == 0)=b3,(n == 0)=b4,(d == 0)=b5,Re.finF x=b6
    simp
    revert b0 b1 b2 b3 b4 b5 b6
    decide
  rw [if_neg c1]
  have e1:(k == 1)=false:=beq_eq_false_iff_ne.2 c1
  by_cases c2:k≤7
  · have e8:(k == 8)=false:=beq_eq_false_iff_ne.2 (by omega)
    have es:dSer k=true:=by unfold dSer;rw [decide_eq_true (by omega),decide_eq_true (by omega)];rfl
    have ea:dAr k=((0:Nat):Int):=by unfold dAr;rw [if_neg (by omega),if_neg (by omega)];rfl
    rw [if_pos c2,ea,n0]
    unfold smO hldB s0B winB
    simp only [es,bne,e1,e8]
    generalize decide (al=0)=b0,(n == 0)=b4,(d == 0)=b5,Re.sF x 0=b6,decide (1≤w)=b7,decide (w≤4611686018427387904)=b8
    simp
    revert b0 b4 b5 b6 b7 b8
    decide
  rw [if_neg c2]
  by_cases c3:k=8
  · subst c3
    rw [if_pos rfl,show dAr 8=((0:Nat):Int) from rfl,n0]
    unfold smO hldB s0B winB shrB
    simp only [show dSer 8=true from rfl,bne,show ((8:Int) == 8)=true from rfl,show ((8:Int) == 1)=false from rfl]
    generalize decide (al=0)=b0,Re.sF x 0=b6,decide (1≤w)=b7,decide (w≤4611686018427387904)=b8,decide (1≤d)=b9,decide (0≤n)=ba,decide (n≤d)=bb
    simp
    revert b0 b6 b7 b8 b9 ba bb
    decide
  rw [if_neg c3]
  have e8:(k == 8)=false:=beq_eq_false_iff_ne.2 c3
  have es:dSer k=false:=by unfold dSer;rw [decide_eq_false (by omega:¬ k≤8),Bool.and_false]
  by_cases c4:k≤20
  · have ea:dAr k=((2:Nat):Int):=by unfold dAr;rw [if_neg (by omega),if_pos (by omega)];rfl
    have sh:∃ s,(if k≤12 then 4 else if k≤18 then 5 else if k≤20 then 6 else 7)=s∧(s=4∨s=5∨s=6):=by
      refine ⟨_,rfl,?_⟩
      repeat' split
      all_goals omega
    obtain ⟨s,h1,h2⟩:=sh
    rw [h1,ea,n2]
    unfold smO hldB s0B
    rw [if_neg (by omega),if_neg (by omega),if_neg (by omega),if_neg (by omega),if_neg (by omega),if_neg (by omega),if_neg (by omega)]
    simp only [es,bne,e1,e8]
    generalize decide (al=2)=b0,(nm == [])=b1,decide (ln=0)=b2,(w == 0)=b3,(n == 0)=b4,(d == 0)=b5,Re.sF x 0=b6
    simp
    revert b0 b1 b2 b3 b4 b5 b6
    decide
  · have c5:k=21:=by omega
    subst c5
    rw [show dAr 21=((1:Nat):Int) from rfl,n1]
    unfold smO hldB s0B
    simp only [show dSer 21=false from rfl,bne,show ((21:Int) == 8)=false from rfl,show ((21:Int) == 1)=false from rfl]
    generalize decide (al=1)=b0,(nm == [])=b1,decide (ln=0)=b2,(w == 0)=b3,(n == 0)=b4,(d == 0)=b5,Re.sF x 0=b6
    simp
    revert b0 b1 b2 b3 b4 b5 b6
    decide
theorem ser_shp (k:Int) (h:1≤k∧k≤21):(shp k=2∨shp k=3) ↔ dSer k=true:=by
  rw [shp_val k h]
  unfold dSer
  rw [Bool.and_eq_true,decide_eq_true_eq,decide_eq_true_eq]
  repeat' split
  all_goals omega
theorem shp_pos (k:Int) (h:1≤k∧k≤21):shp k≠0:=by
  rw [shp_val k h]
  repeat' split
  all_goals omega
theorem okN_doc (k:Int) (x:Nat) (nm:List UInt8) (lb:List La.Lb) (w n d:Int) (ar:List RT) :
    okN (.mk k x nm lb w n d ar)=if k < 1∨21 < k then 7 else if dFld k x nm lb.length w n d ar.length=false then 1 else if dSer k=true∧La.chkD ⟨1,nm,[],lb⟩≠0 then La.chkD ⟨1,nm,[],lb⟩ else 0:=by
  show ndE (shp k) x nm lb w n d ar.length=_
  unfold ndE
  by_cases h:k < 1∨21 < k
  · rw [if_pos h,if_pos (shp_out k h)]
  · have hr:1≤k∧k≤21:=by omega
    rw [if_neg h,if_neg (shp_pos k hr),fields_eq k hr]
    have hs:=ser_shp k hr
    cases smO (shp k) x nm lb.length w n d ar.length
    · rfl
    · cases hldB (shp k) x w n d ar.length
      · rfl
      · simp only [Bool.and_self,Bool.true_eq_false,if_false]
        by_cases hd:dSer k=true
        · rw [if_pos (hs.2 hd)]
          by_cases hc:La.chkD ⟨1,nm,[],lb⟩=0
          · rw [hc,if_neg (fun q=>q.2 rfl)]
          · rw [if_pos ⟨hd,hc⟩]
        · rw [if_neg (fun q=>hd (hs.1 q)),if_neg (fun q=>hd q.1)]
theorem fstE_app:∀ (a b:List RT),fstE (a++b)=if fstE a≠0 then fstE a else fstE b
  | [],b=>by simp [fstE]
  | t::a,b=>by
    rw [List.cons_append,fstE,fstE,fstE_app a b]
    by_cases h:okN t=0
    · simp [h]
    · simp [h]
theorem nodL_eq:∀ (ar:List RT),(∀ a ∈ ar,nodE a=fstE (nds a))→nodL ar=fstE (ndsL ar)
  | [],_=>by unfold nodL ndsL fstE;rfl
  | t::ar,h=>by
    unfold nodL ndsL
    rw [fstE_app,h t List.mem_cons_self,nodL_eq ar (fun a ha=>h a (List.mem_cons_of_mem _ ha))]
theorem nodE_eq:∀ t:RT,nodE t=fstE (nds t):=by
  refine RT.ind ?_
  intro k x nm lb w n d ar ih
  have h:=okN_doc k x nm lb w n d ar
  unfold nodE nds fstE
  rw [h,nodL_eq ar ih]
  by_cases h1:k < 1∨21 < k
  · rw [if_pos h1,if_pos h1,if_pos (by decide)]
  · rw [if_neg h1,if_neg h1]
    cases dFld k x nm lb.length w n d ar.length
    · rw [if_pos rfl,if_pos rfl,if_pos (by decide)]
    · simp only [Bool.true_eq_false,if_false]
      by_cases hc:dSer k=true∧La.chkD ⟨1,nm,[],lb⟩≠0
      · rw [if_pos hc,if_pos hc,if_pos hc.2]
      · rw [if_neg hc,if_neg hc,if_neg (fun q=>q rfl)]
theorem ok_range {t:RT} (h:okN t=0):1≤t.kd∧t.kd≤21:=by
  obtain ⟨k,x,nm,lb,w,n,d,ar⟩:=t
  rw [okN_doc] at h
  by_cases h1:k < 1∨21 < k
  · rw [if_pos h1] at h;exact absurd h (by decide)
  · show 1≤k∧k≤21
    omega
theorem tr_kd (k:Int) (h:1≤k∧k≤21):trB (shp k)=decide (13≤k):=by
  unfold trB
  rw [shp_val k h]
  apply decide_eq_decide.2
  repeat' split
  all_goals omega
theorem want_kd (k:Int) (h:1≤k∧k≤21):(decide (shp k=6) || decide (shp k=7))=decide (19≤k):=by
  rw [shp_val k h,Bool.eq_iff_iff,Bool.or_eq_true,decide_eq_true_eq,decide_eq_true_eq,decide_eq_true_eq]
  repeat' split
  all_goals omega
theorem typL_fit (b:Bool):∀ (ar:List RT),(∀ a ∈ ar,typE a=(if fitB a then 0 else 17)∧okN a=0)→typL b ar=if fitL b ar then 0 else 17
  | [],_=>by unfold typL fitL;rfl
  | t::ar,h=>by
    obtain ⟨h1,h2⟩:=h t List.mem_cons_self
    have h3:=typL_fit b ar (fun a ha=>h a (List.mem_cons_of_mem _ ha))
    unfold typL fitL
    rw [h1,h3,tr_kd _ (ok_range h2)]
    generalize decide (13≤t.kd)=u
    cases fitB t <;> cases u <;> cases b <;> cases fitL _ ar <;> rfl
theorem typE_fit:∀ t:RT,(∀ s ∈ nds t,okN s=0)→typE t=if fitB t then 0 else 17:=by
  refine RT.ind ?_
  intro k x nm lb w n d ar ih h
  have h0:=ok_range (h _ (nds_self _))
  unfold typE fitB
  rw [want_kd k h0]
  refine typL_fit _ ar (fun a ha=>?_)
  have hs:∀ s ∈ nds a,okN s=0:=fun s hs=>h s (by
    unfold nds
    exact List.mem_cons_of_mem _ (ndsL_mem ha hs))
  exact ⟨ih a ha hs,hs _ (nds_self a)⟩
def dckE (t:RT):Int:=if 512 < ndC (nds t).length 512 then 3 else if nodE t≠0 then nodE t else if fitB t=false then 17 else 0
theorem ck_eq (t:RT):dckE t=ckE t:=by
  have hn:512 < ndC (nds t).length 512 ↔ 512 < (nds t).length:=by
    unfold ndC
    split <;> omega
  unfold dckE ckE chkE
  rw [nodE_eq]
  by_cases h:512 < (nds t).length
  · rw [if_pos (hn.2 h),if_pos h,if_pos (by decide)]
  · rw [if_neg (fun q=>h (hn.1 q)),if_neg h]
    by_cases h0:fstE (nds t)=0
    · rw [typE_fit t (fstE_zero.1 h0),h0]
      cases fitB t <;> rfl
    · rw [if_pos h0,if_pos h0]
theorem tr_kd0 {t:RT} (h:ckE t=0):trB (shp t.kd)=decide (13≤t.kd):=by
  have hk:chkE t=0:=by
    unfold ckE at h
    by_cases q:chkE t=0
    · exact q
    · rw [if_pos q] at h;exact h
  exact tr_kd _ (ok_range (chkE_zero hk _ (nds_self t)))
end Go.Proofs.YtibahfopmjiffaaGreatDoor.Ru
/- RULES: THE DOCUMENT'S word, sign. Own work of the verifier. -/
set_option maxHeartbeats 1000000
namespace Go.Proofs.YtibahfopmjiffaaGreatDoor.Ru
open Go.RowKit Me
theorem dword_any (k:Int) (h:2≤k∧k≤8) (w:World):Calls Tryz.prog 39 #[.int .i64 k] w fun e w'=>e=.returned (.string ⟨(kwI k).2.toArray⟩)∧w'=w:=by
  have:k=2∨k=3∨k=4∨k=5∨k=6∨k=7∨k=8:=by omega
  clear h
  rcases this with rfl | rfl | rfl | rfl | rfl | rfl | rfl
  all_goals
    go_enter Tryz.func39,Tryz.ntmps39
    go_wp2_with fail
    go_ret
    exact ⟨rfl,rfl⟩
theorem dsign_any (k:Int) (h:9≤k∧k≤20) (w:World):Calls Tryz.prog 42 #[.int .i64 k] w fun e w'=>e=.returned (.string ⟨(kwI k).2.toArray⟩)∧Below w.heap.size w w':=by
  have:k=9∨k=10∨k=11∨k=12∨k=13∨k=14∨k=15∨k=16∨k=17∨k=18∨k=19∨k=20:=by omega
  clear h
  rcases this with rfl | rfl | rfl | rfl | rfl | rfl | rfl | rfl | rfl | rfl | rfl | rfl
  all_goals
    go_enter Tryz.func42,Tryz.ntmps42
    go_wp2_with fail
    go_ret
    exact ⟨rfl,by first | exact bel1 w _ | exact (bel1 w _).setCell (Nat.le_refl _) _⟩
end Go.Proofs.YtibahfopmjiffaaGreatDoor.Ru
