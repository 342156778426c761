/- RULES: THE DOCUMENT'S SAME OF ANY TWO RULES (printed by gen_vq.py). Own work of the verifier. -/
import Derived.Test.YtibahfopmjiffaaGreatDoorSBG
import Derived.Test.YtibahfopmjiffaaGreatDoorSAE
import Derived.Test.YtibahfopmjiffaaGreatDoorSAB
import Derived.Test.YtibahfopmjiffaaGreatDoorSBN
import Derived.Test.YtibahfopmjiffaaGreatDoorSAQ
import Derived.Test.YtibahfopmjiffaaGreatDoorSAC
import Derived.Test.YtibahfopmjiffaaGreatDoorSBO
import Derived.Deep.RegionHeld3
set_option maxRecDepth 100000
set_option maxHeartbeats 4000000
namespace Go.Proofs.YtibahfopmjiffaaGreatDoor.Ru
open Go.RowKit Me
theorem dsame_any:∀ (t t2:RT) (v v2:Value) (w:World),RV 0 w t v→RV 0 w t2 v2→(∀ s ∈ nds t,szX s)→(∀ s ∈ nds t2,szX s) →
    Calls Tryz.prog 13 #[v,v2] w fun e w'=>e=.returned (.bool (smB t t2))∧Below w.heap.size w w':=by
  refine RT.ind ?_
  intro k x nm lb wi n d ar ih t2 v v2 w hv hv2 hz hz2
  obtain ⟨k2,x2,nm2,lb2,wi2,n2,d2,ar2⟩:=t2
  have hx:x < 18446744073709551616:=hz _ (nds_self _)
  have hx2:x2 < 18446744073709551616:=hz2 _ (nds_self _)
  have hch:∀ i (hi:i < ar.length),∀ s ∈ nds ar[i],szX s:=fun i hi s hs=>hz s (by
    unfold nds
    exact List.mem_cons_of_mem _ (ndsL_mem (List.getElem_mem hi) hs))
  have hch2:∀ i (hi:i < ar2.length),∀ s ∈ nds ar2[i],szX s:=fun i hi s hs=>hz2 s (by
    unfold nds
    exact List.mem_cons_of_mem _ (ndsL_mem (List.getElem_mem hi) hs))
  unfold RV at hv hv2
  obtain ⟨lv,qa,ab,ao,qc,rfl,⟨la,b1,o1,lc,rfl,hl1,hl2,hl3,hl4⟩,haa,hac,hac2,hrs⟩:=hv
  obtain ⟨lv2,qa2,ab2,ao2,qc2,rfl,⟨la2,b2,o2,lc2,rfl,hm1,hm2,hm3,hm4⟩,hba,hbc,hbc2,hrs2⟩:=hv2
  obtain ⟨W0,hW0⟩:∃ W0,W0=(w.alloc (.cells (rc k x nm (.slice la lb.length lc) wi n d (.slice qa ar.length qc)) 26)).alloc (.cells (rc k2 x2 nm2 (.slice la2 lb2.length lc2) wi2 n2 d2 (.slice qa2 ar2.length qc2)) 26):=⟨_,rfl⟩
  have hb0:Below w.heap.size w W0:=by rw [hW0];exact La.bel2 w _ _
  have hn0:W0.heap[w.heap.size]? =some (.cells (rc k x nm (.slice la lb.length lc) wi n d (.slice qa ar.length qc)) 26):=by rw [hW0];exact heap_alloc2_old w _ _
  have hz0:W0.heap[w.heap.size+1]? =some (.cells (rc k2 x2 nm2 (.slice la2 lb2.length lc2) wi2 n2 d2 (.slice qa2 ar2.length qc2)) 26):=by
    rw [hW0]
    have:=new_1 (w.alloc (.cells (rc k x nm (.slice la lb.length lc) wi n d (.slice qa ar.length qc)) 26)) (.cells (rc k2 x2 nm2 (.slice la2 lb2.length lc2) wi2 n2 d2 (.slice qa2 ar2.length qc2)) 26)
    rw [show (w.alloc (.cells (rc k x nm (.slice la lb.length lc) wi n d (.slice qa ar.length qc)) 26)).heap.size=w.heap.size+1 by simp] at this
    exact this
  have HS:Hid (∀ W,Calls Tryz.prog 28 #[.float .f64 x,.float .f64 x2] W fun e w'=>e=.returned (.bool (Re.sF x x2))∧w'=W):=fun W=>Re.refsame_any x x2 hx hx2 W
  have HE:Hid (∀ W,Below w.heap.size w W→Calls Tryz.prog 29 #[.slice la lb.length lc,.slice la2 lb2.length lc2] W fun e w'=>e=.returned (.bool (decide (lb=lb2)))∧Below W.heap.size W w'):=fun W hb=>(La.samel_any la b1 o1 lc lb (fun e=>(hl1 e).1) la2 b2 o2 lc2 lb2 (fun e=>(hm1 e).1) (by omega) W (hl4.below hb) (hm4.below hb)).mono (by
    rintro e w1 ⟨rfl,m,rfl⟩
    exact ⟨rfl,bel_dn' _ _⟩)
  have HCC:Hid (∀ i (hi:i < ar.length) (hj:i < ar2.length),∃ u u2:Array Value,IsRc u∧IsRc u2∧(∀ W,Below w.heap.size w W→∀ j (h:j < u.size),W.cell? ⟨ab,ao+i*8+j,none⟩=some u[j])∧(∀ W,Below w.heap.size w W→∀ j (h:j < u2.size),W.cell? ⟨ab2,ao2+i*8+j,none⟩=some u2[j])∧∀ W,Below w.heap.size w W→Calls Tryz.prog 13 #[.agg u,.agg u2] W fun e w'=>e=.returned (.bool (smB ar[i] ar2[i]))∧Below W.heap.size W w'):=fun i hi hj=>by
    obtain ⟨u,h1,h2,h3⟩:=hrs.at_ i hi
    obtain ⟨u2,g1,g2,g3⟩:=hrs2.at_ i hj
    refine ⟨u,u2,?_,?_,fun W1 h j hj=>cellH' h (h3 j hj),fun W1 h j hj=>cellH' h (g3 j hj),fun W1 h=>ih ar[i] (List.getElem_mem hi) ar2[i] (.agg u) (.agg u2) W1 (h1.below h) (g1.below h) (hch i hi) (hch2 i hj)⟩
    · obtain ⟨k',x',nm',la',ln',lc',w',n',d',aa',an',ac',e⟩:=h1.form
      exact ⟨k',x',nm',la',ln',lc',w',n',d',aa',an',ac',by cases e;rfl⟩
    · obtain ⟨k',x',nm',la',ln',lc',w',n',d',aa',an',ac',e⟩:=g1.form
      exact ⟨k',x',nm',la',ln',lc',w',n',d',aa',an',ac',by cases e;rfl⟩
  have hQ:smB (.mk k x nm lb wi n d ar) (.mk k2 x2 nm2 lb2 wi2 n2 d2 ar2)=((k == k2) && Re.sF x x2 && (nm == nm2) && decide (lb=lb2) && (wi == wi2) && (n == n2) && (d == d2) && smL ar ar2):=by rw [smB]
  rw [hQ]
  have HW0:=hid_of hW0
  have Hb0:=hid_of hb0
  have HN0:=hid_of hn0
  have HZ0:=hid_of hz0
  have HA:=hid_of haa
  have HB:=hid_of hba
  have hal:(ar.length:Int)≤9223372036854775807:=by omega
  have hal2:(ar2.length:Int)≤9223372036854775807:=by omega
  have sF:=store_f
  clear hW0 hb0 hn0 hz0 hQ ih hch hch2 hz hz2 hx hx2 hrs hrs2 hl1 hl2 hl3 hl4 hm1 hm2 hm3 hm4 haa hba hac hac2 hbc hbc2
  obtain ⟨e0,he0⟩:∃ b,b=(k == k2):=⟨_,rfl⟩
  obtain ⟨e2,he2⟩:∃ b,b=(nm == nm2):=⟨_,rfl⟩
  obtain ⟨e4,he4⟩:∃ b,b=(wi == wi2):=⟨_,rfl⟩
  obtain ⟨e5,he5⟩:∃ b,b=(n == n2):=⟨_,rfl⟩
  obtain ⟨e6,he6⟩:∃ b,b=(d == d2):=⟨_,rfl⟩
  rw [← he0,← he2,← he4,← he5,← he6]
  have H0:Hid ((k != k2)=!e0):=by show _=_;rw [he0];rfl
  have H2:Hid ((nm != nm2)=!e2):=by show _=_;rw [he2];rfl
  have H2b:Hid ((nm == nm2)=e2):=he2.symm
  have H4:Hid ((wi != wi2)=!e4):=by show _=_;rw [he4];rfl
  have H5:Hid ((n != n2)=!e5):=by show _=_;rw [he5];rfl
  have H6:Hid ((d != d2)=!e6):=by show _=_;rw [he6];rfl
  clear he0 he2 he4 he5 he6
  generalize Re.sF x x2=e1 at *
  generalize decide (lb=lb2)=e3 at *
  obtain ⟨e7,he7⟩:∃ b,b=smL ar ar2:=⟨_,rfl⟩
  rw [← he7]
  have H7:=hid_of he7
  clear he7
  obtain ⟨RR,hRR⟩:∃ b,b=(e0 && e1 && e2 && e3 && e4 && e5 && e6 && e7):=⟨_,rfl⟩
  rw [← hRR]
  have HQ:=hid_of hRR
  clear hRR
  go_enter Tryz.func13,Tryz.ntmps13
  go_upto_region 1 with fail
  rw [← HW0.out]
  clear HW0
  obtain ⟨y0,y1,y2,y3,y4,y5,y6,y7⟩:=eight HN0.out
  obtain ⟨z0,z1,z2,z3,z4,z5,z6,z7⟩:=eight HZ0.out
  clear y2 z2 y3 z3 y4 z4 y5 z5 y6 z6 y7 z7
  have he:=H0.out
  cases e0
  · rw [Bool.not_false] at he
    clear H2 H2b H4 H5 H6 HS HE HN0 HZ0 y1 z1 HA HB HCC
    have HR:Hid (RR=false):=by
      show _=_
      have:=HQ.out
      simpa using this
    clear HQ H7
    go_wp2_with fail
    go_ret
    exact ⟨congrArg (fun b:Bool=>Ending.returned (.bool b)) HR.out.symm,Hb0.out⟩
  · rw [Bool.not_true] at he
    clear H0
    go_wp2_with fail
    refine Calls.mono (HS.out _) ?_
    rintro e w1 ⟨rfl,hw⟩
    subst hw
    clear HS he y0 z0 y1 z1
    cases e1
    · clear H2 H2b H4 H5 H6 HE HN0 HZ0 HA HB HCC
      have HR:Hid (RR=false):=by
        show _=_
        have:=HQ.out
        simpa using this
      clear HQ H7
      go_wp2_with fail
      go_ret
      exact ⟨congrArg (fun b:Bool=>Ending.returned (.bool b)) HR.out.symm,Hb0.out⟩
    ·
      obtain ⟨y0,y1,y2,y3,y4,y5,y6,y7⟩:=eight HN0.out
      obtain ⟨z0,z1,z2,z3,z4,z5,z6,z7⟩:=eight HZ0.out
      clear y0 z0 y1 z1 y4 z4 y5 z5 y6 z6 y7 z7
      have he:=H2.out
      have heb:=H2b.out
      clear H2b
      cases e2
      · rw [Bool.not_false] at he
        clear H4 H5 H6 HE HN0 HZ0 y3 z3 HA HB HCC
        have HR:Hid (RR=false):=by
          show _=_
          have:=HQ.out
          simpa using this
        clear HQ H7
        go_wp2_with fail
        go_ret
        exact ⟨congrArg (fun b:Bool=>Ending.returned (.bool b)) HR.out.symm,Hb0.out⟩
      · rw [Bool.not_true] at he
        clear H2
        go_wp2_with fail
        refine Calls.mono (HE.out _ Hb0.out) ?_
        rintro e w1 ⟨rfl,hb1⟩
        have HN1:=hid_of ((hb1.block _ (Array.getElem?_eq_some_iff.1 HN0.out).1).trans HN0.out)
        have HZ1:=hid_of ((hb1.block _ (Array.getElem?_eq_some_iff.1 HZ0.out).1).trans HZ0.out)
        have HB1:=hid_of (bt Hb0.out hb1)
        clear HE hb1 HN0 HZ0 Hb0 he heb y2 z2 y3 z3
        cases e3
        · clear H4 H5 H6 HN1 HZ1 HA HB HCC
          have HR:Hid (RR=false):=by
            show _=_
            have:=HQ.out
            simpa using this
          clear HQ H7
          go_wp2_with fail
          go_ret
          exact ⟨congrArg (fun b:Bool=>Ending.returned (.bool b)) HR.out.symm,HB1.out⟩
        ·
          obtain ⟨y0,y1,y2,y3,y4,y5,y6,y7⟩:=eight HN1.out
          obtain ⟨z0,z1,z2,z3,z4,z5,z6,z7⟩:=eight HZ1.out
          clear y0 z0 y1 z1 y2 z2 y3 z3
          have he:=H4.out
          cases e4
          · rw [Bool.not_false] at he
            clear H5 H6 y5 z5 y6 z6 y7 z7 HA HB HCC
            have HR:Hid (RR=false):=by
              show _=_
              have:=HQ.out
              simpa using this
            clear HQ H7
            go_wp2_with fail
            go_ret
            exact ⟨congrArg (fun b:Bool=>Ending.returned (.bool b)) HR.out.symm,HB1.out⟩
          · rw [Bool.not_true] at he
            have h4:=he
            clear H4 he
            have he:=H5.out
            cases e5
            · rw [Bool.not_false] at he
              clear H6 y6 z6 y7 z7 HA HB HCC
              have HR:Hid (RR=false):=by
                show _=_
                have:=HQ.out
                simpa using this
              clear HQ H7
              go_wp2_with fail
              go_ret
              exact ⟨congrArg (fun b:Bool=>Ending.returned (.bool b)) HR.out.symm,HB1.out⟩
            · rw [Bool.not_true] at he
              have h5:=he
              clear H5 he
              have he:=H6.out
              cases e6
              · rw [Bool.not_false] at he
                clear y7 z7 HA HB HCC
                have HR:Hid (RR=false):=by
                  show _=_
                  have:=HQ.out
                  simpa using this
                clear HQ H7
                go_wp2_with fail
                go_ret
                exact ⟨congrArg (fun b:Bool=>Ending.returned (.bool b)) HR.out.symm,HB1.out⟩
              · rw [Bool.not_true] at he
                by_cases hlen:ar.length=ar2.length
                · have ht:((ar.length:Int) != (ar2.length:Int))=false:=by rw [bne_eq_false_iff_eq];omega
                  have HR:Hid (RR=smL (ar.drop 0) (ar2.drop 0)):=by
                    show _=_
                    rw [List.drop_zero,List.drop_zero,← H7.out]
                    have:=HQ.out
                    simpa using this
                  have HL:=hid_of hlen
                  clear HQ H7 H6 hlen
                  go_upto_region 3 with fail
                  clear he h4 h5 y4 z4 y5 z5 y6 z6 y7 z7 ht
                  go_wp2_with fail
                  go_loopw [5] (fun a W=>∃ i:Nat,i≤ar.length∧a=.int .i64 (i:Int)∧Hid (Below w.heap.size w W)∧Hid (W.heap[w.heap.size]? =some (.cells (rc k x nm (.slice la lb.length lc) wi n d (.slice qa ar.length qc)) 26))∧Hid (W.heap[w.heap.size+1]? =some (.cells (rc k2 x2 nm2 (.slice la2 lb2.length lc2) wi2 n2 d2 (.slice qa2 ar2.length qc2)) 26))∧Hid (RR=smL (ar.drop i) (ar2.drop i))) (fun a _=>ar.length - (intOf a).toNat)
                  case atStart=>exact ⟨0,by omega,rfl,HB1,HN1,HZ1,HR⟩
                  case round =>
                    clear HB1 HN1 HZ1 HR
                    obtain ⟨i,hi,rfl,HW,HN,HZ,HR⟩:=hrel
                    obtain ⟨y0,y1,y2,y3,y4,y5,y6,y7⟩:=eight HN.out
                    obtain ⟨z0,z1,z2,z3,z4,z5,z6,z7⟩:=eight HZ.out
                    clear y0 y1 y2 y3 y4 y5 y6 z0 z1 z2 z3 z4 z5 z6
                    by_cases hlt:i < ar.length
                    · have hlt2:i < ar2.length:=by have:=HL.out;omega
                      obtain ⟨rfl,-⟩:=HA.out (by intro e;rw [e] at hlt;simp at hlt)
                      obtain ⟨rfl,-⟩:=HB.out (by intro e;rw [e] at hlt2;simp at hlt2)
                      have hlt':(i:Int) < (ar.length:Int):=by omega
                      have hlt2':(i:Int) < (ar2.length:Int):=by omega
                      obtain ⟨u,v,⟨k',x',nm',la',ln',lc',wi',n',d',qa',qn',qc',rfl⟩,⟨k3,x3,nm3,la3,ln3,lc3,wi3,n3,d3,qa3,qn3,qc3,rfl⟩,hu,hv,hcall⟩:=HCC.out i hlt hlt2
                      have hz:=HR.out
                      rw [smL_drop _ _ _ hlt hlt2] at hz
                      have HZ1:=hid_of hz
                      have hix1:=index_rl ab ao ar.length qc i (i:Int) rfl hlt
                      have hix2:=index_rl ab2 ao2 ar2.length qc2 i (i:Int) rfl hlt2
                      obtain ⟨p1,hp1⟩:∃ p,p=ao+i*8:=⟨_,rfl⟩
                      obtain ⟨p2,hp2⟩:∃ p,p=ao2+i*8:=⟨_,rfl⟩
                      rw [← hp1] at hix1 hu
                      rw [← hp2] at hix2 hv
                      have D:Hid (∀ W,Below w.heap.size w W→Calls Tryz.prog 13 #[.agg (rc k' x' nm' (.slice la' ln' lc') wi' n' d' (.slice qa' qn' qc')),.agg (rc k3 x3 nm3 (.slice la3 ln3 lc3) wi3 n3 d3 (.slice qa3 qn3 qc3))] W fun e w'=>e=.returned (.bool (smB ar[i] ar2[i]))∧Below W.heap.size W w'):=hcall
                      have cs:=hu wr HW.out
                      have ct:=hv wr HW.out
                      have x0:=cs 0 (by show 0 < 8;decide)
                      have x1:=cs 1 (by show 1 < 8;decide)
                      have x2:=cs 2 (by show 2 < 8;decide)
                      have x3:=cs 3 (by show 3 < 8;decide)
                      have x4:=cs 4 (by show 4 < 8;decide)
                      have x5:=cs 5 (by show 5 < 8;decide)
                      have x6:=cs 6 (by show 6 < 8;decide)
                      have x7:=cs 7 (by show 7 < 8;decide)
                      have t0:=ct 0 (by show 0 < 8;decide)
                      have t1:=ct 1 (by show 1 < 8;decide)
                      have t2:=ct 2 (by show 2 < 8;decide)
                      have t3:=ct 3 (by show 3 < 8;decide)
                      have t4:=ct 4 (by show 4 < 8;decide)
                      have t5:=ct 5 (by show 5 < 8;decide)
                      have t6:=ct 6 (by show 6 < 8;decide)
                      have t7:=ct 7 (by show 7 < 8;decide)
                      try simp only [Nat.add_zero] at x0 t0
                      clear cs ct hu hv hp1 hp2 hcall hz HCC HR
                      generalize smB ar[i] ar2[i]=bt1 at *
                      go_upto_region 6 with fail
                      go_region_with (go_at_call 13;(with_reducible refine Calls.mono (D.out _ (by repeat (first | exact HW.out | with_reducible refine bel_drewB ?_))) ?_);rintro e w9 ⟨rfl,hb9⟩;have HB9:=hid_of (bt (show Below w.heap.size w _ by repeat (first | exact HW.out | with_reducible refine bel_drewB ?_)) hb9);have HN9:=hid_of ((hb9.block _ (Array.getElem?_eq_some_iff.1 HN.out).1).trans HN.out);have HZ9:=hid_of ((hb9.block _ (Array.getElem?_eq_some_iff.1 HZ.out).1).trans HZ.out))
                      all_goals
                        clear D HW HN HZ y7 z7 x0 x1 x2 x3 x4 x5 x6 x7 t0 t1 t2 t3 t4 t5 t6 t7 hix1 hix2 hb9
                        cases bt1
                        · have HE:Hid (RR=false):=by show _=_;rw [HZ1.out,Bool.false_and]
                          clear HZ1
                          go_wp2_with fail
                          go_ret
                          exact ⟨congrArg (fun b:Bool=>Ending.returned (.bool b)) HE.out.symm,HB9.out⟩
                        · have HE:Hid (RR=smL (ar.drop (i+1)) (ar2.drop (i+1))):=by show _=_;rw [HZ1.out,Bool.true_and]
                          clear HZ1
                          go_wp2_with fail
                          exact ⟨⟨i+1,by omega,by go_num,HB9,HN9,HZ9,HE⟩,by simp [intOf];omega⟩
                    · obtain rfl:i=ar.length:=by omega
                      have hlt':¬ (ar.length:Int) < (ar.length:Int):=by omega
                      have HE:Hid (RR=true):=by show _=_;rw [HR.out,smL_end _ _ HL.out]
                      clear HR HCC HA HB
                      go_wp2_with fail
                      go_ret
                      exact ⟨congrArg (fun b:Bool=>Ending.returned (.bool b)) HE.out.symm,HW.out⟩
                · have ht:((ar.length:Int) != (ar2.length:Int))=true:=by rw [bne_iff_ne];omega
                  have HR:Hid (RR=false):=by
                    show _=_
                    have h7:=H7.out
                    rw [smL_ne _ _ hlen] at h7
                    have:=HQ.out
                    rw [h7] at this
                    simpa using this
                  clear HQ H7 hlen HA HB HCC H6
                  go_wp2_with fail
                  go_ret
                  exact ⟨congrArg (fun b:Bool=>Ending.returned (.bool b)) HR.out.symm,HB1.out⟩
end Go.Proofs.YtibahfopmjiffaaGreatDoor.Ru
/- RULES: the two texts that the law's awake reads. Own work of the verifier. -/
namespace Go.Proofs.YtibahfopmjiffaaGreatDoor.Ru
open Go.RowKit Go.Sort Me
def dPR (l:List UInt8):Option Nat:=if l=[49] then some 4607182418800017408 else if l=[50] then some 4611686018427387904 else if l=[53] then some 4617315517961601024 else none
def dOk (T:List UInt8):Bool:=(List.range (T.length+1)).all fun a=>if bgn (T.drop a)=2 then (decide ((T.drop a).takeWhile isNm=[49]) || decide ((T.drop a).takeWhile isNm=[50]) || decide ((T.drop a).takeWhile isNm=[53])) else true
theorem dPr_at (u:World) (h:Rl.Glob2 u) (l:List UInt8) (hl:l=[49]∨l=[50]∨l=[53]):PrAt dPR u l:=by
  intro W hb
  rcases hl with rfl | rfl | rfl
  · refine (Rl.dreal_1 W (h.below hb)).mono ?_
    rintro e w' ⟨rfl,hb⟩
    exact ⟨Or.inl ⟨_,by unfold dPR;rw [if_pos rfl],rfl⟩,hb⟩
  · refine (Rl.dreal_2 W (h.below hb)).mono ?_
    rintro e w' ⟨rfl,hb⟩
    exact ⟨Or.inl ⟨_,by unfold dPR;rw [if_neg (by decide),if_pos rfl],rfl⟩,hb⟩
  · refine (Rl.dreal_5 W (h.below hb)).mono ?_
    rintro e w' ⟨rfl,hb⟩
    exact ⟨Or.inl ⟨_,by unfold dPR;rw [if_neg (by decide),if_neg (by decide),if_pos rfl],rfl⟩,hb⟩
theorem dnum_of (T:List UInt8) (h:dOk T=true) (s:St) (ho:Ok T s) (hb:bgn (rst T s)=2):rowF isNm T s=[49]∨rowF isNm T s=[50]∨rowF isNm T s=[53]:=by
  have he:s.e=0:=by
    by_cases q:s.e=0
    · exact q
    · unfold rst at hb
      rw [if_neg q] at hb
      cases hb
  unfold rowF
  unfold rst at hb ⊢
  rw [if_pos he] at hb ⊢
  have:=(List.all_eq_true.1 h) s.a (List.mem_range.2 (by have:=ho.a;omega))
  rw [if_pos hb] at this
  simpa [or_assoc] using this
abbrev tx1:List UInt8:=[40,49,32,60,32,116,111,116,97,108,40,97,44,32,53,41,41]
abbrev tx2:List UInt8:=[49,32,43,32,50]
abbrev rl1:RT:=.mk 13 0 [] [] 0 0 0 [.mk 1 4607182418800017408 [] [] 0 0 0 [],.mk 2 0 [97] [] 5 0 0 []]
theorem whl1:whlF dPR tx1 ⟨0,0,0⟩=(rl1,⟨17,0,3⟩):=by kernel_rfl
theorem whl2:(whlF dPR tx2 ⟨0,0,0⟩).2=⟨1,5,1⟩:=by kernel_rfl
theorem dok1:dOk tx1=true:=by decide +kernel
theorem dok2:dOk tx2=true:=by decide +kernel
theorem ck1:ckE rl1=0:=by decide +kernel
theorem sz1:∀ s ∈ nds rl1,szN s∧szI s:=by
  intro s hs
  have:s=rl1∨s=.mk 1 4607182418800017408 [] [] 0 0 0 []∨s=.mk 2 0 [97] [] 5 0 0 []:=by simpa [nds,ndsL] using hs
  rcases this with rfl | rfl | rfl
  all_goals exact ⟨⟨by decide,by decide,by decide,fun a ha=>by cases ha⟩,by decide,by decide,by decide⟩
theorem wr1:wrT rl1=tx1:=by
  simp only [wrT,wrTs,Rl.dtext_1]
  kernel_rfl
theorem parse1 (w:World) (he:Env w):Calls Tryz.prog 14 #[.string ⟨#[40,49,32,60,32,116,111,116,97,108,40,97,44,32,53,41,41]⟩] w fun e w'=>(∃ v,e=.returned (.tuple #[v,.int .i64 0,.int .i64 0])∧RV 0 w' rl1 v)∧Below w.heap.size w w':=by
  have:=parse_any dPR (fun t=>(ckE t).toNat) tx1 (by decide) w he (fun _ u hb s ho h2=>dPr_at u (he.below hb).gl _ (dnum_of tx1 dok1 s ho h2)) (fun _ _=>by
    rw [whl1]
    exact ckAt_of rl1 w (fun s hs=>(sz1 s hs).1) he.kd)
  refine this.mono ?_
  rintro e w' ⟨hq,hb⟩
  refine ⟨?_,hb⟩
  unfold PsQ at hq
  rw [whl1] at hq
  rcases hq with ⟨z,a,hz,-,⟨h,-⟩ | ⟨-,h,-⟩ | ⟨-,-,h,-⟩⟩ | ⟨-,-,-,v,h1,h2⟩
  · exact absurd h (by decide)
  · exact absurd h hz
  · dsimp only at h;rw [ck1] at h;exact absurd h hz
  · exact ⟨v,h1,h2.mono (Nat.zero_le _)⟩
theorem parse2 (w:World) (he:Env w):Calls Tryz.prog 14 #[.string ⟨#[49,32,43,32,50]⟩] w fun e w'=>e=.returned (.tuple #[rx 0 0 [] (.slice none 0 0) 0 0 0 (.slice none 0 0),.int .i64 5,.int .i64 1])∧Below w.heap.size w w':=by
  have:=parse_any dPR (fun t=>(ckE t).toNat) tx2 (by decide) w he (fun _ u hb s ho h2=>dPr_at u (he.below hb).gl _ (dnum_of tx2 dok2 s ho h2)) (fun _ h=>by
    rw [whl2] at h
    cases h)
  refine this.mono ?_
  rintro e w' ⟨hq,hb⟩
  refine ⟨?_,hb⟩
  unfold PsQ at hq
  rw [whl2] at hq
  rcases hq with ⟨z,a,hz,h1,⟨h,-⟩ | ⟨-,h,h'⟩ | ⟨-,h,-⟩⟩ | ⟨-,h,-⟩
  · exact absurd h (by decide)
  · rw [h1,h,h'];rfl
  · cases h
  · cases h
theorem print1 (v:Value) (w:World) (hv:RV 0 w rl1 v) (he:Env w):Calls Tryz.prog 9 #[v] w fun e w'=>e=.returned (.tuple #[.string ⟨#[40,49,32,60,32,116,111,116,97,108,40,97,44,32,53,41,41]⟩,.int .i64 0])∧Below w.heap.size w w':=by
  refine (rprint_any rl1 v w hv sz1 (fun _=>by rw [wr1];decide) he).mono ?_
  rintro e w' ⟨hq,hb⟩
  refine ⟨?_,hb⟩
  unfold PnQ at hq
  rw [wr1,ck1] at hq
  rcases hq with ⟨h,-⟩ | ⟨-,h,-⟩ | ⟨-,-,h⟩
  · exact absurd rfl h
  · exact absurd h (by decide)
  · exact h
theorem type1 (v:Value) (w:World) (hv:RV 0 w rl1 v) (h:Kd w):Calls Tryz.prog 7 #[v] w fun e w'=>e=.returned (.tuple #[.bool true,.int .i64 0])∧Below w.heap.size w w':=by
  refine (type_any rl1 v w hv (fun s hs=>(sz1 s hs).1) h).mono ?_
  rintro e w' ⟨rfl,hb⟩
  refine ⟨?_,hb⟩
  rw [ck1,if_pos rfl]
  rfl
end Go.Proofs.YtibahfopmjiffaaGreatDoor.Ru
/- RULES: awake; RulesNames' walk. Own work of the verifier. -/
set_option maxRecDepth 100000
set_option maxHeartbeats 4000000
namespace Go.Proofs.YtibahfopmjiffaaGreatDoor.Ru
open Go.RowKit Go.Sort Me
theorem rnew2 (w:World):Calls Tryz.prog 15 #[.int .i64 2] w fun e w'=>e=.returned (.tuple #[.pointer (some ⟨w.heap.size,0,none⟩),.int .i64 0])∧Below w.heap.size w w':=by
  go_enter Tryz.func15,Tryz.ntmps15
  go_wp2
  simp [bodyPost,results,Tryz.results15,go_sem]
  exact bel1 _ _
theorem two_two:(FloatKind.f64.format.order 4611686018427387904 4611686018427387904 == some .eq)=true:=by decide +kernel
theorem awake_any (w:World) (he:Env w):Calls Tryz.prog 4 #[] w fun e w'=>e=.returned (.bool true)∧Below w.heap.size w w':=by
  have HP1:Hid (∀ W,Below w.heap.size w W→Calls Tryz.prog 14 #[.string ⟨#[40,49,32,60,32,116,111,116,97,108,40,97,44,32,53,41,41]⟩] W fun e w'=>(∃ v,e=.returned (.tuple #[v,.int .i64 0,.int .i64 0])∧RV 0 w' rl1 v)∧Below W.heap.size W w'):=fun W hb=>parse1 W (he.below hb)
  have HP2:Hid (∀ W,Below w.heap.size w W→Calls Tryz.prog 14 #[.string ⟨#[49,32,43,32,50]⟩] W fun e w'=>e=.returned (.tuple #[rx 0 0 [] (.slice none 0 0) 0 0 0 (.slice none 0 0),.int .i64 5,.int .i64 1])∧Below W.heap.size W w'):=fun W hb=>parse2 W (he.below hb)
  have HPn:Hid (∀ v W,Below w.heap.size w W→RV 0 W rl1 v→Calls Tryz.prog 9 #[v] W fun e w'=>e=.returned (.tuple #[.string ⟨#[40,49,32,60,32,116,111,116,97,108,40,97,44,32,53,41,41]⟩,.int .i64 0])∧Below W.heap.size W w'):=fun v W hb hv=>print1 v W hv (he.below hb)
  have HTy:Hid (∀ v W,Below w.heap.size w W→RV 0 W rl1 v→Calls Tryz.prog 7 #[v] W fun e w'=>e=.returned (.tuple #[.bool true,.int .i64 0])∧Below W.heap.size W w'):=fun v W hb hv=>type1 v W hv (he.kd.below hb)
  have HNw:Hid (∀ W:World,Calls Tryz.prog 15 #[.int .i64 2] W fun e w'=>e=.returned (.tuple #[.pointer (some ⟨W.heap.size,0,none⟩),.int .i64 0])∧Below W.heap.size W w'):=fun W=>rnew2 W
  have HEv:Hid (∀ p W,Below w.heap.size w W→Calls Tryz.prog 16 #[.pointer p,.int .i64 0,rx 1 4611686018427387904 [] (.slice none 0 0) 0 0 0 (.slice none 0 0)] W fun e w'=>e=.returned (.tuple #[.agg #[.bool false,.bool false,.float .f64 4611686018427387904],.int .i64 0])∧Below W.heap.size W w'):=fun p W hb=>eval_two _ ⟨p,rfl⟩ W (he.kd.below hb)
  have hf2:=two_two
  have sF:=store_f
  clear he
  go_enter Tryz.func4,Tryz.ntmps4
  go_wp2_with fail
  refine Calls.mono (HP1.out _ (Below.refl _ _)) ?_
  rintro e w1 ⟨⟨v,rfl,hv⟩,hb1⟩
  unfold RV at hv
  obtain ⟨lv,ao,b,o,cap,rfl,hl,hao,hc1,hc2,hrs⟩:=hv
  obtain ⟨la,lb0,lo,lc,rfl,hlr⟩:=hl
  have hv1:RV 0 w1 rl1 (rx 13 0 [] (.slice la 0 lc) 0 0 0 (.slice ao 2 cap)):=by
    unfold RV
    exact ⟨_,ao,b,o,cap,rfl,⟨la,lb0,lo,lc,rfl,hlr⟩,hao,hc1,hc2,hrs⟩
  have hX:=bel1 w1 (.cells (rc 13 0 [] (.slice la 0 lc) 0 0 0 (.slice ao 2 cap)) 26)
  have hn:=new_1 w1 (.cells (rc 13 0 [] (.slice la 0 lc) 0 0 0 (.slice ao 2 cap)) 26)
  have HV:=hid_of (hv1.below hX)
  have HB:=hid_of (bt hb1 hX)
  have HN:=hid_of hn
  clear hv1 hX hn hb1 hao hc1 hc2 hrs hlr HP1
  go_upto_region 2 with fail
  generalize w1.alloc (.cells (rc 13 0 [] (.slice la 0 lc) 0 0 0 (.slice ao 2 cap)) 26)=W2 at *
  generalize w1.heap.size=gx at *
  go_wp2_with fail
  refine Calls.mono (HP2.out _ HB.out) ?_
  rintro e w3 ⟨rfl,hb3⟩
  have hX:=hb3.trans ((bel1 w3 (.cells (rc 0 0 [] (.slice none 0 0) 0 0 0 (.slice none 0 0)) 26)).mono hb3.size)
  have HV3:=hid_of (HV.out.below hX)
  have HB3:=hid_of (bt HB.out hX)
  have HN3:=hid_of ((hX.block _ (Array.getElem?_eq_some_iff.1 HN.out).1).trans HN.out)
  clear HV HB HN hX hb3 HP2
  go_upto_region 3 with fail
  generalize w3.alloc (.cells (rc 0 0 [] (.slice none 0 0) 0 0 0 (.slice none 0 0)) 26)=W4 at *
  generalize w3.heap.size=gy at *
  obtain ⟨y0,y1,y2,y3,y4,y5,y6,y7⟩:=eight HN3.out
  go_wp2_with fail
  refine Calls.mono (HPn.out _ _ HB3.out HV3.out) ?_
  rintro e w5 ⟨rfl,hb5⟩
  have HV5:=hid_of (HV3.out.below hb5)
  have HB5:=hid_of (bt HB3.out hb5)
  have HN5:=hid_of ((hb5.block _ (Array.getElem?_eq_some_iff.1 HN3.out).1).trans HN3.out)
  clear HV3 HB3 HN3 hb5 HPn y0 y1 y2 y3 y4 y5 y6 y7
  go_upto_region 4 with fail
  obtain ⟨y0,y1,y2,y3,y4,y5,y6,y7⟩:=eight HN5.out
  go_wp2_with fail
  refine Calls.mono (HTy.out _ _ HB5.out HV5.out) ?_
  rintro e w6 ⟨rfl,hb6⟩
  have HB6:=hid_of (bt HB5.out hb6)
  have HN6:=hid_of ((hb6.block _ (Array.getElem?_eq_some_iff.1 HN5.out).1).trans HN5.out)
  clear HV5 HB5 HN5 hb6 HTy y0 y1 y2 y3 y4 y5 y6 y7
  go_upto_region 5 with fail
  go_wp2_with fail
  refine Calls.mono (HNw.out _) ?_
  rintro e w7 ⟨rfl,hb7⟩
  have HB7:=hid_of (bt HB6.out hb7)
  have HN7:=hid_of ((hb7.block _ (Array.getElem?_eq_some_iff.1 HN6.out).1).trans HN6.out)
  clear HB6 HN6 hb7 HNw
  generalize w6.heap.size=gr at *
  go_upto_region 6 with fail
  go_wp2_with fail
  refine Calls.mono (HEv.out _ _ HB7.out) ?_
  rintro e w8 ⟨rfl,hb8⟩
  have hX:=hb8.trans ((bel1 w8 (.cells #[.bool false,.bool false,.float .f64 4611686018427387904] 43)).mono hb8.size)
  have HB9:=hid_of (bt HB7.out hX)
  have hn9:=(hX.block _ (Array.getElem?_eq_some_iff.1 HN7.out).1).trans HN7.out
  obtain ⟨⟨a0,a1,a2⟩,-⟩:=three (new_1 w8 (.cells #[.bool false,.bool false,.float .f64 4611686018427387904] 43))
  obtain ⟨y0,-⟩:=eight hn9
  clear HB7 HN7 hb8 hX hn9 HEv
  go_upto_region 9 with fail
  generalize w8.alloc (.cells #[.bool false,.bool false,.float .f64 4611686018427387904] 43)=W9 at *
  generalize w8.heap.size=ga at *
  go_wp2_with fail
  go_ret
  exact ⟨rfl,HB9.out⟩
end Go.Proofs.YtibahfopmjiffaaGreatDoor.Ru
/- RULES: RulesSames' walk. Own work of the verifier. -/
namespace Go.Proofs.YtibahfopmjiffaaGreatDoor.Ru
open Go.RowKit Go.Sort Me
theorem lfF_lt:∀ (t:RT) (n:Int),lfF t n≤n - 1:=by
  intro t n
  obtain ⟨k,x,nm,lb,w,nn,d,ar⟩:=t
  unfold lfF
  have:=lfL_le' ar (n - (1+(lb.length:Int))) (fun a _ n=>lfF_le a n)
  omega
theorem lfL_all:∀ (ar:List RT) (n:Int),0≤lfL ar n→(ar.length:Int)≤n∧∀ a ∈ ar,∃ n',n'≤n∧0≤lfF a n'
  | [],n,h=>by unfold lfL at h;exact ⟨by simpa using h,fun a ha=>by cases ha⟩
  | t::ar,n,h=>by
    unfold lfL at h
    by_cases q:0≤n
    · rw [if_pos q] at h
      obtain ⟨h1,h2⟩:=lfL_all ar _ h
      have h3:=lfF_lt t n
      refine ⟨by rw [List.length_cons];omega,fun a ha=>?_⟩
      rcases List.mem_cons.1 ha with rfl | ha
      · exact ⟨n,by omega,by omega⟩
      · obtain ⟨n',k1,k2⟩:=h2 a ha
        exact ⟨n',by omega,k2⟩
    · rw [if_neg q] at h;exact absurd h q
theorem lf_small:∀ (t:RT) (n:Int),n≤32768→0≤lfF t n→∀ s ∈ nds t,szO s:=by
  refine RT.ind ?_
  intro k x nm lb w nn d ar ih n hn h s hs
  unfold lfF at h
  obtain ⟨h1,h2⟩:=lfL_all ar _ h
  unfold nds at hs
  rcases List.mem_cons.1 hs with rfl | hs
  · exact ⟨by omega,by omega⟩
  · obtain ⟨a,ha,hsa⟩:=ndsL_ex hs
    obtain ⟨n',k1,k2⟩:=h2 a ha
    exact ih a ha n' (by omega) k2 s hsa
theorem smL_refl':∀ (ar:List RT),(∀ a ∈ ar,smB a a=true)→smL ar ar=true
  | [],_=>by rw [smL];rfl
  | t::ar,h=>by rw [smL,h t List.mem_cons_self,smL_refl' ar (fun a ha=>h a (List.mem_cons_of_mem _ ha))];rfl
theorem smB_refl:∀ t:RT,smB t t=true:=by
  refine RT.ind ?_
  intro k x nm lb w n d ar ih
  rw [smB,smL_refl' ar ih]
  have e1:Re.sF x x=true:=by
    unfold Re.sF Re.sg
    rw [if_neg (Nat.lt_irrefl _),if_neg (Nat.lt_irrefl _)]
    rfl
  simp [e1]
end Go.Proofs.YtibahfopmjiffaaGreatDoor.Ru
