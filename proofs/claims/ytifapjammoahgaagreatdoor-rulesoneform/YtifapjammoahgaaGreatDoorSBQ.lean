/- RULES: THE DOCUMENT'S SAME OF ANY TWO RULES (printed by gen_vq.py). Own work of the verifier. -/
import Derived.Test.YtifapjammoahgaaGreatDoorSBM
import Derived.Test.YtifapjammoahgaaGreatDoorSAZ
import Derived.Test.YtifapjammoahgaaGreatDoorSAM
import Derived.OwnWalk
import Derived.Laws.OwnMore
import Derived.Test.YtifapjammoahgaaGreatDoorSBO
import Derived.Lib.SmallJoins
import Derived.Carry
import Derived.SizedLaws
import Derived.ProofKit
import Derived.OpenShut
import Derived.ChangeSlices
import Derived.Deep.SlicePairs
import Derived.Deep.Slices
import Derived.JoinedCond
import Derived.ChangeArms
import Derived.Test.YtifapjammoahgaaGreatDoorSBP
import Derived.Deep.RegionHeld3
set_option maxRecDepth 100000
set_option maxHeartbeats 4000000
namespace Go.Proofs.YtifapjammoahgaaGreatDoor.Ru
open Go.RowKit Me
theorem dsame_any:∀ (t t2:RT) (v v2:Value) (w:World),RV 0 w t v→RV 0 w t2 v2→(∀ s ∈ nds t,szX s)→(∀ s ∈ nds t2,szX s) →
    Calls Tryz.prog 6 #[v,v2] w fun e w'=>e=.returned (.bool (smB t t2))∧Below w.heap.size w w':=by
  refine RT.ind ?_
  intro k x nm lb wi n d ar ih t2 v v2 w hv hv2 hz hz2
  obtain ⟨k2,x2,nm2,lb2,wi2,n2,d2,ar2⟩:=t2
  have hx:x < 18446744073709551616:=hz _ (nds_self _)
  have hx2:x2 < 18446744073709551616:=hz2 _ (nds_self _)
  have hch:∀ i (hi:i < ar.length),∀ s ∈ nds ar[i],szX s:=fun i hi s hs=>hz s (by
    unfold nds
    exact List.mem_cons_of_mem _ (ndsL_mem (List.getElem_mem hi) hs))
  have hch2:∀ i (hi:i < ar2.length),∀ s ∈ nds ar2[i],szX s:=fun i hi s hs=>hz2 s (by
    unfold nds
    exact List.mem_cons_of_mem _ (ndsL_mem (List.getElem_mem hi) hs))
  unfold RV at hv hv2
  obtain ⟨lv,qa,ab,ao,qc,rfl,⟨la,b1,o1,lc,rfl,hl1,hl2,hl3,hl4⟩,haa,hac,hac2,hrs⟩:=hv
  obtain ⟨lv2,qa2,ab2,ao2,qc2,rfl,⟨la2,b2,o2,lc2,rfl,hm1,hm2,hm3,hm4⟩,hba,hbc,hbc2,hrs2⟩:=hv2
  obtain ⟨W0,hW0⟩:∃ W0,W0=(w.alloc (.cells (rc k x nm (.slice la lb.length lc) wi n d (.slice qa ar.length qc)) 27)).alloc (.cells (rc k2 x2 nm2 (.slice la2 lb2.length lc2) wi2 n2 d2 (.slice qa2 ar2.length qc2)) 27):=⟨_,rfl⟩
  have hb0:Below w.heap.size w W0:=by rw [hW0];exact La.bel2 w _ _
  have hn0:W0.heap[w.heap.size]? =some (.cells (rc k x nm (.slice la lb.length lc) wi n d (.slice qa ar.length qc)) 27):=by rw [hW0];exact heap_alloc2_old w _ _
  have hz0:W0.heap[w.heap.size+1]? =some (.cells (rc k2 x2 nm2 (.slice la2 lb2.length lc2) wi2 n2 d2 (.slice qa2 ar2.length qc2)) 27):=by
    rw [hW0]
    have:=new_1 (w.alloc (.cells (rc k x nm (.slice la lb.length lc) wi n d (.slice qa ar.length qc)) 27)) (.cells (rc k2 x2 nm2 (.slice la2 lb2.length lc2) wi2 n2 d2 (.slice qa2 ar2.length qc2)) 27)
    rw [show (w.alloc (.cells (rc k x nm (.slice la lb.length lc) wi n d (.slice qa ar.length qc)) 27)).heap.size=w.heap.size+1 by simp] at this
    exact this
  have HS:Hid (∀ W,Calls Tryz.prog 13 #[.float .f64 x,.float .f64 x2] W fun e w'=>e=.returned (.bool (Re.sF x x2))∧w'=W):=fun W=>Re.refsame_any x x2 hx hx2 W
  have HE:Hid (∀ W,Below w.heap.size w W→Calls Tryz.prog 14 #[.slice la lb.length lc,.slice la2 lb2.length lc2] W fun e w'=>e=.returned (.bool (decide (lb=lb2)))∧Below W.heap.size W w'):=fun W hb=>(La.samel_any la b1 o1 lc lb (fun e=>(hl1 e).1) la2 b2 o2 lc2 lb2 (fun e=>(hm1 e).1) (by omega) W (hl4.below hb) (hm4.below hb)).mono (by
    rintro e w1 ⟨rfl,m,rfl⟩
    exact ⟨rfl,bel_dn' _ _⟩)
  have HCC:Hid (∀ i (hi:i < ar.length) (hj:i < ar2.length),∃ u u2:Array Value,IsRc u∧IsRc u2∧(∀ W,Below w.heap.size w W→∀ j (h:j < u.size),W.cell? ⟨ab,ao+i*8+j,none⟩=some u[j])∧(∀ W,Below w.heap.size w W→∀ j (h:j < u2.size),W.cell? ⟨ab2,ao2+i*8+j,none⟩=some u2[j])∧∀ W,Below w.heap.size w W→Calls Tryz.prog 6 #[.agg u,.agg u2] W fun e w'=>e=.returned (.bool (smB ar[i] ar2[i]))∧Below W.heap.size W w'):=fun i hi hj=>by
    obtain ⟨u,h1,h2,h3⟩:=hrs.at_ i hi
    obtain ⟨u2,g1,g2,g3⟩:=hrs2.at_ i hj
    refine ⟨u,u2,?_,?_,fun W1 h j hj=>cellH' h (h3 j hj),fun W1 h j hj=>cellH' h (g3 j hj),fun W1 h=>ih ar[i] (List.getElem_mem hi) ar2[i] (.agg u) (.agg u2) W1 (h1.below h) (g1.below h) (hch i hi) (hch2 i hj)⟩
    · obtain ⟨k',x',nm',la',ln',lc',w',n',d',aa',an',ac',e⟩:=h1.form
      exact ⟨k',x',nm',la',ln',lc',w',n',d',aa',an',ac',by cases e;rfl⟩
    · obtain ⟨k',x',nm',la',ln',lc',w',n',d',aa',an',ac',e⟩:=g1.form
      exact ⟨k',x',nm',la',ln',lc',w',n',d',aa',an',ac',by cases e;rfl⟩
  have hQ:smB (.mk k x nm lb wi n d ar) (.mk k2 x2 nm2 lb2 wi2 n2 d2 ar2)=((k == k2) && Re.sF x x2 && (nm == nm2) && decide (lb=lb2) && (wi == wi2) && (n == n2) && (d == d2) && smL ar ar2):=by rw [smB]
  rw [hQ]
  have HW0:=hid_of hW0
  have Hb0:=hid_of hb0
  have HN0:=hid_of hn0
  have HZ0:=hid_of hz0
  have HA:=hid_of haa
  have HB:=hid_of hba
  have hal:(ar.length:Int)≤9223372036854775807:=by omega
  have hal2:(ar2.length:Int)≤9223372036854775807:=by omega
  have sF:=store_f
  clear hW0 hb0 hn0 hz0 hQ ih hch hch2 hz hz2 hx hx2 hrs hrs2 hl1 hl2 hl3 hl4 hm1 hm2 hm3 hm4 haa hba hac hac2 hbc hbc2
  obtain ⟨e0,he0⟩:∃ b,b=(k == k2):=⟨_,rfl⟩
  obtain ⟨e2,he2⟩:∃ b,b=(nm == nm2):=⟨_,rfl⟩
  obtain ⟨e4,he4⟩:∃ b,b=(wi == wi2):=⟨_,rfl⟩
  obtain ⟨e5,he5⟩:∃ b,b=(n == n2):=⟨_,rfl⟩
  obtain ⟨e6,he6⟩:∃ b,b=(d == d2):=⟨_,rfl⟩
  rw [← he0,← he2,← he4,← he5,← he6]
  have H0:Hid ((k != k2)=!e0):=by show _=_;rw [he0];rfl
  have H2:Hid ((nm != nm2)=!e2):=by show _=_;rw [he2];rfl
  have H2b:Hid ((nm == nm2)=e2):=he2.symm
  have H4:Hid ((wi != wi2)=!e4):=by show _=_;rw [he4];rfl
  have H5:Hid ((n != n2)=!e5):=by show _=_;rw [he5];rfl
  have H6:Hid ((d != d2)=!e6):=by show _=_;rw [he6];rfl
  clear he0 he2 he4 he5 he6
  generalize Re.sF x x2=e1 at *
  generalize decide (lb=lb2)=e3 at *
  obtain ⟨e7,he7⟩:∃ b,b=smL ar ar2:=⟨_,rfl⟩
  rw [← he7]
  have H7:=hid_of he7
  clear he7
  obtain ⟨RR,hRR⟩:∃ b,b=(e0 && e1 && e2 && e3 && e4 && e5 && e6 && e7):=⟨_,rfl⟩
  rw [← hRR]
  have HQ:=hid_of hRR
  clear hRR
  go_enter Tryz.func6,Tryz.ntmps6
  go_upto_region 1 with fail
  rw [← HW0.out]
  clear HW0
  obtain ⟨y0,y1,y2,y3,y4,y5,y6,y7⟩:=eight HN0.out
  obtain ⟨z0,z1,z2,z3,z4,z5,z6,z7⟩:=eight HZ0.out
  clear y2 z2 y3 z3 y4 z4 y5 z5 y6 z6 y7 z7
  have he:=H0.out
  cases e0
  · rw [Bool.not_false] at he
    clear H2 H2b H4 H5 H6 HS HE HN0 HZ0 y1 z1 HA HB HCC
    have HR:Hid (RR=false):=by
      show _=_
      have:=HQ.out
      simpa using this
    clear HQ H7
    go_wp2_with fail
    go_ret
    exact ⟨congrArg (fun b:Bool=>Ending.returned (.bool b)) HR.out.symm,Hb0.out⟩
  · rw [Bool.not_true] at he
    clear H0
    go_wp2_with fail
    refine Calls.mono (HS.out _) ?_
    rintro e w1 ⟨rfl,hw⟩
    subst hw
    clear HS he y0 z0 y1 z1
    cases e1
    · clear H2 H2b H4 H5 H6 HE HN0 HZ0 HA HB HCC
      have HR:Hid (RR=false):=by
        show _=_
        have:=HQ.out
        simpa using this
      clear HQ H7
      go_wp2_with fail
      go_ret
      exact ⟨congrArg (fun b:Bool=>Ending.returned (.bool b)) HR.out.symm,Hb0.out⟩
    ·
      obtain ⟨y0,y1,y2,y3,y4,y5,y6,y7⟩:=eight HN0.out
      obtain ⟨z0,z1,z2,z3,z4,z5,z6,z7⟩:=eight HZ0.out
      clear y0 z0 y1 z1 y4 z4 y5 z5 y6 z6 y7 z7
      have he:=H2.out
      have heb:=H2b.out
      clear H2b
      cases e2
      · rw [Bool.not_false] at he
        clear H4 H5 H6 HE HN0 HZ0 y3 z3 HA HB HCC
        have HR:Hid (RR=false):=by
          show _=_
          have:=HQ.out
          simpa using this
        clear HQ H7
        go_wp2_with fail
        go_ret
        exact ⟨congrArg (fun b:Bool=>Ending.returned (.bool b)) HR.out.symm,Hb0.out⟩
      · rw [Bool.not_true] at he
        clear H2
        go_wp2_with fail
        refine Calls.mono (HE.out _ Hb0.out) ?_
        rintro e w1 ⟨rfl,hb1⟩
        have HN1:=hid_of ((hb1.block _ (Array.getElem?_eq_some_iff.1 HN0.out).1).trans HN0.out)
        have HZ1:=hid_of ((hb1.block _ (Array.getElem?_eq_some_iff.1 HZ0.out).1).trans HZ0.out)
        have HB1:=hid_of (bt Hb0.out hb1)
        clear HE hb1 HN0 HZ0 Hb0 he heb y2 z2 y3 z3
        cases e3
        · clear H4 H5 H6 HN1 HZ1 HA HB HCC
          have HR:Hid (RR=false):=by
            show _=_
            have:=HQ.out
            simpa using this
          clear HQ H7
          go_wp2_with fail
          go_ret
          exact ⟨congrArg (fun b:Bool=>Ending.returned (.bool b)) HR.out.symm,HB1.out⟩
        ·
          obtain ⟨y0,y1,y2,y3,y4,y5,y6,y7⟩:=eight HN1.out
          obtain ⟨z0,z1,z2,z3,z4,z5,z6,z7⟩:=eight HZ1.out
          clear y0 z0 y1 z1 y2 z2 y3 z3
          have he:=H4.out
          cases e4
          · rw [Bool.not_false] at he
            clear H5 H6 y5 z5 y6 z6 y7 z7 HA HB HCC
            have HR:Hid (RR=false):=by
              show _=_
              have:=HQ.out
              simpa using this
            clear HQ H7
            go_wp2_with fail
            go_ret
            exact ⟨congrArg (fun b:Bool=>Ending.returned (.bool b)) HR.out.symm,HB1.out⟩
          · rw [Bool.not_true] at he
            have h4:=he
            clear H4 he
            have he:=H5.out
            cases e5
            · rw [Bool.not_false] at he
              clear H6 y6 z6 y7 z7 HA HB HCC
              have HR:Hid (RR=false):=by
                show _=_
                have:=HQ.out
                simpa using this
              clear HQ H7
              go_wp2_with fail
              go_ret
              exact ⟨congrArg (fun b:Bool=>Ending.returned (.bool b)) HR.out.symm,HB1.out⟩
            · rw [Bool.not_true] at he
              have h5:=he
              clear H5 he
              have he:=H6.out
              cases e6
              · rw [Bool.not_false] at he
                clear y7 z7 HA HB HCC
                have HR:Hid (RR=false):=by
                  show _=_
                  have:=HQ.out
                  simpa using this
                clear HQ H7
                go_wp2_with fail
                go_ret
                exact ⟨congrArg (fun b:Bool=>Ending.returned (.bool b)) HR.out.symm,HB1.out⟩
              · rw [Bool.not_true] at he
                by_cases hlen:ar.length=ar2.length
                · have ht:((ar.length:Int) != (ar2.length:Int))=false:=by rw [bne_eq_false_iff_eq];omega
                  have HR:Hid (RR=smL (ar.drop 0) (ar2.drop 0)):=by
                    show _=_
                    rw [List.drop_zero,List.drop_zero,← H7.out]
                    have:=HQ.out
                    simpa using this
                  have HL:=hid_of hlen
                  clear HQ H7 H6 hlen
                  go_upto_region 3 with fail
                  clear he h4 h5 y4 z4 y5 z5 y6 z6 y7 z7 ht
                  go_wp2_with fail
                  go_loopw [5] (fun a W=>∃ i:Nat,i≤ar.length∧a=.int .i64 (i:Int)∧Hid (Below w.heap.size w W)∧Hid (W.heap[w.heap.size]? =some (.cells (rc k x nm (.slice la lb.length lc) wi n d (.slice qa ar.length qc)) 27))∧Hid (W.heap[w.heap.size+1]? =some (.cells (rc k2 x2 nm2 (.slice la2 lb2.length lc2) wi2 n2 d2 (.slice qa2 ar2.length qc2)) 27))∧Hid (RR=smL (ar.drop i) (ar2.drop i))) (fun a _=>ar.length - (intOf a).toNat)
                  case atStart=>exact ⟨0,by omega,rfl,HB1,HN1,HZ1,HR⟩
                  case round =>
                    clear HB1 HN1 HZ1 HR
                    obtain ⟨i,hi,rfl,HW,HN,HZ,HR⟩:=hrel
                    obtain ⟨y0,y1,y2,y3,y4,y5,y6,y7⟩:=eight HN.out
                    obtain ⟨z0,z1,z2,z3,z4,z5,z6,z7⟩:=eight HZ.out
                    clear y0 y1 y2 y3 y4 y5 y6 z0 z1 z2 z3 z4 z5 z6
                    by_cases hlt:i < ar.length
                    · have hlt2:i < ar2.length:=by have:=HL.out;omega
                      obtain ⟨rfl,-⟩:=HA.out (by intro e;rw [e] at hlt;simp at hlt)
                      obtain ⟨rfl,-⟩:=HB.out (by intro e;rw [e] at hlt2;simp at hlt2)
                      have hlt':(i:Int) < (ar.length:Int):=by omega
                      have hlt2':(i:Int) < (ar2.length:Int):=by omega
                      obtain ⟨u,v,⟨k',x',nm',la',ln',lc',wi',n',d',qa',qn',qc',rfl⟩,⟨k3,x3,nm3,la3,ln3,lc3,wi3,n3,d3,qa3,qn3,qc3,rfl⟩,hu,hv,hcall⟩:=HCC.out i hlt hlt2
                      have hz:=HR.out
                      rw [smL_drop _ _ _ hlt hlt2] at hz
                      have HZ1:=hid_of hz
                      have hix1:=index_rl ab ao ar.length qc i (i:Int) rfl hlt
                      have hix2:=index_rl ab2 ao2 ar2.length qc2 i (i:Int) rfl hlt2
                      obtain ⟨p1,hp1⟩:∃ p,p=ao+i*8:=⟨_,rfl⟩
                      obtain ⟨p2,hp2⟩:∃ p,p=ao2+i*8:=⟨_,rfl⟩
                      rw [← hp1] at hix1 hu
                      rw [← hp2] at hix2 hv
                      have D:Hid (∀ W,Below w.heap.size w W→Calls Tryz.prog 6 #[.agg (rc k' x' nm' (.slice la' ln' lc') wi' n' d' (.slice qa' qn' qc')),.agg (rc k3 x3 nm3 (.slice la3 ln3 lc3) wi3 n3 d3 (.slice qa3 qn3 qc3))] W fun e w'=>e=.returned (.bool (smB ar[i] ar2[i]))∧Below W.heap.size W w'):=hcall
                      have cs:=hu wr HW.out
                      have ct:=hv wr HW.out
                      have x0:=cs 0 (by show 0 < 8;decide)
                      have x1:=cs 1 (by show 1 < 8;decide)
                      have x2:=cs 2 (by show 2 < 8;decide)
                      have x3:=cs 3 (by show 3 < 8;decide)
                      have x4:=cs 4 (by show 4 < 8;decide)
                      have x5:=cs 5 (by show 5 < 8;decide)
                      have x6:=cs 6 (by show 6 < 8;decide)
                      have x7:=cs 7 (by show 7 < 8;decide)
                      have t0:=ct 0 (by show 0 < 8;decide)
                      have t1:=ct 1 (by show 1 < 8;decide)
                      have t2:=ct 2 (by show 2 < 8;decide)
                      have t3:=ct 3 (by show 3 < 8;decide)
                      have t4:=ct 4 (by show 4 < 8;decide)
                      have t5:=ct 5 (by show 5 < 8;decide)
                      have t6:=ct 6 (by show 6 < 8;decide)
                      have t7:=ct 7 (by show 7 < 8;decide)
                      try simp only [Nat.add_zero] at x0 t0
                      clear cs ct hu hv hp1 hp2 hcall hz HCC HR
                      generalize smB ar[i] ar2[i]=bt1 at *
                      go_upto_region 6 with fail
                      go_region_with (go_at_call 6;(with_reducible refine Calls.mono (D.out _ (by repeat (first | exact HW.out | with_reducible refine bel_drewB ?_))) ?_);rintro e w9 ⟨rfl,hb9⟩;have HB9:=hid_of (bt (show Below w.heap.size w _ by repeat (first | exact HW.out | with_reducible refine bel_drewB ?_)) hb9);have HN9:=hid_of ((hb9.block _ (Array.getElem?_eq_some_iff.1 HN.out).1).trans HN.out);have HZ9:=hid_of ((hb9.block _ (Array.getElem?_eq_some_iff.1 HZ.out).1).trans HZ.out))
                      all_goals
                        clear D HW HN HZ y7 z7 x0 x1 x2 x3 x4 x5 x6 x7 t0 t1 t2 t3 t4 t5 t6 t7 hix1 hix2 hb9
                        cases bt1
                        · have HE:Hid (RR=false):=by show _=_;rw [HZ1.out,Bool.false_and]
                          clear HZ1
                          go_wp2_with fail
                          go_ret
                          exact ⟨congrArg (fun b:Bool=>Ending.returned (.bool b)) HE.out.symm,HB9.out⟩
                        · have HE:Hid (RR=smL (ar.drop (i+1)) (ar2.drop (i+1))):=by show _=_;rw [HZ1.out,Bool.true_and]
                          clear HZ1
                          go_wp2_with fail
                          exact ⟨⟨i+1,by omega,by go_num,HB9,HN9,HZ9,HE⟩,by simp [intOf];omega⟩
                    · obtain rfl:i=ar.length:=by omega
                      have hlt':¬ (ar.length:Int) < (ar.length:Int):=by omega
                      have HE:Hid (RR=true):=by show _=_;rw [HR.out,smL_end _ _ HL.out]
                      clear HR HCC HA HB
                      go_wp2_with fail
                      go_ret
                      exact ⟨congrArg (fun b:Bool=>Ending.returned (.bool b)) HE.out.symm,HW.out⟩
                · have ht:((ar.length:Int) != (ar2.length:Int))=true:=by rw [bne_iff_ne];omega
                  have HR:Hid (RR=false):=by
                    show _=_
                    have h7:=H7.out
                    rw [smL_ne _ _ hlen] at h7
                    have:=HQ.out
                    rw [h7] at this
                    simpa using this
                  clear HQ H7 hlen HA HB HCC H6
                  go_wp2_with fail
                  go_ret
                  exact ⟨congrArg (fun b:Bool=>Ending.returned (.bool b)) HR.out.symm,HB1.out⟩
end Go.Proofs.YtifapjammoahgaaGreatDoor.Ru
/- RULES: RulesSames' walk. Own work of the verifier. -/
namespace Go.Proofs.YtifapjammoahgaaGreatDoor.Ru
open Go.RowKit Go.Sort Me
theorem smL_refl':∀ (ar:List RT),(∀ a ∈ ar,smB a a=true)→smL ar ar=true
  | [],_=>by rw [smL];rfl
  | t::ar,h=>by rw [smL,h t List.mem_cons_self,smL_refl' ar (fun a ha=>h a (List.mem_cons_of_mem _ ha))];rfl
theorem smB_refl:∀ t:RT,smB t t=true:=by
  refine RT.ind ?_
  intro k x nm lb w n d ar ih
  rw [smB,smL_refl' ar ih]
  have e1:Re.sF x x=true:=by
    unfold Re.sF Re.sg
    rw [if_neg (Nat.lt_irrefl _),if_neg (Nat.lt_irrefl _)]
    rfl
  simp [e1]
end Go.Proofs.YtifapjammoahgaaGreatDoor.Ru
