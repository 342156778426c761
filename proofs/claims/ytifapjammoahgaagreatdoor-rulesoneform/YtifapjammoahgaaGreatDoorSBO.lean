/- RULES: write. Own work of the verifier. -/
import Derived.Test.YtifapjammoahgaaGreatDoorSBN
import Derived.Test.YtifapjammoahgaaGreatDoorSBM
import Derived.Lib.AppendStr
import Derived.Lib.BufferKept
import Derived.Deep.RegionHeld3
import Derived.Test.YtifapjammoahgaaGreatDoorSBJ
import Derived.Test.YtifapjammoahgaaGreatDoorSAT
import Derived.Barred
set_option maxRecDepth 100000
set_option maxHeartbeats 4000000
namespace Go.Proofs.YtifapjammoahgaaGreatDoor.Ru
open Go.RowKit Go.Sort Me
mutual
noncomputable def wrT:RT→List UInt8
  | .mk k x nm lb w n d ar =>
    if shp k=1 then Rl.pText x
    else if shp k=2∨shp k=3 then msT (kwI k) nm lb w n d
    else if shp k=7 then (kwI k).2++[40]++(wrTs ar).getD 0 []++[41]
    else [40]++(wrTs ar).getD 0 []++([32]++(kwI k).2++[32])++(wrTs ar).getD 1 []++[41]
noncomputable def wrTs:List RT→List (List UInt8)
  | []=>[]
  | t::ar=>wrT t::wrTs ar
end
theorem wrTs_get:∀ (ar:List RT) (i:Nat) (h:i < ar.length),(wrTs ar).getD i []=wrT ar[i]
  | [],i,h=>by simp at h
  | t::ar,0,_=>by rw [wrTs];rfl
  | t::ar,i+1,h=>by
    rw [wrTs]
    exact wrTs_get ar i (by simpa using h)
def szI:RT→Prop
  | .mk _ _ _ _ w n d _=>(-9223372036854775808≤w∧w≤9223372036854775807)∧(-9223372036854775808≤n∧n≤9223372036854775807)∧(-9223372036854775808≤d∧d≤9223372036854775807)
def okP (s:RT):Prop:=okN s=0∧szN s∧szI s
theorem kw_len (k:Int):(kwI k).2.length≤8:=by
  unfold kwI
  split
  · rename_i h
    obtain ⟨i,rfl⟩:=Int.eq_ofNat_of_zero_le (a:=k) (by omega)
    have hi:i < 22:=by omega
    show (kwA i).2.length≤8
    rcases i with _ | _ | _ | _ | _ | _ | _ | _ | _ | _ | _ | _ | _ | _ | _ | _ | _ | _ | _ | _ | _ | _ | i
    all_goals first | omega | decide
  · decide
theorem write_any (u:World) (he:Env u) (kb:Nat):∀ (t:RT) (v:Value) (w0 w:World) (pre:List UInt8),RV 0 u t v→(∀ s ∈ nds t,okP s)→Below u.heap.size u w→La.BS u.heap.size kb w0 pre w→pre.length+(wrT t).length≤140737488355328 →
    Calls Tryz.prog 15 #[.pointer (some ⟨kb,0,none⟩),v] w fun e w'=>e=.returned (.tuple #[])∧La.BS u.heap.size kb w0 (pre++wrT t) w':=by
  refine RT.ind ?_
  intro k x nm lb wi n d ar ih v w0 w pre hv hok hu hB hT
  obtain ⟨hself,⟨hx,hds⟩,hsw,hsn,hsd⟩:=hok _ (nds_self _)
  have hch:∀ i (hi:i < ar.length),∀ s ∈ nds ar[i],okP s:=fun i hi s hs=>hok s (by
    unfold nds
    exact List.mem_cons_of_mem _ (ndsL_mem (List.getElem_mem hi) hs))
  obtain ⟨hl0,hl2,hl1,hl3⟩:=okN_len hself
  have hsh:=kwI_le k
  have hkl:=kw_len k
  unfold RV at hv
  obtain ⟨lv,aa,ab,ao,ac,rfl,hl,haa,hac,hac2,hrs⟩:=hv
  obtain ⟨la,lb0,lo,lc,rfl,hlr⟩:=hl
  obtain ⟨W0,hW0⟩:∃ W0,W0=w.alloc (.cells (rc k x nm (.slice la lb.length lc) wi n d (.slice aa ar.length ac)) 27):=⟨_,rfl⟩
  have hb0:Below w.heap.size w W0:=by rw [hW0];exact bel1 w _
  have hn0:W0.heap[w.heap.size]? =some (.cells (rc k x nm (.slice la lb.length lc) wi n d (.slice aa ar.length ac)) 27):=by rw [hW0];exact new_1 w _
  have HK:Hid (∀ W,Below u.heap.size u W→Calls Tryz.prog 24 #[rx k x nm (.slice la lb.length lc) wi n d (.slice aa ar.length ac)] W fun e w'=>e=.returned (kx (kwI k))∧Below W.heap.size W w'):=fun W hb=>kind_any k x nm _ wi n d _ ⟨_,_,_,rfl⟩ ⟨_,_,_,rfl⟩ W (he.kd.below hb)
  have HP:Hid (∀ W,Below u.heap.size u W→Calls Tryz.prog 26 #[.float .f64 x] W fun e w'=>e=.returned (.string ⟨(Rl.pText x).toArray⟩)∧Below W.heap.size W w'):=fun W hb=>Rl.print_all x hx W (he.gl.below hb)
  have hkw:kwI k=(shp k,(kwI k).2):=rfl
  have HMs:Hid (∀ (l:List UInt8) W,Below u.heap.size u W→La.BS u.heap.size kb w0 l W→l.length+(msT (kwI k) nm lb wi n d).length≤140737488355328→Calls Tryz.prog 27 #[.pointer (some ⟨kb,0,none⟩),kx (kwI k),rx k x nm (.slice la lb.length lc) wi n d (.slice aa ar.length ac)] W fun e w'=>e=.returned (.tuple #[])∧La.BS u.heap.size kb w0 (l++msT (kwI k) nm lb wi n d) w'):=fun l W hb hs hl=>measure_any u w0 he kb l (kwI k) k x nm lb wi n d _ aa _ ac W hb hs ⟨la,lb0,lo,lc,rfl,hlr⟩ (fun a ha=>by have:=(hds.2.2 a ha).2;omega) hsw hsn hsd hl
  have HC:Hid (∀ i (hi:i < ar.length),∃ c:Array Value,(∃ k x nm la ln lc w n d aa an ac,c=rc k x nm (.slice la ln lc) w n d (.slice aa an ac))∧(∀ W,Below u.heap.size u W→∀ j (hj:j < c.size),W.cell? ⟨ab,ao+i*8+j,none⟩=some c[j])∧∀ w0 W pre,Below u.heap.size u W→La.BS u.heap.size kb w0 pre W→pre.length+(wrT ar[i]).length≤140737488355328→Calls Tryz.prog 15 #[.pointer (some ⟨kb,0,none⟩),.agg c] W fun e w'=>e=.returned (.tuple #[])∧La.BS u.heap.size kb w0 (pre++wrT ar[i]) w'):=fun i hi=>by
    obtain ⟨c,h1,h2,h3⟩:=hrs.at_ i hi
    refine ⟨c,?_,fun W hb j hj=>cellH' hb (h3 j hj),fun w0 W pre hb hs hl=>ih ar[i] (List.getElem_mem hi) (.agg c) w0 W pre h1 (hch i hi) hb hs hl⟩
    obtain ⟨k',x',nm',la',ln',lc',w',n',d',aa',an',ac',e⟩:=h1.form
    exact ⟨k',x',nm',la',ln',lc',w',n',d',aa',an',ac',by cases e;rfl⟩
  have hT':=hT
  unfold wrT at hT' ⊢
  rw [hkw] at HK HMs hT' ⊢
  dsimp only at hT' ⊢
  have hfl:=fldK
  have sF:=store_f
  have HB0:Hid (Below u.heap.size u W0):=bt hu hb0
  have hS0:La.BS u.heap.size kb w0 pre W0:=by rw [hW0];exact hB.alloc _
  have hkb:kb < w.heap.size:=hB.lt
  have HS0:=hid_of hS0
  have HN0:=hid_of hn0
  have HW0:=hid_of hW0
  have HA:=hid_of haa
  have hac':ar.length≤9223372036854775807:=by omega
  have H0:=hid_of hl0
  have H1:=hid_of hl1
  have H2:=hid_of hl2
  have HL:Hid (shp k≤7):=hsh
  have HG:Hid (∀ i (hi:i < ar.length),(wrTs ar).getD i []=wrT ar[i]):=fun i hi=>wrTs_get ar i hi
  clear he hu hB hT hself hx hds hsw hsn hsd hch hok hl0 hl2 hl1 hl3 hsh hlr haa hrs hb0 hn0 hW0 ih hkw hac2 hac hS0
  generalize (kwI k).2=wd at *
  generalize shp k=sh at *
  generalize Rl.pText x=PT at *
  generalize msT (sh,wd) nm lb wi n d=MT at *
  generalize wrTs ar=TS at *
  obtain ⟨X,hX⟩:∃ X,X=(if sh=1 then PT else if sh=2∨sh=3 then MT else if sh=7 then wd++[40]++TS.getD 0 []++[41] else [40]++TS.getD 0 []++([32]++wd++[32])++TS.getD 1 []++[41]):=⟨_,rfl⟩
  rw [← hX] at hT' ⊢
  have HX0:=hid_of hX
  clear hX
  obtain ⟨c0,hc0⟩:∃ c0,c0=(rc k x nm (.slice la lb.length lc) wi n d (.slice aa ar.length ac)):=⟨_,rfl⟩
  go_enter Tryz.func15,Tryz.ntmps15
  go_upto_region 1 with fail
  rw [← HW0.out]
  obtain ⟨y0,y1,y2,y3,y4,y5,y6,y7⟩:=eight HN0.out
  go_wp2_with fail
  refine Calls.mono (HK.out _ HB0.out) ?_
  rintro e w1 ⟨rfl,hb1⟩
  have hM1:Wm u w0 kb w1.heap.size w.heap.size (sh,wd) (rc k x nm (.slice la lb.length lc) wi n d (.slice aa ar.length ac)) pre (w1.alloc (.cells #[.int .i64 (sh:Int),.string ⟨wd.toArray⟩] 76)) :=
    ⟨(bs_below HS0.out hb1).alloc _,bt (bt HB0.out hb1) (bel1 _ _),new_1 _ _,((bel1 w1 (.cells #[.int .i64 (sh:Int),.string ⟨wd.toArray⟩] 76)).block _ (by have:=hb1.size;have:=(Array.getElem?_eq_some_iff.1 HN0.out).1;omega)).trans ((hb1.block _ (Array.getElem?_eq_some_iff.1 HN0.out).1).trans HN0.out),by have:=hb1.size;have:=(Array.getElem?_eq_some_iff.1 HN0.out).1;omega,by omega⟩
  have HM1:=hid_of hM1
  clear hM1 hb1 HK HS0 HB0 HW0 HN0 y0 y1 y2 y3 y4 y5 y6 y7 hkb
  go_upto_region 2 with fail
  generalize w1.alloc (.cells #[.int .i64 (sh:Int),.string ⟨wd.toArray⟩] 76)=W2 at *
  generalize w1.heap.size=gk at *
  generalize w.heap.size=gr at *
  rw [← hc0] at HM1
  have HE8:Hid (∀ l W,Wm u w0 kb gk gr (sh,wd) c0 l W→(W.cell? ⟨gk,0,none⟩=some (.int .i64 (sh:Int))∧W.cell? ⟨gk,1,none⟩=some (.string ⟨wd.toArray⟩))∧W.cell? ⟨gr,0,none⟩=some (.int .i64 k)∧W.cell? ⟨gr,1,none⟩=some (.float .f64 x)∧W.cell? ⟨gr,2,none⟩=some (.string ⟨nm.toArray⟩)∧W.cell? ⟨gr,3,none⟩=some (.slice la lb.length lc)∧W.cell? ⟨gr,4,none⟩=some (.int .i64 wi)∧W.cell? ⟨gr,5,none⟩=some (.int .i64 n)∧W.cell? ⟨gr,6,none⟩=some (.int .i64 d)∧W.cell? ⟨gr,7,none⟩=some (.slice aa ar.length ac)):=fun l W h=>⟨kd_cells h.kd,eight (t:=27) (by have:=h.rl;rw [hc0] at this;exact this)⟩
  clear hc0
  obtain ⟨⟨k0,k1⟩,y0,y1,y2,y3,y4,y5,y6,y7⟩:=HE8.out _ _ HM1.out
  by_cases s1:sh=1
  · have g1:((sh:Int) == 1)=true:=by rw [beq_iff_eq];omega
    have e:=HX0.out
    rw [if_pos s1] at e
    subst e
    have HX:=hid_of (HP.out W2 HM1.out.st)
    clear HP HMs HC H0 H1 H2 HL HG HA s1 k1 y0 y2 y3 y4 y5 y6 y7 HX0
    go_wp2_with fail
    refine Calls.mono HX.out ?_
    rintro e w3 ⟨rfl,hb3⟩
    have HM3:=hid_of (HM1.out.below hb3)
    have D:La.HidC _ _ _ _ _:=HM3.out.ws X hT'
    clear HX hb3 HM1 HE8 k0 y1
    go_wp2_with fail
    refine Calls.mono D.out ?_
    rintro e w4 ⟨rfl,hm4⟩
    go_wp2_with fail
    go_end0
    exact ⟨rfl,hm4.bs⟩
  have g1:((sh:Int) == 1)=false:=by rw [beq_eq_false_iff_ne];omega
  have e:=HX0.out
  rw [if_neg s1] at e
  have HX1:=hid_of e
  clear e HX0
  clear HP
  by_cases s2:sh=2∨sh=3
  · have e:=HX1.out
    rw [if_pos s2] at e
    subst e
    have D:La.HidC _ _ _ _ _:=HMs.out pre W2 HM1.out.st HM1.out.bs hT'
    clear HMs HC H0 H1 H2 HL HG HA HE8 HM1
    rcases s2 with s2 | s2
    · have g2:((sh:Int) == 2)=true:=by rw [beq_iff_eq];omega
      clear s1 s2
      go_wp2_with fail
      refine Calls.mono D.out ?_
      rintro e w4 ⟨rfl,hm4⟩
      go_wp2_with fail
      go_end0
      exact ⟨rfl,hm4⟩
    · have g2:((sh:Int) == 2)=false:=by rw [beq_eq_false_iff_ne];omega
      have g3:((sh:Int) == 3)=true:=by rw [beq_iff_eq];omega
      clear s1 s2
      go_wp2_with fail
      refine Calls.mono D.out ?_
      rintro e w4 ⟨rfl,hm4⟩
      go_wp2_with fail
      go_end0
      exact ⟨rfl,hm4⟩
  have g2:((sh:Int) == 2)=false:=by rw [beq_eq_false_iff_ne];omega
  have g3:((sh:Int) == 3)=false:=by rw [beq_eq_false_iff_ne];omega
  have e:=HX1.out
  rw [if_neg s2] at e
  have HX2:=hid_of e
  clear e HX1
  clear HMs
  by_cases s7:sh=7
  · have g7:((sh:Int) == 7)=true:=by rw [beq_iff_eq];omega
    have e:=HX2.out
    rw [if_pos s7] at e
    have h1:=H1.out s7
    have hlt0:0 < ar.length:=by omega
    rw [HG.out 0 hlt0] at e
    rw [e] at hT'
    have HF0:=hid_of e
    clear e HX2
    obtain ⟨haa,-⟩:=HA.out (fun e=>by rw [e] at hlt0;simp at hlt0)
    subst haa
    obtain ⟨c0,⟨k0',x0',nm0',la0',ln0',lc0',w0',n0',d0',aa0',an0',ac0',rfl⟩,hcs0,hcl0⟩:=HC.out 0 hlt0
    have HW0:=hid_of hcl0
    have HQ0:=hid_of hcs0
    clear hcs0 hcl0
    have hix0:∀ W,(Instr.indexAt 25 (.slice (some ⟨ab,ao,none⟩) ar.length ac) (.int .i64 0)).run Tryz.prog W=.ok (.pointer (some ⟨ab,ao,none⟩)) W:=fun W=>by simpa using index_rl ab ao ar.length ac 0 0 rfl hlt0 W
    clear HC H0 H1 H2 HL HG HA h1 s7 s1 s2
    generalize wrT ar[0]=T0 at *
    obtain ⟨z0,hz0⟩:∃ z,z=wd++[40]:=⟨_,rfl⟩
    have hz0l:z0.length=wd.length+1:=by rw [hz0];simp
    have hTl:pre.length+z0.length+T0.length+1≤140737488355328:=by rw [hz0l];simp at hT';omega
    have HF:Hid (pre++X=pre++z0++T0++[41]):=by show _=_;rw [HF0.out,hz0];simp
    have q0:∀ W,(Op.stringOp .add ⟨wd.toArray⟩ ⟨#[40]⟩).run Tryz.prog W=.ok (.string ⟨z0.toArray⟩) W:=fun W=>by rw [hz0];exact La.sadd wd [40] (by simp;omega) W
    have D:La.HidC _ _ _ _ _:=HM1.out.ws z0 (by omega)
    clear HF0 hz0 hz0l hT' hlt0
    go_wp2_with fail
    refine Calls.mono D.out ?_
    rintro e w3 ⟨rfl,hm3⟩
    have HM3:=hid_of hm3
    clear D HM1 hm3 q0 k0 k1 y0 y1 y2 y3 y4 y5 y6 y7
    have cs:=HQ0.out w3 HM3.out.st
    have x0:=cs 0 (by show 0 < 8;decide)
    have x1:=cs 1 (by show 1 < 8;decide)
    have x2:=cs 2 (by show 2 < 8;decide)
    have x3:=cs 3 (by show 3 < 8;decide)
    have x4:=cs 4 (by show 4 < 8;decide)
    have x5:=cs 5 (by show 5 < 8;decide)
    have x6:=cs 6 (by show 6 < 8;decide)
    have x7:=cs 7 (by show 7 < 8;decide)
    simp only [Nat.zero_mul,Nat.add_zero] at x0 x1 x2 x3 x4 x5 x6 x7
    clear cs
    obtain ⟨⟨k0,k1⟩,y0,y1,y2,y3,y4,y5,y6,y7⟩:=HE8.out _ _ HM3.out
    have D:La.HidC _ _ _ _ _:=HW0.out w3 w3 (pre++z0) HM3.out.st HM3.out.bs.re (by simp only [List.length_append];omega)
    clear HW0 HQ0 HE8
    go_wp2_with fail
    refine Calls.mono D.out ?_
    rintro e w4 ⟨rfl,hm4⟩
    have HM4:=hid_of (HM3.out.then hm4)
    have D2:La.HidC _ _ _ _ _:=HM4.out.ws [41] (by simp only [List.length_append,List.length_cons,List.length_nil];omega)
    clear D HM3 hm4 k0 k1 y0 y1 y2 y3 y4 y5 y6 y7 x0 x1 x2 x3 x4 x5 x6 x7 hix0
    go_wp2_with fail
    refine Calls.mono D2.out ?_
    rintro e w5 ⟨rfl,hm5⟩
    go_wp2_with fail
    go_end0
    exact ⟨rfl,by rw [HF.out];exact hm5.bs⟩
  have g7:((sh:Int) == 7)=false:=by rw [beq_eq_false_iff_ne];omega
  have e:=HX2.out
  rw [if_neg s7] at e
  have h2:=H2.out (by have:=HL.out;have:=H0.out;omega)
  have hlt0:0 < ar.length:=by omega
  have hlt1:1 < ar.length:=by omega
  rw [HG.out 0 hlt0,HG.out 1 hlt1] at e
  rw [e] at hT'
  have HF0:=hid_of e
  clear e HX2
  obtain ⟨haa,-⟩:=HA.out (fun e=>by rw [e] at hlt0;simp at hlt0)
  subst haa
  obtain ⟨c0,⟨k0',x0',nm0',la0',ln0',lc0',w0',n0',d0',aa0',an0',ac0',rfl⟩,hcs0,hcl0⟩:=HC.out 0 hlt0
  have HW0:=hid_of hcl0
  have HQ0:=hid_of hcs0
  clear hcs0 hcl0
  obtain ⟨c1,⟨k1',x1',nm1',la1',ln1',lc1',w1',n1',d1',aa1',an1',ac1',rfl⟩,hcs1,hcl1⟩:=HC.out 1 hlt1
  have HW1:=hid_of hcl1
  have HQ1:=hid_of hcs1
  clear hcs1 hcl1
  obtain ⟨o1,ho1⟩:∃ o1,o1=ao+1*8:=⟨_,rfl⟩
  have HO:Hid (ao+1*8=o1):=ho1.symm
  have hix0:∀ W,(Instr.indexAt 25 (.slice (some ⟨ab,ao,none⟩) ar.length ac) (.int .i64 0)).run Tryz.prog W=.ok (.pointer (some ⟨ab,ao,none⟩)) W:=fun W=>by simpa using index_rl ab ao ar.length ac 0 0 rfl hlt0 W
  have hix1:∀ W,(Instr.indexAt 25 (.slice (some ⟨ab,ao,none⟩) ar.length ac) (.int .i64 1)).run Tryz.prog W=.ok (.pointer (some ⟨ab,o1,none⟩)) W:=fun W=>by rw [ho1];exact index_rl ab ao ar.length ac 1 1 rfl hlt1 W
  clear HC H0 H1 H2 HL HG HA h2 s7 s1 s2 ho1
  generalize wrT ar[0]=T0 at *
  generalize wrT ar[1]=T1 at *
  obtain ⟨z0,hz0⟩:∃ z:List UInt8,z=[32]++wd:=⟨_,rfl⟩
  obtain ⟨z1,hz1⟩:∃ z,z=z0++[32]:=⟨_,rfl⟩
  have hz1l:z1.length=wd.length+2:=by rw [hz1,hz0];simp
  have hz0l:z0.length=wd.length+1:=by rw [hz0];simp
  have hTl:pre.length+1+T0.length+z1.length+T1.length+1≤140737488355328:=by rw [hz1l];simp at hT';omega
  have HF:Hid (pre++X=pre++[40]++T0++z1++T1++[41]):=by show _=_;rw [HF0.out,hz1,hz0];simp
  have q0:∀ W,(Op.stringOp .add ⟨#[32]⟩ ⟨wd.toArray⟩).run Tryz.prog W=.ok (.string ⟨z0.toArray⟩) W:=fun W=>by rw [hz0];exact La.sadd [32] wd (by simp;omega) W
  have q1:∀ W,(Op.stringOp .add ⟨z0.toArray⟩ ⟨#[32]⟩).run Tryz.prog W=.ok (.string ⟨z1.toArray⟩) W:=fun W=>by rw [hz1];exact La.sadd z0 [32] (by simp;omega) W
  have D:La.HidC _ _ _ _ _:=HM1.out.ws [40] (by simp only [List.length_cons,List.length_nil];omega)
  clear HF0 hz0 hz1 hz0l hz1l hT' hlt0 hlt1
  go_wp2_with fail
  refine Calls.mono D.out ?_
  rintro e w3 ⟨rfl,hm3⟩
  have HM3:=hid_of hm3
  clear D HM1 hm3 k0 k1 y0 y1 y2 y3 y4 y5 y6 y7
  have cs:=HQ0.out w3 HM3.out.st
  have x0:=cs 0 (by show 0 < 8;decide)
  have x1:=cs 1 (by show 1 < 8;decide)
  have x2:=cs 2 (by show 2 < 8;decide)
  have x3:=cs 3 (by show 3 < 8;decide)
  have x4:=cs 4 (by show 4 < 8;decide)
  have x5:=cs 5 (by show 5 < 8;decide)
  have x6:=cs 6 (by show 6 < 8;decide)
  have x7:=cs 7 (by show 7 < 8;decide)
  simp only [Nat.zero_mul,Nat.add_zero] at x0 x1 x2 x3 x4 x5 x6 x7
  clear cs
  obtain ⟨⟨k0,k1⟩,y0,y1,y2,y3,y4,y5,y6,y7⟩:=HE8.out _ _ HM3.out
  have D:La.HidC _ _ _ _ _:=HW0.out w3 w3 (pre++[40]) HM3.out.st HM3.out.bs.re (by simp only [List.length_append,List.length_cons,List.length_nil];omega)
  clear HW0 HQ0
  go_wp2_with fail
  refine Calls.mono D.out ?_
  rintro e w4 ⟨rfl,hm4⟩
  have HM4:=hid_of (HM3.out.then hm4)
  have D2:La.HidC _ _ _ _ _:=HM4.out.ws z1 (by simp only [List.length_append,List.length_cons,List.length_nil];omega)
  clear D HM3 hm4 k0 k1 y0 y1 y2 y3 y4 y5 y6 y7 x0 x1 x2 x3 x4 x5 x6 x7 hix0
  obtain ⟨⟨k0,k1⟩,y0,y1,y2,y3,y4,y5,y6,y7⟩:=HE8.out _ _ HM4.out
  go_wp2_with fail
  refine Calls.mono D2.out ?_
  rintro e w5 ⟨rfl,hm5⟩
  have HM5:=hid_of hm5
  clear D2 HM4 hm5 q0 q1 k0 k1 y0 y1 y2 y3 y4 y5 y6 y7
  have cs:=HQ1.out w5 HM5.out.st
  have x0:=cs 0 (by show 0 < 8;decide)
  have x1:=cs 1 (by show 1 < 8;decide)
  have x2:=cs 2 (by show 2 < 8;decide)
  have x3:=cs 3 (by show 3 < 8;decide)
  have x4:=cs 4 (by show 4 < 8;decide)
  have x5:=cs 5 (by show 5 < 8;decide)
  have x6:=cs 6 (by show 6 < 8;decide)
  have x7:=cs 7 (by show 7 < 8;decide)
  rw [HO.out] at x0 x1 x2 x3 x4 x5 x6 x7
  try simp only [Nat.add_zero] at x0
  clear cs
  obtain ⟨⟨k0,k1⟩,y0,y1,y2,y3,y4,y5,y6,y7⟩:=HE8.out _ _ HM5.out
  have D:La.HidC _ _ _ _ _:=HW1.out w5 w5 _ HM5.out.st HM5.out.bs.re (by simp only [List.length_append,List.length_cons,List.length_nil];omega)
  clear HW1 HQ1 HE8
  go_wp2_with fail
  refine Calls.mono D.out ?_
  rintro e w6 ⟨rfl,hm6⟩
  have HM6:=hid_of (HM5.out.then hm6)
  have D2:La.HidC _ _ _ _ _:=HM6.out.ws [41] (by simp only [List.length_append,List.length_cons,List.length_nil];omega)
  clear D HM5 hm6 k0 k1 y0 y1 y2 y3 y4 y5 y6 y7 x0 x1 x2 x3 x4 x5 x6 x7 hix1
  go_wp2_with fail
  refine Calls.mono D2.out ?_
  rintro e w7 ⟨rfl,hm7⟩
  go_wp2_with fail
  go_end0
  exact ⟨rfl,by rw [HF.out];exact hm7.bs⟩
end Go.Proofs.YtifapjammoahgaaGreatDoor.Ru
/- RULES: THE DOCUMENT'S TEXT OF ANY RULE THAT MAY BE. Own work of the verifier. -/
namespace Go.Proofs.YtifapjammoahgaaGreatDoor.Ru
open Go.RowKit Me
theorem ok_chk {k:Int} {x:Nat} {nm:List UInt8} {lb:List La.Lb} {w n d:Int} {ar:List RT} (h:okN (.mk k x nm lb w n d ar)=0) (hs:shp k=2∨shp k=3):La.chkD ⟨1,nm,[],lb⟩=0:=by
  have h':ndE (shp k) x nm lb w n d ar.length=0:=h
  unfold ndE at h'
  split at h'
  · exact absurd h' (by decide)
  · split at h'
    · exact absurd h' (by decide)
    · split at h'
      · exact absurd h' (by decide)
      · first
          | exact h'
          | (rw [if_pos hs] at h';exact h')
end Go.Proofs.YtifapjammoahgaaGreatDoor.Ru
/- RULES: A RULE'S TEXT IS READ AGAIN. Own work of the verifier. -/
namespace Go.Proofs.YtifapjammoahgaaGreatDoor.Ru
open Go.RowKit Me
theorem call_one {P:Program} {f:FuncId} {args:Array Value} {w:World} {v v':Value} (h:Calls P f args w fun e _=>e=.returned v) (h':Calls P f args w fun e _=>e=.returned v') (hi:P.inits.idxOf? f=none):v=v':=by
  obtain ⟨n,a,w1,h1,h2⟩:=Calls.done (R:=fun x _=>x=v) (h.mono (by rintro e w' rfl;rfl)) hi
  obtain ⟨n',a',w1',h1',h2'⟩:=Calls.done (R:=fun x _=>x=v') (h'.mono (by rintro e w' rfl;rfl)) hi
  subst h2 h2'
  have:=runN_same_end h1 h1'
  injection this
structure EnvF (W:World):Prop where
  e:Env W
  p:Rl.P10F W
  g:7 < W.heap.size
theorem EnvF.below {W W1:World} (h:EnvF W) (hb:Below W.heap.size W W1):EnvF W1:=⟨h.e.below hb,h.p.below hb,Nat.lt_of_lt_of_le h.g hb.size⟩
theorem parse_fin {x:Nat} (hx:x < 18446744073709551616) (hf:Re.finF x=true) (w:World) (he:EnvF w) :
    Calls Tryz.prog 51 #[.string ⟨(Rl.pText x).toArray⟩] w fun e w'=>e=.returned (.tuple #[.float .f64 x,.int .i64 0])∧Below w.heap.size w w' :=
  (Rl.Parse_all x hx w he.e.gl he.p he.g).mono (by
    rintro e w' ⟨⟨u,rfl,h1,-⟩,hb⟩
    unfold Re.finF at hf
    have:=of_decide_eq_true hf
    rw [h1 (by omega)]
    exact ⟨rfl,hb⟩)
theorem text_fin {x y:Nat} (hx:x < 18446744073709551616) (hf:Re.finF x=true) (hy:y < 18446744073709551616) (hg:Re.finF y=true) (w:World) (he:EnvF w) (h:Rl.pText x=Rl.pText y):x=y:=by
  have h1:=(parse_fin hx hf w he).mono (R':=fun e _=>e=.returned (.tuple #[.float .f64 x,.int .i64 0])) fun e w' k=>k.1
  have h2:=(parse_fin hy hg w he).mono (R':=fun e _=>e=.returned (.tuple #[.float .f64 y,.int .i64 0])) fun e w' k=>k.1
  rw [← h] at h2
  have:=call_one h1 h2 (by kernel_rfl)
  simpa using this
open Classical in
noncomputable def prF (l:List UInt8):Option Nat:=if h:∃ x,x < 18446744073709551616∧Re.finF x=true∧Rl.pText x=l then some h.choose else none
theorem prF_text {x:Nat} (hx:x < 18446744073709551616) (hf:Re.finF x=true) (w:World) (he:EnvF w):prF (Rl.pText x)=some x:=by
  have h:∃ y,y < 18446744073709551616∧Re.finF y=true∧Rl.pText y=Rl.pText x:=⟨x,hx,hf,rfl⟩
  unfold prF
  rw [dif_pos h]
  obtain ⟨h1,h2,h3⟩:=h.choose_spec
  rw [text_fin h1 h2 hx hf w he h3]
end Go.Proofs.YtifapjammoahgaaGreatDoor.Ru
/- RULES: Print; Eval of a number. Own work of the verifier. -/
set_option maxRecDepth 100000
set_option maxHeartbeats 2000000
namespace Go.Proofs.YtifapjammoahgaaGreatDoor.Ru
open Go.RowKit Go.Sort Me
theorem own_len {W:World} {B n:Nat} {v:Value} {xs:List Value} (h:W.ownsRowF B 5 1 v n xs):∃ ao cap,v=.slice ao n cap:=by
  obtain ⟨-,h⟩:=h
  rcases h with ⟨rfl,rfl⟩ | ⟨g,cap,cur,fz,rfl,-⟩
  · exact ⟨_,_,rfl⟩
  · exact ⟨_,_,rfl⟩
theorem bs_buf {B k:Nat} {w0 W:World} {l:List UInt8} (h:La.BS B k w0 l W):∃ ao cap,W.cell? ⟨k,1,none⟩=some (.slice ao l.length cap):=by
  have key:∀ p,Lib.BuilderAtF 53 5 B k p (Lib.byteCells l) W→∃ ao cap,W.cell? ⟨k,1,none⟩=some (.slice ao l.length cap):=fun p h=>by
    obtain ⟨-,v,hv,hown,-⟩:=h
    rw [Lib.byteCells_length] at hown
    obtain ⟨ao,cap,rfl⟩:=own_len hown
    exact ⟨ao,cap,by simp [World.cell?,hv]⟩
  exact h.ib.elim (key _) (key _)
theorem blen_any {B k:Nat} {w0 W:World} {l:List UInt8} (h:La.BS B k w0 l W) :
    Calls Tryz.prog 16 #[.pointer (some ⟨k,0,none⟩)] W fun e w'=>e=.returned (.int .i64 (l.length:Int))∧w'=W:=by
  obtain ⟨ao,cap,hc⟩:=bs_buf h
  clear h
  go_enter Tryz.func16,Tryz.ntmps16
  go_wp2_with fail
  go_ret
  exact ⟨rfl,rfl⟩
def PnQ (t:RT) (e:Ending):Prop :=
  (ckE t≠0∧e=.returned (.tuple #[.string ⟨#[]⟩,.int .i64 (ckE t)])) ∨
  (ckE t=0∧65536 < (wrT t).length∧e=.returned (.tuple #[.string ⟨#[]⟩,.int .i64 4])) ∨
  (ckE t=0∧(wrT t).length≤65536∧e=.returned (.tuple #[.string ⟨(wrT t).toArray⟩,.int .i64 0]))
theorem rprint_any (t:RT) (v:Value) (w:World) (hv:RV 0 w t v) (hz:∀ s ∈ nds t,szN s∧szI s) (hT:ckE t=0→(wrT t).length≤140737488355328) (he:Env w) :
    Calls Tryz.prog 7 #[v] w fun e w'=>PnQ t e∧Below w.heap.size w w':=by
  have HC:Hid (∀ W,Below w.heap.size w W→Calls Tryz.prog 8 #[v] W fun e w'=>e=.returned (.int .i64 (ckE t))∧Below W.heap.size W w'):=fun W hb=>check_any t v W (hv.below hb) (fun s hs=>(hz s hs).1) (he.kd.below hb)
  have HWr:Hid (ckE t=0→∀ W,Below w.heap.size w W→Calls Tryz.prog 15 #[.pointer (some ⟨W.heap.size,0,none⟩),v] (W.alloc (.cells #[.pointer none,.slice none 0 0] 53)) fun e w'=>e=.returned (.tuple #[])∧La.BS W.heap.size W.heap.size W (wrT t) w'):=fun h0 W hb=>by
    have hc:chkE t=0:=by
      unfold ckE at h0
      by_cases q:chkE t≠0
      · rw [if_pos q] at h0;exact absurd h0 q
      · exact Classical.not_not.1 q
    have:=write_any W (he.below hb) W.heap.size t v W (W.alloc (.cells #[.pointer none,.slice none 0 0] 53)) [] (hv.below hb) (fun s hs=>⟨chkE_zero hc s hs,(hz s hs).1,(hz s hs).2⟩) (bel1 _ _) (La.BS.new W) (by simpa using hT h0)
    simpa using this
  obtain ⟨k,x,nm,la,ln,lc,wi,n,d,aa,an,ac,rfl⟩:=hv.form
  have HQ1:Hid (ckE t≠0→PnQ t (.returned (.tuple #[.string ⟨#[]⟩,.int .i64 (ckE t)]))):=fun h=>Or.inl ⟨h,rfl⟩
  have HQ2:Hid (ckE t=0→65536 < (wrT t).length→PnQ t (.returned (.tuple #[.string ⟨#[]⟩,.int .i64 4]))):=fun h g=>Or.inr (Or.inl ⟨h,g,rfl⟩)
  have HQ3:Hid (ckE t=0→(wrT t).length≤65536→PnQ t (.returned (.tuple #[.string ⟨(wrT t).toArray⟩,.int .i64 0]))):=fun h g=>Or.inr (Or.inr ⟨h,g,rfl⟩)
  clear hv hz he hT
  generalize wrT t=T at *
  generalize ckE t=z at *
  generalize PnQ t=Q at *
  go_enter Tryz.func7,Tryz.ntmps7
  have hb0:=bel1 w (.cells (rc k x nm (.slice la ln lc) wi n d (.slice aa an ac)) 27)
  have hn0:=new_1 w (.cells (rc k x nm (.slice la ln lc) wi n d (.slice aa an ac)) 27)
  go_wp2_with fail
  refine Calls.mono (HC.out _ hb0) ?_
  rintro e w1 ⟨rfl,hb1⟩
  have hn1:=(hb1.block w.heap.size (by simp)).trans hn0
  have HB1:=hid_of (bt hb0 hb1)
  obtain ⟨y0,y1,y2,y3,y4,y5,y6,y7⟩:=eight hn1
  clear hb0 hn0 hb1 HC
  by_cases hz:z=0
  · have HWr0:=hid_of (HWr.out hz w1 HB1.out)
    have HQ2':=hid_of (HQ2.out hz)
    have HQ3':=hid_of (HQ3.out hz)
    subst hz
    clear HWr HQ1 HQ2 HQ3
    have hn2:=((bel1 w1 (.cells #[.pointer none,.slice none 0 0] 53)).block w.heap.size (Array.getElem?_eq_some_iff.1 hn1).1).trans hn1
    clear y0 y1 y2 y3 y4 y5 y6 y7 hn1
    obtain ⟨y0,y1,y2,y3,y4,y5,y6,y7⟩:=eight hn2
    clear hn2
    go_wp2_with fail
    refine Calls.mono HWr0.out ?_
    rintro e w2 ⟨rfl,hs2⟩
    have HS2:=hid_of hs2
    have D:La.HidC _ _ _ _ _:=blen_any hs2
    have HB2:Hid (Below w.heap.size w w2):=HB1.out.trans (hs2.bl.mono (by have:=HB1.out.size;omega))
    clear HWr0 hs2 y0 y1 y2 y3 y4 y5 y6 y7
    go_wp2_with fail
    refine Calls.mono D.out ?_
    rintro e w3 ⟨rfl,rfl⟩
    by_cases hl:T.length≤65536
    · have hl':¬ (65536:Int) < (T.length:Int):=by omega
      have D2:La.HidC _ _ _ _ _:=La.bstr_any HS2.out
      have HE:=hid_of (HQ3'.out hl)
      have HSz:=hid_of HS2.out.sz
      have HB1':=hid_of HB1.out.size
      clear D HQ2' HQ3' hl HS2
      go_wp2_with fail
      refine Calls.mono D2.out ?_
      rintro e w4 ⟨rfl,hs4⟩
      have HB4:Hid (Below w.heap.size w w4):=HB1.out.trans (hs4.bl.mono HB1'.out)
      clear D2 hs4
      go_wp2_with fail
      go_ret2
      exact ⟨HE.out,HB4.out⟩
    · have hl':(65536:Int) < (T.length:Int):=by omega
      have HE:=hid_of (HQ2'.out (by omega))
      clear D HQ2' HQ3' hl HS2
      go_wp2_with fail
      go_ret2
      exact ⟨HE.out,HB2.out⟩
  · have hz':(z == 0)=false:=beq_eq_false_iff_ne.2 hz
    have HN0:=hid_of (HQ1.out hz)
    clear HWr HQ1 HQ2 HQ3
    go_wp2_with fail
    go_ret2
    exact ⟨HN0.out,HB1.out⟩
def put3 (W:World) (g:Nat) (a0 a1 a2:Value):World:=((W.setCell ⟨g,0,none⟩ a0).setCell ⟨g,1,none⟩ a1).setCell ⟨g,2,none⟩ a2
theorem put3_heap {W:World} {g:Nat} {z0 z1 z2:Value} {t:TypeId} (h:W.heap[g]? =some (.cells #[z0,z1,z2] t)) (a0 a1 a2:Value):(put3 W g a0 a1 a2).heap[g]? =some (.cells #[a0,a1,a2] t):=by
  have h0:=Lib.heap_setCell_same (i:=0) h a0
  have h1:=Lib.heap_setCell_same (i:=1) h0 a1
  have h2:=Lib.heap_setCell_same (i:=2) h1 a2
  unfold put3
  rw [h2]
  simp
theorem put3_bel {w W:World} {g:Nat} (h:Below w.heap.size w W) (hg:w.heap.size≤g) (a0 a1 a2:Value):Below w.heap.size w (put3 W g a0 a1 a2) :=
  ((h.setCell (p:=⟨g,0,none⟩) hg _).setCell (p:=⟨g,1,none⟩) hg _).setCell (p:=⟨g,2,none⟩) hg _
theorem three {W:World} {g:Nat} {x y z:Value} {t:TypeId} (h:W.heap[g]? =some (.cells #[x,y,z] t)):(W.cell? ⟨g,0,none⟩=some x∧W.cell? ⟨g,1,none⟩=some y∧W.cell? ⟨g,2,none⟩=some z)∧∀ i,W.frozen? ⟨g,i,none⟩=false:=by
  refine ⟨⟨?_,?_,?_⟩,fun i=>?_⟩ <;> simp [World.cell?,World.frozen?,h]
theorem results_ct {P:Program} {fn:Func} {p a:Tmp} {ty:TypeId} (h:fn.results=#[.cell p ty,.tmp a]) (tmps:Array Value) (w:World) (g:Nat) (t:TypeId) (cs:Array Value) (fr:Nat × Nat) (d:TypeDesc)
    (hp:tmps.getD p undef=.pointer (some ⟨g,0,none⟩)) (hg:w.heap[g]? =some (.cells cs t fr))
    (hu:P.underlying ty=some d) (hd:(match d with | .struct _ | .array _ _=>true | _=>false)=true) (hi:(P.info? ty).map (·.size)=some cs.size) :
    (results fn tmps).run P w=.ok (.tuple #[.agg cs,tmps.getD a undef]) w:=by
  have hp':tmps[p]?.getD undef=.pointer (some ⟨g,0,none⟩):=by simpa using hp
  simp [results,h,hp',asAddr,run_loadVar_row w g t ty cs fr d hg hu hd hi,Result.andThen]
theorem num_any (x:Nat) (W:World):Calls Tryz.prog 227 #[.float .f64 x] W fun e w'=>e=.returned (.agg #[.bool false,.bool false,.float .f64 x])∧Below W.heap.size W w':=by
  have sF:=store_f
  go_enter Tryz.func227,Tryz.ntmps227
  go_wp2_with fail
  refine bodyPost_ret (results_cell_row (P:=Tryz.prog) rfl _ _ W.heap.size 42 _ (0,0) _ rfl (new_1 W _) Tryz.underlying42 rfl (by kernel_rfl)) rfl ?_
  exact ⟨rfl,bel1 _ _⟩
theorem work_const (x:Nat) (p:Option Addr) (z:Int) (w:World):Calls Tryz.prog 226 #[.float .f64 x,.agg #[.pointer p,.int .i64 z]] w fun e w'=>e=.returned (.tuple #[.agg #[.bool false,.bool false,.float .f64 x],.int .i64 0])∧Below w.heap.size w w':=by
  have sF:=store_f
  have HN:Hid (∀ W:World,Calls Tryz.prog 227 #[.float .f64 x] W fun e w'=>e=.returned (.agg #[.bool false,.bool false,.float .f64 x])∧Below W.heap.size W w'):=fun W=>num_any x W
  obtain ⟨W0,hW0⟩:∃ W0,W0=(w.alloc (.cells #[.pointer p,.int .i64 z] 68)).alloc (.cells #[.bool false,.bool false,.float .f64 0] 42):=⟨_,rfl⟩
  have hb0:Below w.heap.size w W0:=by rw [hW0];exact La.bel2 w _ _
  have hn0:W0.heap[w.heap.size+1]? =some (.cells #[.bool false,.bool false,.float .f64 0] 42):=by
    rw [hW0]
    have:=new_1 (w.alloc (.cells #[.pointer p,.int .i64 z] 68)) (.cells #[.bool false,.bool false,.float .f64 0] 42)
    simpa using this
  have HW0:=hid_of hW0
  clear hW0
  go_enter Tryz.func226,Tryz.ntmps226
  go_upto_region 1 with fail
  rw [← HW0.out]
  go_wp2_with fail
  refine Calls.mono (HN.out W0) ?_
  rintro e w1 ⟨rfl,hb1⟩
  have hn1:=(hb1.block _ (Array.getElem?_eq_some_iff.1 hn0).1).trans hn0
  have hb:=bt hb0 hb1
  obtain ⟨⟨z0,z1,z2⟩,zf⟩:=three hn1
  obtain ⟨W9,hW9⟩:∃ W9,W9=put3 w1 (w.heap.size+1) (.bool false) (.bool false) (.float .f64 x):=⟨_,rfl⟩
  have HW9:=hid_of hW9
  have HH:Hid (W9.heap[w.heap.size+1]? =some (.cells #[.bool false,.bool false,.float .f64 x] 42)):=by show _=_;rw [hW9];exact put3_heap hn1 _ _ _
  have HB:Hid (Below w.heap.size w W9):=by show Below _ _ _;rw [hW9];exact put3_bel hb (by omega) _ _ _
  clear hW9 hn1 hb hn0 hb0 hb1 HN HW0
  go_wp2_with fail
  obtain rfl:=HW9.out
  refine bodyPost_ret (results_ct rfl _ _ (w.heap.size+1) 42 _ (0,0) _ rfl HH.out Tryz.underlying42 rfl (by kernel_rfl)) rfl ?_
  exact ⟨rfl,HB.out⟩
abbrev numR (x:Nat):RT:=.mk 1 x [] [] 0 0 0 []
theorem ck_num:ckE (numR 4611686018427387904)=0:=by decide +kernel
theorem eval_two (r:Value) (hr:∃ p,r=.pointer p) (w:World) (h:Kd w) :
    Calls Tryz.prog 11 #[r,.int .i64 0,rx 1 4611686018427387904 [] (.slice none 0 0) 0 0 0 (.slice none 0 0)] w fun e w'=>e=.returned (.tuple #[.agg #[.bool false,.bool false,.float .f64 4611686018427387904],.int .i64 0])∧Below w.heap.size w w':=by
  obtain ⟨p,rfl⟩:=hr
  have sF:=store_f
  have HM:Hid (∀ W,Below w.heap.size w W→Calls Tryz.prog 18 #[rx 1 4611686018427387904 [] (.slice none 0 0) 0 0 0 (.slice none 0 0)] W fun e w'=>e=.returned (.tuple #[.iface 102 (.float .f64 4611686018427387904),.int .i64 0])∧Below W.heap.size W w'):=fun W hb=>(made_any (numR 4611686018427387904) _ W (RV.num 0 W _) (fun s hs=>by
      have:s=numR 4611686018427387904:=by simpa [nds,ndsL] using hs
      subst this
      exact ⟨by decide,by decide,by decide,fun a ha=>by cases ha⟩) (h.below hb)).mono (by
    rintro e w1 ⟨⟨hk,q,h1,h2⟩ | ⟨hk,h1⟩,hb1⟩
    · obtain rfl:=h2 (by decide)
      exact ⟨h1,hb1⟩
    · exact absurd ck_num hk)
  have HWk:Hid (∀ W,Calls Tryz.prog 226 #[.float .f64 4611686018427387904,.agg #[.pointer p,.int .i64 0]] W fun e w'=>e=.returned (.tuple #[.agg #[.bool false,.bool false,.float .f64 4611686018427387904],.int .i64 0])∧Below W.heap.size W w'):=fun W=>work_const _ p 0 W
  obtain ⟨W0,hW0⟩:∃ W0,W0=(w.alloc (.cells (rc 1 4611686018427387904 [] (.slice none 0 0) 0 0 0 (.slice none 0 0)) 27)).alloc (.cells #[.bool false,.bool false,.float .f64 0] 42):=⟨_,rfl⟩
  have hb0:Below w.heap.size w W0:=by rw [hW0];exact La.bel2 w _ _
  have hn0:W0.heap[w.heap.size+1]? =some (.cells #[.bool false,.bool false,.float .f64 0] 42):=by
    rw [hW0]
    have:=new_1 (w.alloc (.cells (rc 1 4611686018427387904 [] (.slice none 0 0) 0 0 0 (.slice none 0 0)) 27)) (.cells #[.bool false,.bool false,.float .f64 0] 42)
    simpa using this
  have hr0:W0.heap[w.heap.size]? =some (.cells (rc 1 4611686018427387904 [] (.slice none 0 0) 0 0 0 (.slice none 0 0)) 27):=by
    rw [hW0]
    exact ((bel1 _ _).block _ (by simp)).trans (new_1 w _)
  obtain ⟨y0,y1,y2,y3,y4,y5,y6,y7⟩:=eight hr0
  have HW0:=hid_of hW0
  clear hW0 h hr0
  go_enter Tryz.func11,Tryz.ntmps11
  go_upto_region 1 with fail
  rw [← HW0.out]
  go_wp2_with fail
  refine Calls.mono (HM.out W0 hb0) ?_
  rintro e w1 ⟨rfl,hb1⟩
  have hn1:=(hb1.block _ (Array.getElem?_eq_some_iff.1 hn0).1).trans hn0
  have hb:=bt hb0 hb1
  have HN1:=hid_of hn1
  have HB1:=hid_of hb
  clear HM hn0 hb0 hb1 hn1 hb HW0 y0 y1 y2 y3 y4 y5 y6 y7
  go_wp2_with fail
  refine Calls.mono (HWk.out _) ?_
  rintro e w2 ⟨rfl,hb2⟩
  have hn2:=(hb2.block _ (Array.getElem?_eq_some_iff.1 HN1.out).1).trans HN1.out
  have hb:=bt HB1.out hb2
  obtain ⟨⟨z0,z1,z2⟩,zf⟩:=three hn2
  obtain ⟨W9,hW9⟩:∃ W9,W9=put3 w2 (w.heap.size+1) (.bool false) (.bool false) (.float .f64 4611686018427387904):=⟨_,rfl⟩
  have HW9:=hid_of hW9
  have HH:Hid (W9.heap[w.heap.size+1]? =some (.cells #[.bool false,.bool false,.float .f64 4611686018427387904] 42)):=by show _=_;rw [hW9];exact put3_heap hn2 _ _ _
  have HB:Hid (Below w.heap.size w W9):=by show Below _ _ _;rw [hW9];exact put3_bel hb (by omega) _ _ _
  clear hW9 hn2 hb hb2 HN1 HB1 HWk
  go_wp2_with fail
  obtain rfl:=HW9.out
  refine bodyPost_ret (results_ct rfl _ _ (w.heap.size+1) 42 _ (0,0) _ rfl HH.out Tryz.underlying42 rfl (by kernel_rfl)) rfl ?_
  exact ⟨rfl,HB.out⟩
end Go.Proofs.YtifapjammoahgaaGreatDoor.Ru
