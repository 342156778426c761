/- RULES: THE DOCUMENT'S TEXT OF ANY RULE THAT MAY BE. Own work of the verifier. -/
import Derived.Test.YtibahfopmjiffaaGreatDoorSBK
import Derived.Test.YtibahfopmjiffaaGreatDoorSBM
import Derived.Test.YtibahfopmjiffaaGreatDoorSBL
set_option maxRecDepth 100000
set_option maxHeartbeats 2000000
namespace Go.Proofs.YtibahfopmjiffaaGreatDoor.Ru
open Go.RowKit Me
def WhQ:Prop:=∀ n:Int,0≤n→n≤9223372036854775807→∀ W,Calls Tryz.prog 40 #[.int .i64 n] W fun e w'=>e=.returned (.string ⟨(Lib.itoa n).toArray⟩)∧Below W.heap.size W w'
def SeD (u:World):Prop:=∀ nm lb la lc,La.chkD ⟨1,nm,[],lb⟩=0→LbV 0 u (.slice la lb.length lc) lb→∀ W,Below u.heap.size u W→Calls Tryz.prog 41 #[.string ⟨nm.toArray⟩,.slice la lb.length lc] W fun e w'=>e=.returned (.string ⟨(La.printT nm lb).toArray⟩)∧Below W.heap.size W w'
theorem wd_short (k:Int):(kwI k).2.length≤100:=by
  unfold kwI
  split
  · generalize k.toNat=i
    by_cases hi:i < 22
    · rcases i with _ | _ | _ | _ | _ | _ | _ | _ | _ | _ | _ | _ | _ | _ | _ | _ | _ | _ | _ | _ | _ | _ | i
      all_goals first | omega | decide
    · have:kwA i=(0,[]):=by unfold kwA;rw [List.getD,List.getElem?_eq_none (show kwT.length≤i by show 22≤i;omega)];rfl
      rw [this];decide
  · decide
theorem ok_hld {k:Int} {x:Nat} {nm:List UInt8} {lb:List La.Lb} {w n d:Int} {ar:List RT} (h:okN (.mk k x nm lb w n d ar)=0):hldB (shp k) x w n d ar.length=true:=by
  have h':ndE (shp k) x nm lb w n d ar.length=0:=h
  unfold ndE at h'
  cases hh:hldB (shp k) x w n d ar.length
  · rw [hh] at h'
    split at h'
    · exact absurd h' (by decide)
    · split at h'
      · exact absurd h' (by decide)
      · simp at h'
  · rfl
theorem ok_chk {k:Int} {x:Nat} {nm:List UInt8} {lb:List La.Lb} {w n d:Int} {ar:List RT} (h:okN (.mk k x nm lb w n d ar)=0) (hs:shp k=2∨shp k=3):La.chkD ⟨1,nm,[],lb⟩=0:=by
  have h':ndE (shp k) x nm lb w n d ar.length=0:=h
  unfold ndE at h'
  split at h'
  · exact absurd h' (by decide)
  · split at h'
    · exact absurd h' (by decide)
    · split at h'
      · exact absurd h' (by decide)
      · first
          | exact h'
          | (rw [if_pos hs] at h';exact h')
theorem win_le {w:Int} (h:winB w=true):0≤w∧w≤9223372036854775807:=by
  unfold winB at h
  simp only [Bool.and_eq_true,decide_eq_true_eq] at h
  omega
theorem shr_le {n d:Int} (h:shrB n d=true):0≤n∧n≤d∧0≤d:=by
  unfold shrB at h
  simp only [Bool.and_eq_true,decide_eq_true_eq] at h
  omega
theorem dtext_any (u:World) (hPr:RPr) (hWh:WhQ) (hSe:SeD u) (hI:∀ n:Int,0≤n→n≤9223372036854775807→(Lib.itoa n).length≤100) :
    ∀ (t:RT) (v:Value),RV 0 u t v→(∀ s ∈ nds t,okP s)→∀ c,v=.agg c→ChQ u c (wrT t):=by
  refine RT.ind ?_
  intro k x nm lb wi n d ar ih v hv hok c hc
  obtain ⟨h0,⟨hx,hds⟩,hw,hn,hd⟩:=hok _ (nds_self _)
  have hr:1≤k∧k≤21:=ok_range h0
  obtain ⟨-,l2,l1,l0⟩:=okN_len h0
  have hh:=ok_hld h0
  have hs:=shp_val k hr
  unfold RV at hv
  obtain ⟨lv,qa,ab,ao,qc,rfl,hl,haa,hac,hac2,hrs⟩:=hv
  obtain ⟨la,b1,o1,lc,rfl,-⟩:=id hl
  have hc':c=rc k x nm (.slice la lb.length lc) wi n d (.slice qa ar.length qc):=(Value.agg.inj hc).symm
  subst hc'
  intro bv T w hG hT
  have hkid:∀ i (hi:i < ar.length),∃ c:Array Value,IsRc c∧(∀ W,Below u.heap.size u W→∀ j (hj:j < c.size),W.cell? ⟨ab,ao+i*8+j,none⟩=some c[j])∧ChQ u c (wrT ar[i]):=fun i hi=>by
    obtain ⟨c,h1,h2,h3⟩:=hrs.at_ i hi
    refine ⟨c,?_,fun W hb j hj=>cellH' hb (h3 j hj),ih ar[i] (List.getElem_mem hi) (.agg c) h1 (fun s hs=>hok s (by
      unfold nds
      exact List.mem_cons_of_mem _ (ndsL_mem (List.getElem_mem hi) hs))) c rfl⟩
    obtain ⟨k',x',nm',la',ln',lc',w',n',d',aa',an',ac',e⟩:=h1.form
    exact ⟨k',x',nm',la',ln',lc',w',n',d',aa',an',ac',by cases e;rfl⟩
  have hwt:wrT (.mk k x nm lb wi n d ar)=if shp k=1 then Rl.pText x
    else if shp k=2∨shp k=3 then msT (kwI k) nm lb wi n d
    else if shp k=7 then (kwI k).2++[40]++(wrTs ar).getD 0 []++[41]
    else [40]++(wrTs ar).getD 0 []++([32]++(kwI k).2++[32])++(wrTs ar).getD 1 []++[41]:=by rw [wrT]
  rw [hwt] at hT ⊢
  clear hwt ih hok hrs
  by_cases c1:k=1
  · subst c1
    have e1:shp 1=1:=rfl
    rw [if_pos e1] at hT ⊢
    exact text_num u hPr x hx nm la lb.length lc wi n d qa ar.length qc bv T w hG (by omega)
  by_cases c21:k=21
  · subst c21
    have e7:shp 21=7:=rfl
    rw [if_neg (by decide),if_neg (by decide),if_pos e7] at hT ⊢
    have hlen:=l1 e7
    obtain ⟨a,rfl⟩:∃ a,ar=[a]:=by
      match ar,hlen with
      | [a],_=>exact ⟨a,rfl⟩
    obtain ⟨c,h1,h2,h3⟩:=hkid 0 (by simp)
    obtain ⟨rfl,-⟩:=haa (by simp)
    have eW:(kwI 21).2++[40]++(wrTs [a]).getD 0 []++[41]=[110,111,116,40]++wrT a++[41]:=by simp [wrTs,kwI,kwA,kwT]
    rw [eW] at hT ⊢
    simp only [List.length_append,List.length_cons,List.length_nil] at hT
    have q:=text_not u x nm la lb.length lc wi n d ab ao qc c h1 h2 (wrT a) h3 bv T w hG (by omega)
    refine q.mono ?_
    rintro e w' ⟨b',rfl,g⟩
    exact ⟨b',rfl,by rw [List.append_assoc,List.append_assoc] at g;rw [List.append_assoc [110,111,116,40]];exact g⟩
  have k1:(k == 1)=false:=beq_eq_false_iff_ne.2 c1
  have k21:(k == 21)=false:=beq_eq_false_iff_ne.2 c21
  by_cases c8:k≤8
  · have hSr:∀ W,Calls Tryz.prog 38 #[.int .i64 k] W fun e w'=>e=.returned (.bool true)∧w'=W:=fun W=>by
      have q:=dser_any k W
      rw [show dSer k=true by unfold dSer;rw [decide_eq_true (by omega),decide_eq_true (by omega)];rfl] at q
      exact q
    have hWd:=fun W=>dword_any k (by omega) W
    have h23:shp k=2∨shp k=3:=by
      rw [hs]
      repeat' split
      all_goals omega
    have hPn:=fun W (hb:Below u.heap.size u W)=>hSe nm lb la lc (ok_chk h0 h23) hl W hb
    by_cases e8:k=8
    · subst e8
      have e3:shp 8=3:=rfl
      rw [if_neg (by decide),if_pos (Or.inr e3)] at hT ⊢
      have hb:(winB wi && shrB n d)=true:=hh
      rw [Bool.and_eq_true] at hb
      obtain ⟨g1,g2⟩:=win_le hb.1
      obtain ⟨g3,g4,g5⟩:=shr_le hb.2
      have eW:msT (kwI 8) nm lb wi n d=((kwI 8).2++[40])++(Lib.itoa n++[47]++Lib.itoa d++[44,32])++La.printT nm lb++([44,32]++Lib.itoa wi++[41]):=by
        unfold msT
        rw [if_pos (show (kwI 8).1=3 from rfl)]
        simp only [List.append_assoc]
      rw [eW] at hT ⊢
      simp only [List.length_append,List.length_cons,List.length_nil] at hT
      have q:=text_qua u n d (kwI 8).2 (wd_short 8) hSr hWd (Lib.itoa n) (hI n (by omega) (by omega)) (hWh n (by omega) (by omega)) (Lib.itoa d) (hI d (by omega) (by omega)) (hWh d (by omega) (by omega)) x nm la lb.length lc wi qa ar.length qc (La.printT nm lb) hPn (Lib.itoa wi) (hI wi g1 g2) (hWh wi g1 g2) bv T w hG (by omega)
      refine q.mono ?_
      rintro e w' ⟨b',rfl,g⟩
      exact ⟨b',rfl,by simpa only [List.append_assoc] using g⟩
    · have e2:shp k=2:=by rw [hs,if_neg c1,if_pos (by omega)]
      rw [if_neg (by omega),if_pos (Or.inl e2)] at hT ⊢
      have hb:winB wi=true:=by rw [e2] at hh;exact hh
      obtain ⟨g1,g2⟩:=win_le hb
      have eW:msT (kwI k) nm lb wi n d=((kwI k).2++[40])++La.printT nm lb++([44,32]++Lib.itoa wi++[41]):=by
        unfold msT
        rw [if_neg (show ¬ (kwI k).1=3 from fun q=>by have:shp k=3:=q;omega)]
        simp only [List.append_assoc,List.nil_append]
      rw [eW] at hT ⊢
      simp only [List.length_append,List.length_cons,List.length_nil] at hT
      have q:=text_ser u k (beq_eq_false_iff_ne.2 e8) k1 k21 (kwI k).2 (wd_short k) hSr hWd x nm la lb.length lc wi n d qa ar.length qc (La.printT nm lb) hPn (Lib.itoa wi) (hI wi g1 g2) (hWh wi g1 g2) bv T w hG (by omega)
      refine q.mono ?_
      rintro e w' ⟨b',rfl,g⟩
      exact ⟨b',rfl,by simpa only [List.append_assoc] using g⟩
  · have e456:shp k=4∨shp k=5∨shp k=6:=by
      rw [hs]
      repeat' split
      all_goals omega
    rw [if_neg (by omega),if_neg (by omega),if_neg (by omega)] at hT ⊢
    have hlen:=l2 e456
    obtain ⟨a,b,rfl⟩:∃ a b,ar=[a,b]:=by
      match ar,hlen with
      | [a,b],_=>exact ⟨a,b,rfl⟩
    obtain ⟨c,h1,h2,h3⟩:=hkid 0 (by simp)
    obtain ⟨c',h1',h2',h3'⟩:=hkid 1 (by simp)
    obtain ⟨rfl,-⟩:=haa (by simp)
    have hSr:∀ W,Calls Tryz.prog 38 #[.int .i64 k] W fun e w'=>e=.returned (.bool false)∧w'=W:=fun W=>by
      have q:=dser_any k W
      rw [show dSer k=false by unfold dSer;rw [decide_eq_false (by omega:¬ k≤8),Bool.and_false]] at q
      exact q
    have eW:[40]++(wrTs [a,b]).getD 0 []++([32]++(kwI k).2++[32])++(wrTs [a,b]).getD 1 []++[41]=[40]++wrT a++([32]++(kwI k).2++[32])++wrT b++[41]:=by simp [wrTs]
    rw [eW] at hT ⊢
    simp only [List.length_append,List.length_cons,List.length_nil] at hT
    have q:=text_two u k k1 k21 (kwI k).2 (wd_short k) hSr (fun W=>dsign_any k (by omega) W) x nm la lb.length lc wi n d ab ao qc c h1 h2 (wrT a) h3 c' h1' h2' (wrT b) h3' bv T w hG (by omega)
    refine q.mono ?_
    rintro e w' ⟨b',rfl,g⟩
    exact ⟨b',rfl,by simpa only [List.append_assoc] using g⟩
end Go.Proofs.YtibahfopmjiffaaGreatDoor.Ru
/- RULES: THE DOCUMENT'S Check, Type OF ANY RULE. Own work of the verifier. -/
set_option maxRecDepth 100000
set_option maxHeartbeats 2000000
namespace Go.Proofs.YtibahfopmjiffaaGreatDoor.Ru
open Go.RowKit Me
theorem dcheckR_any (t:RT) (v:Value) (w:World) (hv:RV 0 w t v) (hz:∀ s ∈ nds t,szN s) :
    Calls Tryz.prog 12 #[v] w fun e w'=>e=.returned (.int .i64 (ckE t))∧Below w.heap.size w w':=by
  rw [← ck_eq]
  have HN:Hid (∀ W,Below w.heap.size w W→Calls Tryz.prog 25 #[v,.int .i64 512] W fun e w'=>e=.returned (.int .i64 (ndC (nds t).length 512))∧Below W.heap.size W w'):=fun W hb=>dnodes_any t v W 512 (hv.below hb) (by decide) (by decide)
  have HD:Hid (∀ W,Below w.heap.size w W→Calls Tryz.prog 26 #[v] W fun e w'=>e=.returned (.int .i64 (nodE t))∧Below W.heap.size W w'):=fun W hb=>dnode_any t v W (hv.below hb) hz
  have HT:Hid (∀ W,Below w.heap.size w W→Calls Tryz.prog 27 #[v] W fun e w'=>e=.returned (.bool (fitB t))∧Below W.heap.size W w'):=fun W hb=>dfits_any t v W (hv.below hb)
  have HZ:Hid (dckE t=if 512 < ndC (nds t).length 512 then 3 else if nodE t≠0 then nodE t else if fitB t=false then 17 else 0):=rfl
  obtain ⟨k,x,nm,la,ln,lc,wi,n,d,aa,an,ac,rfl⟩:=hv.form
  obtain ⟨W0,hW0⟩:∃ W0,W0=w.alloc (.cells (rc k x nm (.slice la ln lc) wi n d (.slice aa an ac)) 26):=⟨_,rfl⟩
  have hb0:Below w.heap.size w W0:=by rw [hW0];exact bel1 w _
  have hn0:W0.heap[w.heap.size]? =some (.cells (rc k x nm (.slice la ln lc) wi n d (.slice aa an ac)) 26):=by rw [hW0];exact new_1 w _
  have HB0:=hid_of hb0
  have HN0:=hid_of hn0
  have HW0:=hid_of hW0
  have sF:=store_f
  clear hv hz hb0 hn0 hW0
  generalize dckE t=Z at *
  generalize ndC (nds t).length 512=c at *
  generalize nodE t=z at *
  generalize fitB t=f at *
  go_enter Tryz.func12,Tryz.ntmps12
  go_upto_region 1 with fail
  rw [← HW0.out]
  clear HW0
  obtain ⟨y0,y1,y2,y3,y4,y5,y6,y7⟩:=eight HN0.out
  go_wp2_with fail
  refine Calls.mono (HN.out _ HB0.out) ?_
  rintro e w1 ⟨rfl,hb1⟩
  have HB1:=hid_of (bt HB0.out hb1)
  have HN1:Hid (w1.heap[w.heap.size]? =some (.cells (rc k x nm (.slice la ln lc) wi n d (.slice aa an ac)) 26)):=(hb1.block _ (Array.getElem?_eq_some_iff.1 HN0.out).1).trans HN0.out
  clear HN hb1 HB0 HN0 y0 y1 y2 y3 y4 y5 y6 y7
  obtain ⟨y0,y1,y2,y3,y4,y5,y6,y7⟩:=eight HN1.out
  by_cases hc:512 < c
  · have HE:=hid_of (HZ.out.trans (if_pos hc))
    clear HZ HD HT
    go_wp2_with fail
    go_ret
    exact ⟨congrArg (fun b:Int=>Ending.returned (.int .i64 b)) HE.out.symm,HB1.out⟩
  have HZ1:=hid_of (HZ.out.trans (if_neg hc))
  clear HZ
  go_wp2_with fail
  refine Calls.mono (HD.out _ HB1.out) ?_
  rintro e w2 ⟨rfl,hb2⟩
  have HB2:=hid_of (bt HB1.out hb2)
  have HN2:Hid (w2.heap[w.heap.size]? =some (.cells (rc k x nm (.slice la ln lc) wi n d (.slice aa an ac)) 26)):=(hb2.block _ (Array.getElem?_eq_some_iff.1 HN1.out).1).trans HN1.out
  clear HD hb2 HB1 HN1 y0 y1 y2 y3 y4 y5 y6 y7
  obtain ⟨y0,y1,y2,y3,y4,y5,y6,y7⟩:=eight HN2.out
  by_cases hz:z=0
  case neg =>
    have HE:=hid_of (HZ1.out.trans (if_pos hz))
    have hb1:(z != 0)=true:=by rw [bne_iff_ne];exact hz
    clear HZ1 hz HT
    go_wp2_with fail
    go_ret
    exact ⟨congrArg (fun b:Int=>Ending.returned (.int .i64 b)) HE.out.symm,HB2.out⟩
  subst hz
  have HZ2:=hid_of (HZ1.out.trans (if_neg (fun q=>q rfl)))
  clear HZ1
  go_wp2_with fail
  refine Calls.mono (HT.out _ HB2.out) ?_
  rintro e w3 ⟨rfl,hb3⟩
  have HB3:=hid_of (bt HB2.out hb3)
  clear HT hb3 HB2 HN2 y0 y1 y2 y3 y4 y5 y6 y7
  cases f
  · have HE:=hid_of (HZ2.out.trans (if_pos rfl))
    clear HZ2
    go_wp2_with fail
    go_ret
    exact ⟨congrArg (fun b:Int=>Ending.returned (.int .i64 b)) HE.out.symm,HB3.out⟩
  · have HE:=hid_of (HZ2.out.trans (if_neg (by decide)))
    clear HZ2
    go_wp2_with fail
    go_ret
    exact ⟨congrArg (fun b:Int=>Ending.returned (.int .i64 b)) HE.out.symm,HB3.out⟩
theorem dtypeR_any (t:RT) (v:Value) (w:World) (hv:RV 0 w t v) (hz:∀ s ∈ nds t,szN s) :
    Calls Tryz.prog 8 #[v] w fun e w'=>e=.returned (.tuple #[.bool (if ckE t=0 then trB (shp t.kd) else false),.int .i64 (ckE t)])∧Below w.heap.size w w':=by
  have HC:Hid (∀ W,Below w.heap.size w W→Calls Tryz.prog 12 #[v] W fun e w'=>e=.returned (.int .i64 (ckE t))∧Below W.heap.size W w'):=fun W hb=>dcheckR_any t v W (hv.below hb) hz
  have HT:Hid (∀ W,Calls Tryz.prog 20 #[.int .i64 t.kd] W fun e w'=>e=.returned (.bool (decide (13≤t.kd)))∧w'=W):=fun W=>dtruth_any _ W
  have HK:Hid (ckE t=0→decide (13≤t.kd)=trB (shp t.kd)):=fun h=>(tr_kd0 h).symm
  obtain ⟨k,x,nm,lb,wi,n,d,ar⟩:=t
  unfold RV at hv
  obtain ⟨lv,aa,ab,ao,ac,rfl,⟨la,b1,o1,lc,rfl,-⟩,-⟩:=hv
  obtain ⟨W0,hW0⟩:∃ W0,W0=w.alloc (.cells (rc k x nm (.slice la lb.length lc) wi n d (.slice aa ar.length ac)) 26):=⟨_,rfl⟩
  have hb0:Below w.heap.size w W0:=by rw [hW0];exact bel1 w _
  have hn0:W0.heap[w.heap.size]? =some (.cells (rc k x nm (.slice la lb.length lc) wi n d (.slice aa ar.length ac)) 26):=by rw [hW0];exact new_1 w _
  have HB0:=hid_of hb0
  have HN0:=hid_of hn0
  have HW0:=hid_of hW0
  have sF:=store_f
  clear hz hb0 hn0 hW0
  change Hid (ckE _=0→decide (13≤k)=trB (shp k)) at HK
  change Hid (∀ W,Calls Tryz.prog 20 #[.int .i64 k] W fun e w'=>e=.returned (.bool (decide (13≤k)))∧w'=W) at HT
  show Calls _ _ _ _ fun e w'=>e=.returned (.tuple #[.bool (if ckE _=0 then trB (shp k) else false),.int .i64 (ckE _)])∧_
  generalize ckE (.mk k x nm lb wi n d ar)=z at *
  generalize decide (13≤k)=tb at *
  generalize trB (shp k)=sb at *
  obtain ⟨zb,hzb⟩:∃ zb:Bool,zb=(if z=0 then sb else false):=⟨_,rfl⟩
  rw [← hzb]
  have HZb:=hid_of hzb
  clear hzb
  go_enter Tryz.func8,Tryz.ntmps8
  go_upto_region 1 with fail
  rw [← HW0.out]
  clear HW0
  obtain ⟨y0,y1,y2,y3,y4,y5,y6,y7⟩:=eight HN0.out
  go_wp2_with fail
  refine Calls.mono (HC.out _ HB0.out) ?_
  rintro e w1 ⟨rfl,hb1⟩
  have HB1:=hid_of (bt HB0.out hb1)
  have HN1:Hid (w1.heap[w.heap.size]? =some (.cells (rc k x nm (.slice la lb.length lc) wi n d (.slice aa ar.length ac)) 26)):=(hb1.block _ (Array.getElem?_eq_some_iff.1 HN0.out).1).trans HN0.out
  clear HC hb1 HB0 HN0 y0 y1 y2 y3 y4 y5 y6 y7
  obtain ⟨y0,y1,y2,y3,y4,y5,y6,y7⟩:=eight HN1.out
  by_cases hz:z=0
  · subst hz
    obtain rfl:=HK.out rfl
    clear HK
    go_wp2_with fail
    refine Calls.mono (HT.out _) ?_
    rintro e w2 ⟨rfl,rfl⟩
    clear HT
    go_wp2_with fail
    go_ret2
    refine ⟨?_,HB1.out⟩
    show Ending.returned (.tuple #[.bool tb,.int .i64 0])=Ending.returned (.tuple #[.bool zb,.int .i64 0])
    rw [HZb.out,if_pos (by first | rfl | trivial)]
  · have hb1:(z != 0)=true:=by rw [bne_iff_ne];exact hz
    have HZ2:=hid_of (HZb.out.trans (if_neg hz))
    clear hz HK HT HZb
    go_wp2_with fail
    go_ret2
    refine ⟨?_,HB1.out⟩
    show Ending.returned (.tuple #[.bool false,.int .i64 z])=Ending.returned (.tuple #[.bool zb,.int .i64 z])
    rw [HZ2.out]
end Go.Proofs.YtibahfopmjiffaaGreatDoor.Ru
/- RULES: THE DOCUMENT'S Print OF ANY RULE. Own work of the verifier. -/
set_option maxRecDepth 100000
set_option maxHeartbeats 2000000
namespace Go.Proofs.YtibahfopmjiffaaGreatDoor.Ru
open Go.RowKit Me
theorem gr_nil (W:World):(convert 54 9 (.slice none 0 0)).run Tryz.prog W=.ok (.string ⟨#[]⟩) W:=by
  simp [convert,go_sem]
  first | rfl | (simp [Conv.bytesToString,go_sem];done) | (unfold Conv.bytesToString;simp [go_sem];rfl)
theorem gr_conv {u w W:World} {ao:Option Addr} {cap:Nat} {T:List UInt8} (h:Gr u w (.slice ao T.length cap) T W):(convert 54 9 (.slice ao T.length cap)).run Tryz.prog W=.ok (.string ⟨T.toArray⟩) W:=by
  have hown:=h.own
  rcases h.own.2 with ⟨k,k2⟩ | ⟨g,cap',cur,k,_⟩
  · obtain ⟨rfl,e,rfl⟩:ao=none∧T.length=0∧cap=0:=by simpa using k
    obtain rfl:T=[]:=List.length_eq_zero_iff.1 e
    exact gr_nil W
  · obtain ⟨rfl,rfl⟩:ao=some ⟨g,0,none⟩∧cap=cap':=by simpa using k
    exact run_convert_bytes_back W 54 9 5 ⟨g,0,none⟩ cap T Tryz.underlying54 Tryz.underlying5 Tryz.underlying9 (fun i hi'=>by
      exact hown.cells (g:=g) rfl i _ (by simp [Lib.byteCells,hi']))
theorem gr_new (w W:World) (hb:Below w.heap.size w W):Gr w (W.alloc (.cells #[] 5)) (.slice (some ⟨W.heap.size,0,none⟩) 0 0) [] (W.alloc (.cells #[] 5)) :=
  ⟨⟨rfl,Or.inr ⟨W.heap.size,0,#[],rfl,hb.size,new_1 W _,Nat.le_refl _,by decide,rfl,rfl⟩⟩,bt hb (bel1 _ _),Lib.OthersKept.refl _ _ _⟩
def PnD (t:RT) (e:Ending):Prop :=
  (ckE t≠0∧e=.returned (.tuple #[.string ⟨#[]⟩,.int .i64 (ckE t)])) ∨
  (ckE t=0∧65536 < (wrT t).length∧e=.returned (.tuple #[.string ⟨#[]⟩,.int .i64 4])) ∨
  (ckE t=0∧(wrT t).length≤65536∧e=.returned (.tuple #[.string ⟨(wrT t).toArray⟩,.int .i64 0]))
theorem ck_nodes {t:RT} (h:ckE t=0):∀ s ∈ nds t,okN s=0:=by
  have hk:chkE t=0:=by
    unfold ckE at h
    by_cases q:chkE t=0
    · exact q
    · rw [if_pos q] at h;exact h
  exact chkE_zero hk
theorem dprintR_any (hPr:RPr) (hWh:WhQ) (hI:∀ n:Int,0≤n→n≤9223372036854775807→(Lib.itoa n).length≤100) (t:RT) (v:Value) (w:World) (hSe:SeD w) (hv:RV 0 w t v) (hz:∀ s ∈ nds t,szN s∧szI s) (hT:ckE t=0→1000*(wrT t).length≤140737488355000) :
    Calls Tryz.prog 10 #[v] w fun e w'=>PnD t e∧Below w.heap.size w w':=by
  have HC:Hid (∀ W,Below w.heap.size w W→Calls Tryz.prog 12 #[v] W fun e w'=>e=.returned (.int .i64 (ckE t))∧Below W.heap.size W w'):=fun W hb=>dcheckR_any t v W (hv.below hb) (fun s hs=>(hz s hs).1)
  have HTx:Hid (ckE t=0→∀ bv W,Gr w W bv [] W→Calls Tryz.prog 24 #[bv,v] W fun e w'=>∃ bv',e=.returned bv'∧Gr w W bv' (wrT t) w'):=fun h0 bv W hG=>by
    obtain ⟨k,x,nm,la,ln,lc,wi,n,d,aa,an,ac,rfl⟩:=hv.form
    have q:=dtext_any w hPr hWh hSe hI t _ hv (fun s hs=>⟨ck_nodes h0 s hs,hz s hs⟩) _ rfl bv [] W hG (by have:=hT h0;simp;omega)
    rw [List.nil_append] at q
    exact q
  obtain ⟨k,x,nm,la,ln,lc,wi,n,d,aa,an,ac,rfl⟩:=hv.form
  obtain ⟨Q,hQ⟩:∃ Q,Q=PnD t:=⟨_,rfl⟩
  rw [← hQ]
  have HQ1:Hid (ckE t≠0→Q (.returned (.tuple #[.string ⟨#[]⟩,.int .i64 (ckE t)]))):=fun h=>by rw [hQ];exact Or.inl ⟨h,rfl⟩
  have HQ2:Hid (ckE t=0→65536 < (wrT t).length→Q (.returned (.tuple #[.string ⟨#[]⟩,.int .i64 4]))):=fun h h2=>by rw [hQ];exact Or.inr (Or.inl ⟨h,h2,rfl⟩)
  have HQ3:Hid (ckE t=0→(wrT t).length≤65536→Q (.returned (.tuple #[.string ⟨(wrT t).toArray⟩,.int .i64 0]))):=fun h h2=>by rw [hQ];exact Or.inr (Or.inr ⟨h,h2,rfl⟩)
  obtain ⟨W0,hW0⟩:∃ W0,W0=w.alloc (.cells (rc k x nm (.slice la ln lc) wi n d (.slice aa an ac)) 26):=⟨_,rfl⟩
  have hb0:Below w.heap.size w W0:=by rw [hW0];exact bel1 w _
  have hn0:W0.heap[w.heap.size]? =some (.cells (rc k x nm (.slice la ln lc) wi n d (.slice aa an ac)) 26):=by rw [hW0];exact new_1 w _
  have HB0:=hid_of hb0
  have HN0:=hid_of hn0
  have HW0:=hid_of hW0
  have sF:=store_f
  clear hv hz hT hPr hWh hSe hI hb0 hn0 hW0 hQ
  generalize ckE t=z at *
  generalize wrT t=L at *
  go_enter Tryz.func10,Tryz.ntmps10
  go_upto_region 1 with fail
  rw [← HW0.out]
  clear HW0
  obtain ⟨y0,y1,y2,y3,y4,y5,y6,y7⟩:=eight HN0.out
  go_wp2_with fail
  refine Calls.mono (HC.out _ HB0.out) ?_
  rintro e w1 ⟨rfl,hb1⟩
  have HB1:=hid_of (bt HB0.out hb1)
  have HN1:Hid (w1.heap[w.heap.size]? =some (.cells (rc k x nm (.slice la ln lc) wi n d (.slice aa an ac)) 26)):=(hb1.block _ (Array.getElem?_eq_some_iff.1 HN0.out).1).trans HN0.out
  clear HC hb1 HB0 HN0 y0 y1 y2 y3 y4 y5 y6 y7
  by_cases hz:z=0
  case neg =>
    have hb1:(z != 0)=true:=by rw [bne_iff_ne];exact hz
    have HE:=hid_of (HQ1.out hz)
    clear HQ1 HQ2 HQ3 hz HTx HN1
    go_wp2_with fail
    go_ret2
    exact ⟨HE.out,HB1.out⟩
  subst hz
  have HG0:=hid_of (gr_new w w1 HB1.out)
  have hbn:=bel1 w1 (.cells #[] 5)
  obtain ⟨y0,y1,y2,y3,y4,y5,y6,y7⟩:=eight ((hbn.block _ (Array.getElem?_eq_some_iff.1 HN1.out).1).trans HN1.out)
  clear HQ1 HN1 hbn
  go_wp2_with fail
  refine Calls.mono (HTx.out (by first | rfl | trivial) _ _ HG0.out) ?_
  rintro e w2 ⟨v2,rfl,hg⟩
  obtain ⟨b2,q2,rfl⟩:=hg.form
  have HG:=hid_of hg
  have hcv:=gr_conv hg
  clear hg HTx HG0 y0 y1 y2 y3 y4 y5 y6 y7
  by_cases hl:65536 < L.length
  · have hl':(65536:Int) < (L.length:Int):=by omega
    have HE:=hid_of (HQ2.out (by first | rfl | trivial) hl)
    clear HQ2 HQ3 hl hcv
    go_wp2_with fail
    go_ret2
    exact ⟨HE.out,HG.out.st⟩
  · have hl':¬ (65536:Int) < (L.length:Int):=by omega
    have HE:=hid_of (HQ3.out (by first | rfl | trivial) (by omega))
    clear HQ2 HQ3 hl
    go_wp2_with fail
    go_ret2
    exact ⟨HE.out,HG.out.st⟩
end Go.Proofs.YtibahfopmjiffaaGreatDoor.Ru
/- RULES: Print; Eval of a number. Own work of the verifier. -/
set_option maxRecDepth 100000
set_option maxHeartbeats 2000000
namespace Go.Proofs.YtibahfopmjiffaaGreatDoor.Ru
open Go.RowKit Go.Sort Me
theorem own_len {W:World} {B n:Nat} {v:Value} {xs:List Value} (h:W.ownsRowF B 5 1 v n xs):∃ ao cap,v=.slice ao n cap:=by
  obtain ⟨-,h⟩:=h
  rcases h with ⟨rfl,rfl⟩ | ⟨g,cap,cur,fz,rfl,-⟩
  · exact ⟨_,_,rfl⟩
  · exact ⟨_,_,rfl⟩
theorem bs_buf {B k:Nat} {w0 W:World} {l:List UInt8} (h:La.BS B k w0 l W):∃ ao cap,W.cell? ⟨k,1,none⟩=some (.slice ao l.length cap):=by
  have key:∀ p,Lib.BuilderAtF 56 5 B k p (Lib.byteCells l) W→∃ ao cap,W.cell? ⟨k,1,none⟩=some (.slice ao l.length cap):=fun p h=>by
    obtain ⟨-,v,hv,hown,-⟩:=h
    rw [Lib.byteCells_length] at hown
    obtain ⟨ao,cap,rfl⟩:=own_len hown
    exact ⟨ao,cap,by simp [World.cell?,hv]⟩
  exact h.ib.elim (key _) (key _)
theorem blen_any {B k:Nat} {w0 W:World} {l:List UInt8} (h:La.BS B k w0 l W) :
    Calls Tryz.prog 22 #[.pointer (some ⟨k,0,none⟩)] W fun e w'=>e=.returned (.int .i64 (l.length:Int))∧w'=W:=by
  obtain ⟨ao,cap,hc⟩:=bs_buf h
  clear h
  go_enter Tryz.func22,Tryz.ntmps22
  go_wp2_with fail
  go_ret
  exact ⟨rfl,rfl⟩
def PnQ (t:RT) (e:Ending):Prop :=
  (ckE t≠0∧e=.returned (.tuple #[.string ⟨#[]⟩,.int .i64 (ckE t)])) ∨
  (ckE t=0∧65536 < (wrT t).length∧e=.returned (.tuple #[.string ⟨#[]⟩,.int .i64 4])) ∨
  (ckE t=0∧(wrT t).length≤65536∧e=.returned (.tuple #[.string ⟨(wrT t).toArray⟩,.int .i64 0]))
theorem rprint_any (t:RT) (v:Value) (w:World) (hv:RV 0 w t v) (hz:∀ s ∈ nds t,szN s∧szI s) (hT:ckE t=0→(wrT t).length≤140737488355328) (he:Env w) :
    Calls Tryz.prog 9 #[v] w fun e w'=>PnQ t e∧Below w.heap.size w w':=by
  have HC:Hid (∀ W,Below w.heap.size w W→Calls Tryz.prog 11 #[v] W fun e w'=>e=.returned (.int .i64 (ckE t))∧Below W.heap.size W w'):=fun W hb=>check_any t v W (hv.below hb) (fun s hs=>(hz s hs).1) (he.kd.below hb)
  have HWr:Hid (ckE t=0→∀ W,Below w.heap.size w W→Calls Tryz.prog 21 #[.pointer (some ⟨W.heap.size,0,none⟩),v] (W.alloc (.cells #[.pointer none,.slice none 0 0] 56)) fun e w'=>e=.returned (.tuple #[])∧La.BS W.heap.size W.heap.size W (wrT t) w'):=fun h0 W hb=>by
    have hc:chkE t=0:=by
      unfold ckE at h0
      by_cases q:chkE t≠0
      · rw [if_pos q] at h0;exact absurd h0 q
      · exact Classical.not_not.1 q
    have:=write_any W (he.below hb) W.heap.size t v W (W.alloc (.cells #[.pointer none,.slice none 0 0] 56)) [] (hv.below hb) (fun s hs=>⟨chkE_zero hc s hs,(hz s hs).1,(hz s hs).2⟩) (bel1 _ _) (La.BS.new W) (by simpa using hT h0)
    simpa using this
  obtain ⟨k,x,nm,la,ln,lc,wi,n,d,aa,an,ac,rfl⟩:=hv.form
  have HQ1:Hid (ckE t≠0→PnQ t (.returned (.tuple #[.string ⟨#[]⟩,.int .i64 (ckE t)]))):=fun h=>Or.inl ⟨h,rfl⟩
  have HQ2:Hid (ckE t=0→65536 < (wrT t).length→PnQ t (.returned (.tuple #[.string ⟨#[]⟩,.int .i64 4]))):=fun h g=>Or.inr (Or.inl ⟨h,g,rfl⟩)
  have HQ3:Hid (ckE t=0→(wrT t).length≤65536→PnQ t (.returned (.tuple #[.string ⟨(wrT t).toArray⟩,.int .i64 0]))):=fun h g=>Or.inr (Or.inr ⟨h,g,rfl⟩)
  clear hv hz he hT
  generalize wrT t=T at *
  generalize ckE t=z at *
  generalize PnQ t=Q at *
  go_enter Tryz.func9,Tryz.ntmps9
  have hb0:=bel1 w (.cells (rc k x nm (.slice la ln lc) wi n d (.slice aa an ac)) 26)
  have hn0:=new_1 w (.cells (rc k x nm (.slice la ln lc) wi n d (.slice aa an ac)) 26)
  go_wp2_with fail
  refine Calls.mono (HC.out _ hb0) ?_
  rintro e w1 ⟨rfl,hb1⟩
  have hn1:=(hb1.block w.heap.size (by simp)).trans hn0
  have HB1:=hid_of (bt hb0 hb1)
  obtain ⟨y0,y1,y2,y3,y4,y5,y6,y7⟩:=eight hn1
  clear hb0 hn0 hb1 HC
  by_cases hz:z=0
  · have HWr0:=hid_of (HWr.out hz w1 HB1.out)
    have HQ2':=hid_of (HQ2.out hz)
    have HQ3':=hid_of (HQ3.out hz)
    subst hz
    clear HWr HQ1 HQ2 HQ3
    have hn2:=((bel1 w1 (.cells #[.pointer none,.slice none 0 0] 56)).block w.heap.size (Array.getElem?_eq_some_iff.1 hn1).1).trans hn1
    clear y0 y1 y2 y3 y4 y5 y6 y7 hn1
    obtain ⟨y0,y1,y2,y3,y4,y5,y6,y7⟩:=eight hn2
    clear hn2
    go_wp2_with fail
    refine Calls.mono HWr0.out ?_
    rintro e w2 ⟨rfl,hs2⟩
    have HS2:=hid_of hs2
    have D:La.HidC _ _ _ _ _:=blen_any hs2
    have HB2:Hid (Below w.heap.size w w2):=HB1.out.trans (hs2.bl.mono (by have:=HB1.out.size;omega))
    clear HWr0 hs2 y0 y1 y2 y3 y4 y5 y6 y7
    go_wp2_with fail
    refine Calls.mono D.out ?_
    rintro e w3 ⟨rfl,rfl⟩
    by_cases hl:T.length≤65536
    · have hl':¬ (65536:Int) < (T.length:Int):=by omega
      have D2:La.HidC _ _ _ _ _:=La.bstr_any HS2.out
      have HE:=hid_of (HQ3'.out hl)
      have HSz:=hid_of HS2.out.sz
      have HB1':=hid_of HB1.out.size
      clear D HQ2' HQ3' hl HS2
      go_wp2_with fail
      refine Calls.mono D2.out ?_
      rintro e w4 ⟨rfl,hs4⟩
      have HB4:Hid (Below w.heap.size w w4):=HB1.out.trans (hs4.bl.mono HB1'.out)
      clear D2 hs4
      go_wp2_with fail
      go_ret2
      exact ⟨HE.out,HB4.out⟩
    · have hl':(65536:Int) < (T.length:Int):=by omega
      have HE:=hid_of (HQ2'.out (by omega))
      clear D HQ2' HQ3' hl HS2
      go_wp2_with fail
      go_ret2
      exact ⟨HE.out,HB2.out⟩
  · have hz':(z == 0)=false:=beq_eq_false_iff_ne.2 hz
    have HN0:=hid_of (HQ1.out hz)
    clear HWr HQ1 HQ2 HQ3
    go_wp2_with fail
    go_ret2
    exact ⟨HN0.out,HB1.out⟩
def put3 (W:World) (g:Nat) (a0 a1 a2:Value):World:=((W.setCell ⟨g,0,none⟩ a0).setCell ⟨g,1,none⟩ a1).setCell ⟨g,2,none⟩ a2
theorem put3_heap {W:World} {g:Nat} {z0 z1 z2:Value} {t:TypeId} (h:W.heap[g]? =some (.cells #[z0,z1,z2] t)) (a0 a1 a2:Value):(put3 W g a0 a1 a2).heap[g]? =some (.cells #[a0,a1,a2] t):=by
  have h0:=Lib.heap_setCell_same (i:=0) h a0
  have h1:=Lib.heap_setCell_same (i:=1) h0 a1
  have h2:=Lib.heap_setCell_same (i:=2) h1 a2
  unfold put3
  rw [h2]
  simp
theorem put3_bel {w W:World} {g:Nat} (h:Below w.heap.size w W) (hg:w.heap.size≤g) (a0 a1 a2:Value):Below w.heap.size w (put3 W g a0 a1 a2) :=
  ((h.setCell (p:=⟨g,0,none⟩) hg _).setCell (p:=⟨g,1,none⟩) hg _).setCell (p:=⟨g,2,none⟩) hg _
theorem three {W:World} {g:Nat} {x y z:Value} {t:TypeId} (h:W.heap[g]? =some (.cells #[x,y,z] t)):(W.cell? ⟨g,0,none⟩=some x∧W.cell? ⟨g,1,none⟩=some y∧W.cell? ⟨g,2,none⟩=some z)∧∀ i,W.frozen? ⟨g,i,none⟩=false:=by
  refine ⟨⟨?_,?_,?_⟩,fun i=>?_⟩ <;> simp [World.cell?,World.frozen?,h]
theorem results_ct {P:Program} {fn:Func} {p a:Tmp} {ty:TypeId} (h:fn.results=#[.cell p ty,.tmp a]) (tmps:Array Value) (w:World) (g:Nat) (t:TypeId) (cs:Array Value) (fr:Nat × Nat) (d:TypeDesc)
    (hp:tmps.getD p undef=.pointer (some ⟨g,0,none⟩)) (hg:w.heap[g]? =some (.cells cs t fr))
    (hu:P.underlying ty=some d) (hd:(match d with | .struct _ | .array _ _=>true | _=>false)=true) (hi:(P.info? ty).map (·.size)=some cs.size) :
    (results fn tmps).run P w=.ok (.tuple #[.agg cs,tmps.getD a undef]) w:=by
  have hp':tmps[p]?.getD undef=.pointer (some ⟨g,0,none⟩):=by simpa using hp
  simp [results,h,hp',asAddr,run_loadVar_row w g t ty cs fr d hg hu hd hi,Result.andThen]
theorem num_any (x:Nat) (W:World):Calls Tryz.prog 282 #[.float .f64 x] W fun e w'=>e=.returned (.agg #[.bool false,.bool false,.float .f64 x])∧Below W.heap.size W w':=by
  have sF:=store_f
  go_enter Tryz.func282,Tryz.ntmps282
  go_wp2_with fail
  refine bodyPost_ret (results_cell_row (P:=Tryz.prog) rfl _ _ W.heap.size 43 _ (0,0) _ rfl (new_1 W _) Tryz.underlying43 rfl (by kernel_rfl)) rfl ?_
  exact ⟨rfl,bel1 _ _⟩
theorem work_const (x:Nat) (p:Option Addr) (z:Int) (w:World):Calls Tryz.prog 281 #[.float .f64 x,.agg #[.pointer p,.int .i64 z]] w fun e w'=>e=.returned (.tuple #[.agg #[.bool false,.bool false,.float .f64 x],.int .i64 0])∧Below w.heap.size w w':=by
  have sF:=store_f
  have HN:Hid (∀ W:World,Calls Tryz.prog 282 #[.float .f64 x] W fun e w'=>e=.returned (.agg #[.bool false,.bool false,.float .f64 x])∧Below W.heap.size W w'):=fun W=>num_any x W
  obtain ⟨W0,hW0⟩:∃ W0,W0=(w.alloc (.cells #[.pointer p,.int .i64 z] 72)).alloc (.cells #[.bool false,.bool false,.float .f64 0] 43):=⟨_,rfl⟩
  have hb0:Below w.heap.size w W0:=by rw [hW0];exact La.bel2 w _ _
  have hn0:W0.heap[w.heap.size+1]? =some (.cells #[.bool false,.bool false,.float .f64 0] 43):=by
    rw [hW0]
    have:=new_1 (w.alloc (.cells #[.pointer p,.int .i64 z] 72)) (.cells #[.bool false,.bool false,.float .f64 0] 43)
    simpa using this
  have HW0:=hid_of hW0
  clear hW0
  go_enter Tryz.func281,Tryz.ntmps281
  go_upto_region 1 with fail
  rw [← HW0.out]
  go_wp2_with fail
  refine Calls.mono (HN.out W0) ?_
  rintro e w1 ⟨rfl,hb1⟩
  have hn1:=(hb1.block _ (Array.getElem?_eq_some_iff.1 hn0).1).trans hn0
  have hb:=bt hb0 hb1
  obtain ⟨⟨z0,z1,z2⟩,zf⟩:=three hn1
  obtain ⟨W9,hW9⟩:∃ W9,W9=put3 w1 (w.heap.size+1) (.bool false) (.bool false) (.float .f64 x):=⟨_,rfl⟩
  have HW9:=hid_of hW9
  have HH:Hid (W9.heap[w.heap.size+1]? =some (.cells #[.bool false,.bool false,.float .f64 x] 43)):=by show _=_;rw [hW9];exact put3_heap hn1 _ _ _
  have HB:Hid (Below w.heap.size w W9):=by show Below _ _ _;rw [hW9];exact put3_bel hb (by omega) _ _ _
  clear hW9 hn1 hb hn0 hb0 hb1 HN HW0
  go_wp2_with fail
  obtain rfl:=HW9.out
  refine bodyPost_ret (results_ct rfl _ _ (w.heap.size+1) 43 _ (0,0) _ rfl HH.out Tryz.underlying43 rfl (by kernel_rfl)) rfl ?_
  exact ⟨rfl,HB.out⟩
abbrev numR (x:Nat):RT:=.mk 1 x [] [] 0 0 0 []
theorem ck_num:ckE (numR 4611686018427387904)=0:=by decide +kernel
theorem eval_two (r:Value) (hr:∃ p,r=.pointer p) (w:World) (h:Kd w) :
    Calls Tryz.prog 16 #[r,.int .i64 0,rx 1 4611686018427387904 [] (.slice none 0 0) 0 0 0 (.slice none 0 0)] w fun e w'=>e=.returned (.tuple #[.agg #[.bool false,.bool false,.float .f64 4611686018427387904],.int .i64 0])∧Below w.heap.size w w':=by
  obtain ⟨p,rfl⟩:=hr
  have sF:=store_f
  have HM:Hid (∀ W,Below w.heap.size w W→Calls Tryz.prog 18 #[rx 1 4611686018427387904 [] (.slice none 0 0) 0 0 0 (.slice none 0 0)] W fun e w'=>e=.returned (.tuple #[.iface 105 (.float .f64 4611686018427387904),.int .i64 0])∧Below W.heap.size W w'):=fun W hb=>(made_any (numR 4611686018427387904) _ W (RV.num 0 W _) (fun s hs=>by
      have:s=numR 4611686018427387904:=by simpa [nds,ndsL] using hs
      subst this
      exact ⟨by decide,by decide,by decide,fun a ha=>by cases ha⟩) (h.below hb)).mono (by
    rintro e w1 ⟨⟨hk,q,h1,h2⟩ | ⟨hk,h1⟩,hb1⟩
    · obtain rfl:=h2 (by decide)
      exact ⟨h1,hb1⟩
    · exact absurd ck_num hk)
  have HWk:Hid (∀ W,Calls Tryz.prog 281 #[.float .f64 4611686018427387904,.agg #[.pointer p,.int .i64 0]] W fun e w'=>e=.returned (.tuple #[.agg #[.bool false,.bool false,.float .f64 4611686018427387904],.int .i64 0])∧Below W.heap.size W w'):=fun W=>work_const _ p 0 W
  obtain ⟨W0,hW0⟩:∃ W0,W0=(w.alloc (.cells (rc 1 4611686018427387904 [] (.slice none 0 0) 0 0 0 (.slice none 0 0)) 26)).alloc (.cells #[.bool false,.bool false,.float .f64 0] 43):=⟨_,rfl⟩
  have hb0:Below w.heap.size w W0:=by rw [hW0];exact La.bel2 w _ _
  have hn0:W0.heap[w.heap.size+1]? =some (.cells #[.bool false,.bool false,.float .f64 0] 43):=by
    rw [hW0]
    have:=new_1 (w.alloc (.cells (rc 1 4611686018427387904 [] (.slice none 0 0) 0 0 0 (.slice none 0 0)) 26)) (.cells #[.bool false,.bool false,.float .f64 0] 43)
    simpa using this
  have hr0:W0.heap[w.heap.size]? =some (.cells (rc 1 4611686018427387904 [] (.slice none 0 0) 0 0 0 (.slice none 0 0)) 26):=by
    rw [hW0]
    exact ((bel1 _ _).block _ (by simp)).trans (new_1 w _)
  obtain ⟨y0,y1,y2,y3,y4,y5,y6,y7⟩:=eight hr0
  have HW0:=hid_of hW0
  clear hW0 h hr0
  go_enter Tryz.func16,Tryz.ntmps16
  go_upto_region 1 with fail
  rw [← HW0.out]
  go_wp2_with fail
  refine Calls.mono (HM.out W0 hb0) ?_
  rintro e w1 ⟨rfl,hb1⟩
  have hn1:=(hb1.block _ (Array.getElem?_eq_some_iff.1 hn0).1).trans hn0
  have hb:=bt hb0 hb1
  have HN1:=hid_of hn1
  have HB1:=hid_of hb
  clear HM hn0 hb0 hb1 hn1 hb HW0 y0 y1 y2 y3 y4 y5 y6 y7
  go_wp2_with fail
  refine Calls.mono (HWk.out _) ?_
  rintro e w2 ⟨rfl,hb2⟩
  have hn2:=(hb2.block _ (Array.getElem?_eq_some_iff.1 HN1.out).1).trans HN1.out
  have hb:=bt HB1.out hb2
  obtain ⟨⟨z0,z1,z2⟩,zf⟩:=three hn2
  obtain ⟨W9,hW9⟩:∃ W9,W9=put3 w2 (w.heap.size+1) (.bool false) (.bool false) (.float .f64 4611686018427387904):=⟨_,rfl⟩
  have HW9:=hid_of hW9
  have HH:Hid (W9.heap[w.heap.size+1]? =some (.cells #[.bool false,.bool false,.float .f64 4611686018427387904] 43)):=by show _=_;rw [hW9];exact put3_heap hn2 _ _ _
  have HB:Hid (Below w.heap.size w W9):=by show Below _ _ _;rw [hW9];exact put3_bel hb (by omega) _ _ _
  clear hW9 hn2 hb hb2 HN1 HB1 HWk
  go_wp2_with fail
  obtain rfl:=HW9.out
  refine bodyPost_ret (results_ct rfl _ _ (w.heap.size+1) 43 _ (0,0) _ rfl HH.out Tryz.underlying43 rfl (by kernel_rfl)) rfl ?_
  exact ⟨rfl,HB.out⟩
end Go.Proofs.YtibahfopmjiffaaGreatDoor.Ru
