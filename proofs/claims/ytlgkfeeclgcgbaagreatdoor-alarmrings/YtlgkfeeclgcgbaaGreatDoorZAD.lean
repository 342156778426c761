/- Merge, the code's: its parts. Own work of the verifier. -/
import Derived.Test.YtlgkfeeclgcgbaaGreatDoorZAB
import Derived.Test.YtlgkfeeclgcgbaaGreatDoorShelf
import Derived.Test.YtlgkfeeclgcgbaaGreatDoorShelf2
import Derived.Lib.AppendZerosOnto
import Derived.Lib.SliceRun
import Derived.Test.YtlgkfeeclgcgbaaGreatDoorZAC
set_option maxRecDepth 10000
set_option maxHeartbeats 2000000
namespace Go.Proofs.YtlgkfeeclgcgbaaGreatDoor
open Go.RowKit Go.Shelf Go.Lib Go.Sort
theorem new_1 (w:World) (o:Obj):(w.alloc o).heap[w.heap.size]? =some o:=by
 show (w.heap.push _)[w.heap.size]? =_
 simp
theorem bt' {B:Nat} {w A C:World} (h:Below B w A) (k:Below B A C):Below B w C:=h.trans k
structure RunIs (L:List Cn) (k:Nat):Prop where
 pos:1≤k
 le:k≤L.length
 same:∀ t (h:t < L.length),t < k→L[t].1=(L.getD 0 (0,0)).1
 stop:∀ h:k < L.length,L[k].1≠(L.getD 0 (0,0)).1
theorem run_any (b o cap:Nat) (L:List Cn) (hne:L≠[]) (hl:L.length≤4194304) (w:World) (hR:RowC w b o L) :
  Calls Tryz.prog 324 #[.slice (some ⟨b,o,none⟩) L.length cap] w fun e w'=>∃ k:Nat,e=.returned (.int .i64 (k:Int))∧RunIs L k∧Below w.heap.size w w':=by
 have h0:0 < L.length:=List.length_pos_iff.2 hne
 have h0':(0:Int) < (L.length:Int):=by omega
 have HR:Hid (RowC w b o L):=hR
 have hg0:L.getD 0 (0,0)=L[0]:=by simp [List.getD,h0]
 have HX:Hid (∀ t (h:t < L.length),L[t].1=(L.getD 0 (0,0)).1 ↔ L[t].1=(L.getD 0 (0,0)).1):=fun t h=>Iff.rfl
 have HC0:Hid (∀ W,Below w.heap.size w W→W.cell? ⟨b,o,none⟩=some (.int .i64 (L.getD 0 (0,0)).1)):=fun W hb=>by
  have:=((HR.out.below hb (fun k=>HR.out.lt k)) 0 h0).1
  rw [hg0];simpa using this
 have HIs:Hid (∀ k,1≤k→k≤L.length→(∀ t (h:t < L.length),t < k→L[t].1=(L.getD 0 (0,0)).1)→(∀ h:k < L.length,L[k].1≠(L.getD 0 (0,0)).1)→RunIs L k):=fun k a b c d=>⟨a,b,c,d⟩
 have H00:Hid (L[0].1=(L.getD 0 (0,0)).1):=by unfold Hid;rw [hg0]
 clear hR hne hg0 HX
 generalize (L.getD 0 (0,0)).1=x0 at *
 go_enter Tryz.func324,Tryz.ntmps324
 go_wp2_with fail
 go_loopw [7] (fun a wr=>∃ k:Nat,k≤L.length∧a=.int .i64 (k:Int)∧Hid (Below w.heap.size w wr)∧Hid (∀ t (h:t < L.length),t < k→L[t].1=x0)) (fun a _=>L.length - (intOf a).toNat)
 case atStart=>exact ⟨0,by omega,rfl,Below.refl _ _,fun t h ht=>by omega⟩
 case round =>
  obtain ⟨k,hk,rfl,hB,hS⟩:=hrel
  by_cases hlt:k < L.length
  ·have hlt':(k:Int) < (L.length:Int):=by omega
   obtain ⟨q1,q2⟩:=(HR.out.below hB.out (fun k=>HR.out.lt k)) k hlt
   have hbA:Below w.heap.size w (wr.alloc (.cells #[.int .i64 L[k].1,.int .u64 (L[k].2:Int)] 174)):=hB.out.alloc hB.out.size _
   have q0:=HC0.out _ hbA
   have hnew:(wr.alloc (.cells #[.int .i64 L[k].1,.int .u64 (L[k].2:Int)] 174)).heap[wr.heap.size]? =some (.cells #[.int .i64 L[k].1,.int .u64 (L[k].2:Int)] 174 (0,0)):=new_1 wr _
   have HBA:Hid _:=hbA
   have HIk:Hid (L[k].1=x0→∀ t (h:t < L.length),t < k+1→L[t].1=x0):=fun e t h ht=>by
    by_cases e2:t=k
    ·subst e2;exact e
    ·exact hS.out t h (by omega)
   have HRt:Hid (L[k].1≠x0→RunIs L k):=fun e=>HIs.out k (by
    rcases Nat.eq_zero_or_pos k with e0 | e0
    ·subst e0;exact absurd H00.out e
    ·exact e0) hk hS.out (fun _=>e)
   generalize L[k].1=x at *
   generalize (L[k].2:Int)=y at *
   clear hbA
   go_upto_region 4 with fail
   generalize hWA:wr.alloc (.cells #[.int .i64 x,.int .u64 y] 174)=WA at *
   have c0:WA.cell? ⟨wr.heap.size,0,none⟩=some (.int .i64 x):=by simp [World.cell?,hnew]
   have HWA:Hid _:=HBA
   clear hWA hnew
   by_cases hxx:x=x0
   ·have hbx:(x != x0)=false:=by rw [bne_eq_false_iff_eq];exact hxx
    have HIk2:Hid _:=HIk.out hxx
    subst hxx
    go_region_with fail
    all_goals
     go_wp2_with fail
     exact ⟨⟨k+1,by omega,by go_num,HBA.out.drew,HIk2⟩,by simp [intOf];omega⟩
   ·have hbx:(x != x0)=true:=by rw [bne_iff_ne];exact hxx
    have HRt2:Hid _:=HRt.out hxx
    clear hxx
    go_region_with fail
    all_goals
     go_wp2_with fail
     go_ret
     exact ⟨k,rfl,HRt2.out,HBA.out.drew⟩
  ·obtain rfl:k=L.length:=by omega
   have hlt':¬ (L.length:Int) < (L.length:Int):=by omega
   go_wp2_with fail
   go_ret
   exact ⟨L.length,rfl,HIs.out _ (by omega) (Nat.le_refl _) hS.out (fun h=>absurd h (Nat.lt_irrefl _)),hB.out⟩
theorem grow_nil (n:Nat) (hn:n≤2097152) (w:World):Calls Tryz.prog 325 #[.slice none 0 0,.int .i64 (n:Int)] w fun e w'=>∃ v,e=.returned v∧GC w.heap.size w v [] w':=by
 obtain ⟨i0,hi,hz0,hz1,hz2⟩:=info_parts infoC
 by_cases h0:n=0
 ·subst h0
  go_enter Tryz.func325,Tryz.ntmps325
  go_wp2_with fail
  go_ret
  exact ⟨_,rfl,own_nil _ _,Below.refl _ _,Nat.le_refl _⟩
 ·have h1:¬ (n:Int) < 0:=by omega
  have h2:(0:Int) < (n:Int):=by omega
  have hrz:∀ ty,(Builtin.append_ #[84,3] ty #[.slice none 0 0,.int .i64 (n:Int)]).run Tryz.prog w =
    .ok (.slice (some ⟨w.heap.size,0,none⟩) (0+n) (grownCap w (0+n) 0 174)) (w.drew.alloc (.cells (([]:List Value).toArray++Builtin.zeroCells (Value.agg #[.int .i64 0,.int .u64 0]).cells n++Builtin.zeroCells (Value.agg #[.int .i64 0,.int .u64 0]).cells (grownCap w (0+n) 0 174 - (0+n))) 174)):=fun ty =>
   Lib.run_append_grow_zeros w 84 3 ty 174 i0 (.agg #[.int .i64 0,.int .u64 0]) .i64 .i64 Tryz.underlying84 Tryz.underlying3 hi hz0 none 0 0 [] (run_firstCells_none w.drew i0.size 0 0 0) n (by omega) (by omega) (by omega) (by omega) (by rw [hz2];omega) (growslice_fits (by omega) (by rw [hz2];omega))
  simp only [Nat.zero_add] at hrz
  have hGn:n≤grownCap w n 0 174:=grownCap_ge w _ _ _
  have hGm:grownCap w n 0 174≤maxLen:=grownCap_le_maxLen w n 0 174 (by unfold maxLen;omega)
  generalize grownCap w n 0 174=G at *
  have hG63:G≤9223372036854775807:=by unfold maxLen at hGm;omega
  obtain ⟨cur,hcur⟩:∃ cur,([]:List Value).toArray++Builtin.zeroCells (Value.agg #[.int .i64 0,.int .u64 0]).cells n++Builtin.zeroCells (Value.agg #[.int .i64 0,.int .u64 0]).cells (G - n)=cur:=⟨_,rfl⟩
  have hsz:cur.size=G*2:=by
   rw [← hcur]
   simp [size_zeroCells,Value.cells]
   omega
  rw [hcur] at hrz
  clear hcur
  have hfin:GC w.heap.size w (.slice (some ⟨w.heap.size,0,none⟩) 0 G) [] (w.drew.alloc (.cells cur 174)) :=
   ⟨⟨rfl,Or.inr ⟨w.heap.size,G,cur,rfl,Nat.le_refl _,new_1 w.drew _,Nat.zero_le _,hGm,hsz,rfl⟩⟩,((Below.refl _ _).drew).alloc (Nat.le_refl _) _,by simp⟩
  have HF:Hid _:=hfin
  clear hfin hsz
  go_enter Tryz.func325,Tryz.ntmps325
  go_wp2_with (at_builtin;refine Lib.wpList_append_run _ rfl _ _ _ _ rfl _ _ rfl rfl _ _ (hrz _) ?_)
  all_goals
   go_ret
   exact ⟨_,rfl,HF.out⟩
end Go.Proofs.YtlgkfeeclgcgbaaGreatDoor
/- Merge, the code's: sorting. Own work of the verifier. -/
set_option maxHeartbeats 1000000
namespace Go.Proofs.YtlgkfeeclgcgbaaGreatDoor
open Go.RowKit Go.Shelf Go.Lib
open Go.Sort (SWO PermIn SortedIn HoldsK flatK size_flatK get_flatK putRowK putRow grow ahead mapBlock holdsK_grow holdsK_ahead holdsK_putRowK alloc_eq_grow grow_grow)
def encC (x:Cn):List Value:=[.int .i64 x.1,.int .u64 (x.2:Int)]
theorem clos_any (x y:Cn) (W:World):Calls Tryz.prog 322 #[.agg #[.int .i64 x.1,.int .u64 (x.2:Int)],.agg #[.int .i64 y.1,.int .u64 (y.2:Int)]] W fun e w'=>e=.returned (.int .i64 (Lib.compareInt x.1 y.1))∧∃ q os',w'=grow (W.drewN q) os':=by
 have hcon:=fun W'=>Tryz.cmp_Compare_int x.1 y.1 W'
 generalize Lib.compareInt x.1 y.1=r at hcon ⊢
 go_enter Tryz.func322,Tryz.ntmps322
 go_wp2_with (go_at_call 323;refine (hcon _).mono ?_;rintro e w' ⟨rfl,rfl⟩)
 go_ret
 exact ⟨rfl,0,_,by rw [alloc_eq_grow,alloc_eq_grow,grow_grow];rfl⟩
theorem ltC (x y:Cn):ltOf (fun x y:Cn=>Lib.compareInt x.1 y.1) x y=decide (x.1 < y.1):=by
 unfold ltOf Lib.compareInt
 by_cases h1:x.1 < y.1
 ·simp [h1]
 ·by_cases h2:y.1 < x.1 <;> simp [h1,h2]
theorem swoC:SWO (ltOf fun x y:Cn=>Lib.compareInt x.1 y.1) where
 irrefl x:=by rw [ltC];simp
 trans x y z h1 h2:=by rw [ltC] at *;simp at *;omega
 ntrans x y z h1 h2:=by rw [ltC] at *;simp at *;omega
theorem holds_of {w:World} {g:Nat} {cur:Array Value} {L:List Cn} (hh:w.heap[g]? =some (.cells cur 174 (0,0))) (hR:RowC w g 0 L):HoldsK encC 2 w g 0 L.toArray:=by
 intro j hj
 rw [size_flatK] at hj
 have hj':j < L.length*2:=by simpa using hj
 have hi:j / 2 < L.length:=by omega
 rw [get_flatK _ _ _ _ (by simpa using hj')]
 have hg:(L.toArray[j / 2]!)=L[j / 2]:=by simp [hi]
 rw [hg]
 obtain ⟨r1,r2⟩:=hR (j / 2) hi
 refine ⟨?_,by simp [World.frozen?,hh]⟩
 rcases Nat.mod_two_eq_zero_or_one j with e | e
 ·rw [show 0+j / 2*2=0+j by omega] at r1
  rw [r1,e];rfl
 ·rw [show 0+j / 2*2+1=0+j by omega] at r2
  rw [r2,e];rfl
theorem row_of {w:World} {g:Nat} {d:Array Cn} (h:HoldsK encC 2 w g 0 d):RowC w g 0 d.toList:=by
 intro i hi
 have hi':i < d.size:=by simpa using hi
 have h0:=(h.cell hi' (c:=0) (by decide)).1
 have h1:=(h.cell hi' (c:=1) (by decide)).1
 have hg:d[i]! =d.toList[i]:=by simp [hi']
 rw [hg] at h0 h1
 exact ⟨h0,h1⟩
theorem below_sort {B:Nat} {w:World} {g n:Nat} {d:Array Cn} {os:Array Obj} (hB:B≤g) (hs:B≤w.heap.size):Below B w (sortWorldK encC 2 w g 0 n d os):=by
 refine ⟨rfl,rfl,rfl,?_,fun k hk=>?_⟩
 ·show w.heap.size≤((w.heap.modify g _)++os).size
  simp
 ·show ((w.heap.modify g _)++os)[k]? =w.heap[k]?
  rw [Array.getElem?_append_left (by rw [Array.size_modify];omega),Array.getElem?_modify,if_neg (by omega)]
theorem sort_gc {B:Nat} {W0 w:World} {v:Value} {L:List Cn} (h:GC B W0 v L w) (hl:L.length≤4194304) :
  Calls Tryz.prog 321 #[v,.func (.func 322) #[] #[]] w fun e w'=>e=.returned (.tuple #[])∧∃ S,Srt S∧S.Perm L∧SN w' v S∧Below B W0 w':=by
 obtain ⟨ao,b,o,cap,hv,hao,hR⟩:=h.sc
 have hsz:=h.size
 have hbl:=h.below
 rcases h.own.2 with ⟨rfl,hn⟩ | ⟨g,cap',cur,rfl,hB,hh,hc,hm,_⟩
 ·have hL:L=[]:=List.length_eq_zero_iff.1 hn
  subst hL
  refine (AnyF.slices_SortFunc_none Tryz.sortC none 0 _ w).mono ?_
  rintro e w' ⟨rfl,rfl⟩
  exact ⟨rfl,[],List.Pairwise.nil,List.Perm.refl _,Or.inl ⟨rfl,rfl⟩,hbl⟩
 ·by_cases hne:L=[]
  ·subst hne
   refine (AnyF.slices_SortFunc_none Tryz.sortC (some ⟨g,0,none⟩) cap' _ w).mono ?_
   rintro e w' ⟨rfl,rfl⟩
   exact ⟨rfl,[],List.Pairwise.nil,List.Perm.refl _,Or.inr ⟨⟨g,0,none⟩,cap',rfl,Nat.zero_le _,RowA.nil _ _⟩,hbl⟩
  ·have hao':=hao hne
   subst hao'
   obtain ⟨rfl,rfl⟩:g=b∧o=0:=by cases hv;exact ⟨rfl,rfl⟩
   clear hv
   have hlt:g < w.heap.size:=hR.lt hne
   have hH:HoldsK encC 2 w g 0 L.toArray:=holds_of hh hR
   have eg:∀ args w,(callFunc 322 args).run Tryz.prog w=.ok (.enter 322 args) w:=enters_of Tryz.func322 (by kernel_rfl) rfl
   have hcon:=AnyQ.slices_SortFunc Tryz.sortC 2 Tryz.isAgg174 Tryz.sizeOf174 encC (fun _=>rfl) (fun x v hv=>by simp [encC] at hv;rcases hv with rfl | rfl <;> rfl) (fun x y=>Lib.compareInt x.1 y.1) swoC 322 #[] g 0 cap' L.toArray w eg (fun _ _ _ _ x y=>clos_any x y _) hH hlt (by simp;omega)
   rw [show L.toArray.size=L.length by simp] at hcon
   refine hcon.mono ?_
   rintro e w' ⟨rfl,d',n,os,hp,hs,rfl⟩
   have hds:d'.size=L.length:=by have:=hp.1;simpa using this
   have hpm:d'.toList.Perm L:=by
    have:=hp.2.2
    rw [Array.extract_eq_self_of_le (by omega),Array.extract_eq_self_of_le (by simp)] at this
    simpa using this
   refine ⟨rfl,d'.toList,?_,hpm,Or.inr ⟨⟨g,0,none⟩,cap',by simp [hds],by simp [hds];exact hc,RowC.cells ?_⟩,bt' hbl (below_sort hB hsz)⟩
   ·refine List.pairwise_iff_getElem.2 fun i j hi hj hij=>?_
    have h1:=hs i j (Nat.zero_le _) hij (by simpa [hds] using hj)
    rw [ltC] at h1
    have e1:d'[i]! =d'.toList[i]:=by simp [show i < d'.size by simpa using hi]
    have e2:d'[j]! =d'.toList[j]:=by simp [show j < d'.size by simpa using hj]
    rw [e1,e2] at h1
    have:=of_decide_eq_false h1
    omega
   ·refine row_of ?_
    exact holdsK_grow encC 2 _ _ _ _ _ (by show g < (w.heap.modify g _).size;rw [Array.size_modify];exact hlt) (holdsK_putRowK encC 2 _ _ _ L.toArray d' (holdsK_ahead encC 2 _ _ _ _ _ hH) (by simp [hds]))
end Go.Proofs.YtlgkfeeclgcgbaaGreatDoor
/- Merge, the code's: joining two lists. Own work of the verifier. -/
set_option maxRecDepth 10000
set_option maxHeartbeats 4000000
namespace Go.Proofs.YtlgkfeeclgcgbaaGreatDoor
open Go.RowKit Go.Shelf
theorem concat_any (sb:Nat) (v v':Value) (A C:List Cn) (hlA:A.length≤1048576) (hlC:C.length≤1048576) (w:World) (c0:w.cell? ⟨sb,0,none⟩=some v) (c1:w.cell? ⟨sb,1,none⟩=some v') (hA:SN w v A) (hC:SN w v' C) :
  Calls Tryz.prog 320 #[.slice (some ⟨sb,0,none⟩) 2 2] w fun e w'=>∃ m,e=.returned m∧GC w.heap.size w m (A++C) w':=by
 obtain ⟨i0,hi,hz0,hz1,hz2⟩:=info_parts infoC
 have HG:Hid (∀ W,_):=grow_nil (A.length+C.length) (by omega)
 have HA:Hid (SN w v A):=hA
 have HC:Hid (SN w v' C):=hC
 have HC0:Hid (∀ W,Below w.heap.size w W→W.cell? ⟨sb,0,none⟩=some v):=fun W hb=>(hb.cell (p:=⟨sb,0,none⟩) (lt_of_cell c0)).trans c0
 have HC1:Hid (∀ W,Below w.heap.size w W→W.cell? ⟨sb,1,none⟩=some v'):=fun W hb=>(hb.cell (p:=⟨sb,1,none⟩) (lt_of_cell c1)).trans c1
 obtain ⟨ao,b,o,cap,hv,_⟩:=hA.sc
 obtain ⟨ao',b',o',cap',hv',_⟩:=hC.sc
 subst hv hv'
 clear hA hC
 have s0:wrap64 ((0:Int)+(A.length:Int))=(A.length:Int):=by unfold wrap64;omega
 have s1:wrap64 ((A.length:Int)+(C.length:Int))=((A.length+C.length:Nat):Int):=by unfold wrap64;omega
 have n0:¬ (A.length:Int) < 0:=by omega
 have n1:¬ ((A.length+C.length:Nat):Int) < 0:=by omega
 go_enter Tryz.func320,Tryz.ntmps320
 go_wp2_with fail
 go_loopw [3,11] (fun a c wr=>∃ k:Nat,wr=w∧c=.int .i64 (k:Int)∧((k=0∧a=.int .i64 0)∨(k=1∧a=.int .i64 (A.length:Int))∨(k=2∧a=.int .i64 ((A.length+C.length:Nat):Int)))) (fun _ c _=>2 - (intOf c).toNat)
 case atStart=>exact ⟨0,rfl,rfl,Or.inl ⟨rfl,rfl⟩⟩
 case round =>
  obtain ⟨k,hwr,rfl,(⟨rfl,rfl⟩ | ⟨rfl,rfl⟩ | ⟨rfl,rfl⟩)⟩:=hrel <;> obtain rfl:w=wr:=hwr.symm <;> clear hwr
  ·go_wp2_with fail
   exact ⟨⟨1,True.intro,by first | rfl | simp,Or.inr (Or.inl ⟨rfl,by first | rfl | simp⟩)⟩,by simp [intOf]⟩
  ·go_wp2_with fail
   exact ⟨⟨2,True.intro,by first | rfl | simp,Or.inr (Or.inr ⟨rfl,by first | rfl | simp⟩)⟩,by simp [intOf]⟩
  ·generalize A.length+C.length=n at *
   go_wp2_with (go_at_call 325;refine (HG.out _).mono ?_;rintro e w1 ⟨m,rfl,hg⟩)
   have HGm:Hid (GC w.heap.size w m [] w1):=hg
   clear hg
   go_loopw [6,27] (fun a c w2=>∃ (k:Nat) (D:List Cn),c=.int .i64 (k:Int)∧Hid (GC w.heap.size w a D w2)∧Hid ((k=0∧D=[])∨(k=1∧D=A)∨(k=2∧D=A++C))) (fun _ c _=>2 - (intOf c).toNat)
   case atStart=>exact ⟨0,[],rfl,HGm,Or.inl ⟨rfl,rfl⟩⟩
   case round =>
    obtain ⟨k,D,rfl,hG,hk⟩:=hrel
    have d0:=HC0.out _ hG.out.below
    have d1:=HC1.out _ hG.out.below
    rcases hk.out with ⟨rfl,rfl⟩ | ⟨rfl,hD⟩ | ⟨rfl,hD⟩
    ·rcases HA.out with ⟨hv0,hL0⟩ | ⟨aA,cA,hvA,hcA,hRA⟩
     ·rw [hv0] at d0
      rcases gc_form2 hG.out with ⟨rfl,hD0⟩ | ⟨gv,cv,rfl,hcv⟩
      ·have HG2:Hid (GC w.heap.size w (.slice none 0 0) A wr):=by unfold Hid;rw [hL0];simpa using hG.out
       clear hG
       go_wp2_with fail
       exact ⟨⟨1,_,by first | rfl | simp,HG2,Or.inr (Or.inl ⟨rfl,rfl⟩)⟩,by simp [intOf]⟩
      ·have HG2:Hid (GC w.heap.size w (.slice (some ⟨gv,0,none⟩) ([]:List Cn).length cv) A wr):=by unfold Hid;rw [hL0];simpa using hG.out
       clear hG
       go_wp2_with fail
       exact ⟨⟨1,_,by first | rfl | simp,HG2,Or.inr (Or.inl ⟨rfl,rfl⟩)⟩,by simp [intOf]⟩
     ·obtain ⟨rfl,rfl⟩:ao=some aA∧cA=cap:=by have h:=hvA;simp at h;exact ⟨h.1,h.2.symm⟩
      clear hvA
      have HcA:Hid _:=hRA.below hG.out.below
      have hgs:=hG.out.size
      go_wp2_with (at_builtin;refine wpList_append_own _ rfl _ _ 84 rfl w.heap.size 174 i0 (.agg #[.int .i64 0,.int .u64 0]) 2 16 Tryz.underlying84 hi hz0 hz1 hz2 rfl (by decide) _ _ _ rfl hG.out.own aA A.length cA (fl A) rfl (fl_length A) HcA.out (fl_one A) (by unfold maxLen;first | omega | (simp;omega)) (by first | omega | (simp;omega)) hgs ?_;intro v2 w2 hown hgrow hnil;have hg2:=hG.out.grow (ys:=A) hG.out.below hgs hown hgrow;clear hown hgrow hnil)
      exact ⟨⟨1,_,by first | rfl | simp,hg2,Or.inr (Or.inl ⟨rfl,List.nil_append _⟩)⟩,by simp [intOf]⟩
    ·subst hD
     rcases HC.out with ⟨hv0,hL0⟩ | ⟨aA,cA,hvA,hcA,hRA⟩
     ·rw [hv0] at d1
      rcases gc_form2 hG.out with ⟨rfl,hD0⟩ | ⟨gv,cv,rfl,hcv⟩
      ·have HG2:Hid (GC w.heap.size w (.slice none 0 0) (D++C) wr):=by unfold Hid;rw [hL0];simpa using hG.out
       clear hG
       go_wp2_with fail
       exact ⟨⟨2,_,by first | rfl | simp,HG2,Or.inr (Or.inr ⟨rfl,rfl⟩)⟩,by simp [intOf]⟩
      ·have HG2:Hid (GC w.heap.size w (.slice (some ⟨gv,0,none⟩) D.length cv) (D++C) wr):=by unfold Hid;rw [hL0];simpa using hG.out
       clear hG
       go_wp2_with fail
       exact ⟨⟨2,_,by first | rfl | simp,HG2,Or.inr (Or.inr ⟨rfl,rfl⟩)⟩,by simp [intOf]⟩
     ·obtain ⟨rfl,rfl⟩:ao'=some aA∧cA=cap':=by have h:=hvA;simp at h;exact ⟨h.1,h.2.symm⟩
      clear hvA
      have HcA:Hid _:=hRA.below hG.out.below
      have hgs:=hG.out.size
      go_wp2_with (at_builtin;refine wpList_append_own _ rfl _ _ 84 rfl w.heap.size 174 i0 (.agg #[.int .i64 0,.int .u64 0]) 2 16 Tryz.underlying84 hi hz0 hz1 hz2 rfl (by decide) _ _ _ rfl hG.out.own aA C.length cA (fl C) rfl (fl_length C) HcA.out (fl_one C) (by unfold maxLen;first | omega | (simp;omega)) (by first | omega | (simp;omega)) hgs ?_;intro v2 w2 hown hgrow hnil;have hg2:=hG.out.grow (ys:=C) hG.out.below hgs hown hgrow;clear hown hgrow hnil)
      exact ⟨⟨2,_,by first | rfl | simp,hg2,Or.inr (Or.inr ⟨rfl,rfl⟩)⟩,by simp [intOf]⟩
    ·go_wp2_with fail
     go_ret
     exact ⟨_,rfl,hD ▸ hG.out⟩
end Go.Proofs.YtlgkfeeclgcgbaaGreatDoor
/- Merge, the code's. Own work of the verifier. -/
set_option maxRecDepth 10000
set_option maxHeartbeats 4000000
namespace Go.Proofs.YtlgkfeeclgcgbaaGreatDoor
open Go.RowKit Go.Shelf
theorem key_all {M:List Cn} {x:Int} (h:∀ c ∈ M,c.1=x):key M x=sumN M:=by
 induction M with
 | nil=>rfl
 | cons c M ih =>
  simp only [key]
  rw [if_pos (h c (by simp)),ih (fun d hd=>h d (by simp [hd]))]
  simp [sumN]
theorem run_group {S:List Cn} {i k:Nat} (hi:i < S.length) (hR:RunIs (S.drop i) k) (hc:Cut S i):i < i+k∧i+k≤S.length∧Run S i (i+k) S[i].1∧(∀ h:i+k < S.length,S[i+k].1≠S[i].1)∧tot ((S.drop i).take k)=key (S.take (i+k)) S[i].1 % 18446744073709551616:=by
 have h0:((S.drop i).getD 0 (0,0)).1=S[i].1:=by simp [List.getD,hi]
 have hl:k≤S.length - i:=by have:=hR.le;rwa [List.length_drop] at this
 have hrun:Run S i (i+k) S[i].1:=fun t ht h1 h2=>by
  have:=hR.same (t - i) (by rw [List.length_drop];omega) (by omega)
  rw [h0,List.getElem_drop] at this
  rw [← this];congr 2;omega
 refine ⟨by have:=hR.pos;omega,by omega,hrun,fun h=>?_,?_⟩
 ·have:=hR.stop (by rw [List.length_drop];omega)
  rw [h0,List.getElem_drop] at this
  exact this
 ·have e1:S.take (i+k)=S.take i++(S.drop i).take k:=by rw [List.take_add]
  rw [e1,key_append]
  have e2:=key_cut hc hi rfl
  have e3:key ((S.drop i).take k) S[i].1=sumN ((S.drop i).take k):=key_all fun c hcm=>by
   obtain ⟨t,ht,rfl⟩:=List.getElem_of_mem hcm
   rw [List.length_take,List.length_drop] at ht
   rw [List.getElem_take,List.getElem_drop]
   exact hrun (i+t) (by omega) (by omega) (by omega)
  rw [e3]
  show sumN ((S.drop i).take k) % 18446744073709551616=_
  omega
theorem GC.keep {B:Nat} {W0 w w':World} {v:Value} {xs:List Cn} (h:GC B W0 v xs w) (hb:Below w.heap.size w w'):GC B W0 v xs w':=by
 refine ⟨⟨h.own.1,?_⟩,h.below.trans (hb.mono h.size),by have:=hb.size;have:=h.size;omega⟩
 rcases h.own.2 with k | ⟨g,cap,cur,hv,hB,hh,hrest⟩
 ·exact Or.inl k
 ·exact Or.inr ⟨g,cap,cur,hv,hB,(hb.block g (Array.getElem?_eq_some_iff.1 hh).1).trans hh,hrest⟩
theorem Hid.keepG {B:Nat} {W0 w w':World} {v:Value} {xs:List Cn} (h:Hid (GC B W0 v xs w)) (hb:Below w.heap.size w w'):Hid (GC B W0 v xs w'):=GC.keep h hb
theorem cmerge_any (w:World) (v v':Value) (A C:List Cn) (hA:SN w v A) (hC:SN w v' C) (hW:Wc (A++C)) (hlA:A.length≤1048576) (hlC:C.length≤1048576) :
  Calls Tryz.prog 316 #[v,v'] w fun e w'=>Md w (A++C) e w':=by
 obtain ⟨i0,hi,hz0,hz1,hz2⟩:=info_parts infoC
 obtain ⟨ao,b,o,cap,hv,_⟩:=hA.sc
 obtain ⟨ao',b',o',cap',hv',_⟩:=hC.sc
 subst hv hv'
 have hb0:Below w.heap.size w (w.alloc (.cells #[.slice ao A.length cap,.slice ao' C.length cap'] 84)):=(Below.refl _ _).alloc (Nat.le_refl _) _
 have hn:=new_1 w (.cells #[.slice ao A.length cap,.slice ao' C.length cap'] 84)
 have HCc:Hid (∀ _:Unit,_):=fun _=>concat_any w.heap.size _ _ A C hlA hlC _ (cell_0 hn) (cell_1 hn) (hA.below hb0) (hC.below hb0)
 have HB0:Hid _:=hb0
 clear hb0 hn hA hC
 go_enter Tryz.func316,Tryz.ntmps316
 go_wp2_with (first
  | (go_at_call 320;refine (HCc.out ()).mono ?_;rintro e w1 ⟨m,rfl,hg1⟩)
  | (go_at_call 321;refine (sort_gc hg1 (by rw [List.length_append];omega)).mono ?_;rintro e w2 ⟨rfl,S,hs2,hp2,hsn2,hb2⟩))
 have HS:Hid (Srt S):=hs2
 have HP:Hid (S.Perm (A++C)):=hp2
 have hSl:S.length≤2097152:=by rw [hp2.length_eq,List.length_append];omega
 have HB2:Hid (Below w.heap.size w w2):=HB0.out.trans (hb2.mono (by simp))
 have hWS:Wc S:=fun c hc=>hW c (hp2.mem_iff.1 hc)
 have HWS:Hid _:=hWS
 obtain ⟨ao3,b3,o3,c3,hm3,hao3,hr3,hc3⟩:∃ ao3 b3 o3 c3,m=.slice ao3 S.length c3∧(S≠[]→ao3=some ⟨b3,o3,none⟩)∧RowC w2 b3 o3 S∧S.length≤c3:=by
  exact hsn2.sc2
 subst hm3
 have HR3:Hid (RowC w2 b3 o3 S):=hr3
 clear hs2 hp2 hb2 hWS hsn2 hr3 hg1
 go_loopw [5,6] (fun a v wr=>∃ (i:Nat) (O:List Cn) (aa:Option Addr) (ca:Nat),i≤S.length∧a=.slice aa (S.length - i) ca∧S.length - i≤ca∧(i < S.length→aa=some ⟨b3,o3+i*2,none⟩)∧Hid (GC w2.heap.size w2 v O wr)∧Hid (IsMerge O (S.take i)∧(∀ c ∈ O,∀ d ∈ S.drop i,c.1 < d.1)∧Cut S i)∧O.length≤i) (fun a _ _=>slen a)
 case atStart=>exact ⟨0,[],ao3,c3,by omega,rfl,by omega,fun h=>by rw [hao3 (by intro e;rw [e] at h;simp at h)];rfl,⟨own_nil _ _,Below.refl _ _,Nat.le_refl _⟩,⟨isMerge_nil,(fun c hc=>by cases hc),cut_zero S⟩,by simp⟩
 case round =>
  obtain ⟨i,O,aa,ca,hil,rfl,hca,haa,hG,hM,hOl⟩:=hrel
  by_cases hlt:i < S.length
  ·obtain rfl:=haa hlt
   have hbw:Below w2.heap.size w2 wr:=hG.out.below
   have hrw:=(HR3.out.below hbw (fun k=>HR3.out.lt k)).drop i
   have hln:(S.drop i).length=S.length - i:=List.length_drop
   have hpos:(0:Int) < ((S.length - i:Nat):Int):=by omega
   have hne:S.drop i≠[]:=fun e=>by rw [e] at hln;simp at hln;omega
   have q0:=(hrw 0 (by rw [hln];omega)).1
   rw [show (S.drop i)[0].1=S[i].1 by simp] at q0
   have HRun:Hid (∀ _:Unit,_):=fun _=>run_any b3 (o3+i*2) ca (S.drop i) hne (by rw [hln];omega) wr hrw
   rw [hln] at HRun
   have HT:Hid (∀ k W,k≤S.length - i→Below wr.heap.size wr W→Calls Tryz.prog 85 #[.slice (some ⟨b3,o3+i*2,none⟩) k ca] W fun e w'=>e=.returned (.int .u64 (tot ((S.drop i).take k):Nat))∧Below W.heap.size W w'):=fun k W hk hb=>by
    have hk2:((S.drop i).take k).length=k:=by rw [List.length_take,hln];omega
    have:=total_any W (.slice (some ⟨b3,o3+i*2,none⟩) ((S.drop i).take k).length ca) ((S.drop i).take k) (Or.inr ⟨⟨b3,o3+i*2,none⟩,ca,rfl,by omega,((hrw.below hb (fun k=>hrw.lt k)).take k).cells⟩) (fun c hc=>HWS.out c (List.mem_of_mem_drop (List.mem_of_mem_take hc))) (by rw [hk2];omega)
    rw [hk2] at this
    exact this
   have HGr:Hid (∀ k,RunIs (S.drop i) k→_):=fun k hk=>run_group hlt hk hM.out.2.2
   have Hq:Hid (∀ W,Below wr.heap.size wr W→W.cell? ⟨b3,o3+i*2,none⟩=some (.int .i64 S[i].1)):=fun W hb=>(hb.cell (p:=⟨b3,o3+i*2,none⟩) (lt_of_cell (by simpa using q0))).trans (by simpa using q0)
   clear hrw hbw hne q0 haa
   obtain ⟨x,hx⟩:∃ x,x=S[i].1:=⟨_,rfl⟩
   rw [← hx] at Hq
   simp only [← hx] at HGr
   clear hx
   go_upto_region 6 with (go_at_call 324;refine (HRun.out ()).mono ?_;rintro e w3 ⟨k,rfl,hk,hb3⟩)
   obtain ⟨g1,g2,g3,g4,g5⟩:=HGr.out k hk
   have HCut:Hid (Cut S (i+k)):=cut_next HS.out g1 g2 hM.out.2.2 g3 g4
   have HMn:Hid (IsMerge (if tot ((S.drop i).take k)≠0 then O++[(x,tot ((S.drop i).take k))] else O) (S.take (i+k))):=group_merge g1 g2 hM.out.1 hM.out.2.1 g3 g5
   have HMl:Hid (∀ c ∈ (if tot ((S.drop i).take k)≠0 then O++[(x,tot ((S.drop i).take k))] else O),∀ d ∈ S.drop (i+k),c.1 < d.1):=group_less g1 g2 hM.out.2.1 g3 HCut.out
   have HTk:Hid (∀ W,Below wr.heap.size wr W→_):=fun W hb=>HT.out k W (by omega) hb
   have hNl:tot ((S.drop i).take k) < 18446744073709551616:=Nat.mod_lt _ (by decide)
   have hk1:=hk.pos
   have e1:(0:Int)≤(k:Int):=by omega
   have hkn:k≤S.length - i:=by omega
   have hkc:k≤ca:=by omega
   have HEnd:Hid (S.length - i - k=S.length - (i+k)):=Nat.sub_sub _ _ _
   have hG3:=hG.out.keep hb3
   have HG3:Hid _:=hG3
   have HB3:Hid _:=hb3
   have Hx3:Hid _:=Hq.out w3 hb3
   clear HT HGr HRun g3 g4 g5 hk hG3 hb3 hG Hq
   generalize tot ((S.drop i).take k)=N at *
   generalize hn:S.length - i=n at *
   have Hn:Hid _:=hn
   clear hn
   by_cases hN0:N=0
   ·have t1:((N:Int) != 0)=false:=by rw [bne_eq_false_iff_eq];omega
    rw [if_neg (by omega)] at HMn HMl
    by_cases hkk:k=ca
    ·have HL:Hid (S.length - (i+k)=0):=by have:=HEnd.out;unfold Hid;omega
     have hkk':ca=k:=hkk.symm
     subst hkk
     go_wp2_with (go_at_call 85;with_reducible refine (HTk.out _ HB3.out).mono ?_;rintro e w4 ⟨rfl,hb4⟩;have hG4:=Hid.keepG HG3 hb4;have x4:=keep_0 hb4 Hx3.out)
     exact ⟨⟨i+k,O,_,_,g2,by rw [HL.out],by rw [HL.out];exact Nat.zero_le _,fun h=>by have:=HL.out;omega,hG4,⟨HMn.out,HMl.out,HCut.out⟩,by omega⟩,by have:=Hn.out;simp [slen];omega⟩
    ·have hkk':¬ (ca:Int)=(k:Int):=by omega
     have hkk2:¬ ca=k:=by omega
     go_wp2_with (go_at_call 85;with_reducible refine (HTk.out _ HB3.out).mono ?_;rintro e w4 ⟨rfl,hb4⟩;have hG4:=Hid.keepG HG3 hb4;have x4:=keep_0 hb4 Hx3.out)
     exact ⟨⟨i+k,O,_,_,g2,by rw [← HEnd.out],by have:=HEnd.out;omega,fun _=>by first | rfl | (congr 2;omega) | (simp;omega),hG4,⟨HMn.out,HMl.out,HCut.out⟩,by omega⟩,by have:=Hn.out;simp [slen];omega⟩
   ·have t1:((N:Int) != 0)=true:=by rw [bne_iff_ne];omega
    rw [if_pos hN0] at HMn HMl
    by_cases hkk:k=ca
    ·have HL:Hid (S.length - (i+k)=0):=by have:=HEnd.out;unfold Hid;omega
     have hkk':ca=k:=hkk.symm
     subst hkk
     go_wp2_with (first
      | (go_at_call 85;with_reducible refine (HTk.out _ HB3.out).mono ?_;rintro e w4 ⟨rfl,hb4⟩;have hG4:=Hid.keepG HG3 hb4;have x4:=keep_0 hb4 Hx3.out)
      | (at_builtin;refine wpList_append_own _ rfl _ _ 84 rfl w2.heap.size 174 i0 (.agg #[.int .i64 0,.int .u64 0]) 2 16 Tryz.underlying84 hi hz0 hz1 hz2 rfl (by decide) _ _ _ rfl (hG4.out.own.alloc _) ⟨_,0,none⟩ 1 1 [_,_] rfl rfl (cell_two_new _ _ _ _) (two_one x N) (by unfold maxLen;omega) (by omega) (by have:=hG4.out.size;simp;omega) ?_;intro v5 w5 hown hgrow hnil;have hg5:=hG4.out.push (x,N) _ hown hgrow;clear hown hgrow hnil))
     exact ⟨⟨i+k,O++[(x,N)],_,_,g2,by rw [HL.out],by rw [HL.out];exact Nat.zero_le _,fun h=>by have:=HL.out;omega,hg5,⟨HMn.out,HMl.out,HCut.out⟩,by rw [List.length_append,List.length_singleton];omega⟩,by have:=Hn.out;simp [slen];omega⟩
    ·have hkk':¬ (ca:Int)=(k:Int):=by omega
     have hkk2:¬ ca=k:=by omega
     go_wp2_with (first
      | (go_at_call 85;with_reducible refine (HTk.out _ HB3.out).mono ?_;rintro e w4 ⟨rfl,hb4⟩;have hG4:=Hid.keepG HG3 hb4;have x4:=keep_0 hb4 Hx3.out)
      | (at_builtin;refine wpList_append_own _ rfl _ _ 84 rfl w2.heap.size 174 i0 (.agg #[.int .i64 0,.int .u64 0]) 2 16 Tryz.underlying84 hi hz0 hz1 hz2 rfl (by decide) _ _ _ rfl (hG4.out.own.alloc _) ⟨_,0,none⟩ 1 1 [_,_] rfl rfl (cell_two_new _ _ _ _) (two_one x N) (by unfold maxLen;omega) (by omega) (by have:=hG4.out.size;simp;omega) ?_;intro v5 w5 hown hgrow hnil;have hg5:=hG4.out.push (x,N) _ hown hgrow;clear hown hgrow hnil))
     exact ⟨⟨i+k,O++[(x,N)],_,_,g2,by rw [← HEnd.out],by have:=HEnd.out;omega,fun _=>by first | rfl | (congr 2;omega) | (simp;omega),hg5,⟨HMn.out,HMl.out,HCut.out⟩,by rw [List.length_append,List.length_singleton];omega⟩,by have:=Hn.out;simp [slen];omega⟩
  ·obtain rfl:i=S.length:=by omega
   have HMn:Hid (IsMerge O (A++C)):=by
    have:=hM.out.1
    rw [List.take_length] at this
    exact this.perm HP.out
   have hz:¬ (0:Int) < ((S.length - S.length:Nat):Int):=by omega
   go_wp2_with fail
   go_ret
   exact ⟨_,O,rfl,HMn.out,hG.out.rebase HB2.out⟩
end Go.Proofs.YtlgkfeeclgcgbaaGreatDoor
