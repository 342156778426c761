/- THE CODE'S Compare AND Same. Own work of the verifier. -/
import Derived.Test.YtfkbjdgbpenflaaGreatDoorWAE
import Derived.Test.YtfkbjdgbpenflaaGreatDoorWAD
set_option maxRecDepth 100000
set_option maxHeartbeats 4000000
namespace Go.Proofs.YtfkbjdgbpenflaaGreatDoor.La
open Go.RowKit
def ordB (a b:Lb):Int:=if ordE a.1 b.1≠0 then ordE a.1 b.1 else ordE a.2 b.2
theorem ordL_cons (a b:Lb) (A B:List Lb):ordL (a::A) (b::B)=if ordB a b≠0 then ordB a b else ordL A B:=by
 rw [ordL]
 unfold ordB
 by_cases h1:ordE a.1 b.1=0
 ·simp only [h1,ne_eq,not_true_eq_false,if_false]
 ·simp only [ne_eq,h1,not_false_eq_true,if_true]
theorem cmpl_any (x1 x2 y1 y2:List UInt8) (w:World) :
  Calls Tryz.prog 115 #[.agg #[.string ⟨x1.toArray⟩,.string ⟨x2.toArray⟩],.agg #[.string ⟨y1.toArray⟩,.string ⟨y2.toArray⟩]] w fun r w'=>r=.returned (.int .i64 (ordB (x1,x2) (y1,y2)))∧Below w.heap.size w w':=by
 have H1:Hid _:=fun W=>cmp_any x1 y1 W
 have H2:Hid _:=fun W=>cmp_any x2 y2 W
 unfold ordB
 simp only
 generalize ordE x1 y1=z1 at *
 generalize ordE x2 y2=z2 at *
 by_cases e1:z1=0
 ·subst e1
  rw [if_neg (by decide)]
  as_aux_lemma =>
   go_enter Tryz.func115,Tryz.ntmps115
   go_wp2_with (go_at_call 113;first | (with_reducible refine (H1.out _).mono ?_;rintro e1 w1 ⟨rfl,rfl⟩) | (with_reducible refine (H2.out _).mono ?_;rintro e1 w1 ⟨rfl,rfl⟩))
   go_ret
   exact ⟨rfl,bel2 w _ _⟩
 ·rw [if_pos e1]
  have e1':(z1 != 0)=true:=by simpa using e1
  clear e1 H2
  as_aux_lemma =>
   go_enter Tryz.func115,Tryz.ntmps115
   go_wp2_with (go_at_call 113;refine (H1.out _).mono ?_;rintro e1 w1 ⟨rfl,rfl⟩)
   go_ret
   exact ⟨rfl,bel2 w _ _⟩
structure KD (w:World) (b o b' o':Nat) (A B:List Lb) (W:World):Prop where
 r1:RowL W b o A
 r2:RowL W b' o' B
 bl:Below w.heap.size w W
theorem KD.below {w W W1:World} {b o b' o':Nat} {A B:List Lb} (h:KD w b o b' o' A B W) (hb:Below W.heap.size W W1):KD w b o b' o' A B W1:=⟨h.r1.below hb,h.r2.below hb,h.bl.trans (hb.mono h.bl.size)⟩
theorem cmpf_any (ao:Option Addr) (b o cap:Nat) (A:List Lb) (hao:A≠[]→ao=some ⟨b,o,none⟩) (ao':Option Addr) (b' o' cap':Nat) (B:List Lb) (hao':B≠[]→ao'=some ⟨b',o',none⟩) (hl:A.length≤9223372036854775807) (hl':B.length≤9223372036854775807) (w:World) (hA:RowL w b o A) (hC:RowL w b' o' B) :
  Calls Tryz.prog 114 #[.slice ao A.length cap,.slice ao' B.length cap',.func (.func 115) #[] #[]] w fun e w'=>e=.returned (.int .i64 (ordL A B))∧Below w.heap.size w w':=by
 have HC:Hid (∀ (x1 x2 y1 y2:List UInt8) (W:World),Calls Tryz.prog 115 #[.agg #[.string ⟨x1.toArray⟩,.string ⟨x2.toArray⟩],.agg #[.string ⟨y1.toArray⟩,.string ⟨y2.toArray⟩]] W fun r w'=>r=.returned (.int .i64 (ordB (x1,x2) (y1,y2)))∧Below W.heap.size W w'):=fun x1 x2 y1 y2 W=>cmpl_any x1 x2 y1 y2 W
 obtain ⟨R,hR⟩:∃ R,R=ordL A B:=⟨_,rfl⟩
 rw [← hR]
 have HR0:Hid (R=ordL (A.drop 0) (B.drop 0)):=hR
 have HK0:Hid (KD w b o b' o' A B w):=⟨hA,hC,Below.refl _ _⟩
 clear hR hA hC
 go_enter Tryz.func114,Tryz.ntmps114
 go_wp2_with fail
 go_loopw [13] (fun a W=>∃ i:Nat,i≤A.length∧i≤B.length∧a=.int .i64 (i:Int)∧Hid (R=ordL (A.drop i) (B.drop i))∧Hid (KD w b o b' o' A B W)) (fun a _=>A.length - (intOf a).toNat)
 case atStart=>exact ⟨0,by omega,by omega,rfl,HR0,HK0⟩
 case round =>
  clear HK0 HR0
  obtain ⟨i,hi,hj,rfl,HR,HK⟩:=hrel
  by_cases hlt:i < A.length
  ·have hlt':(i:Int) < (A.length:Int):=by omega
   obtain rfl:=hao (by intro k;rw [k] at hlt;simp at hlt)
   obtain ⟨q1,q2⟩:=HK.out.r1 i hlt
   have hS:=HR.out
   rw [List.drop_eq_getElem_cons hlt] at hS
   clear HR
   by_cases hlb:i < B.length
   ·have hlb':¬ (B.length:Int)≤(i:Int):=by omega
    have hlb2:(i:Int) < (B.length:Int):=by omega
    obtain rfl:=hao' (by intro k;rw [k] at hlb;simp at hlb)
    rw [List.drop_eq_getElem_cons hlb,ordL_cons] at hS
    obtain ⟨p1,p2⟩:=HK.out.r2 i hlb
    have HC1:Hid _:=HC.out A[i].1 A[i].2 B[i].1 B[i].2
    have HKn:Hid (∀ t,KD w b o b' o' A B (wr.alloc (.cells #[.string ⟨A[i].1.toArray⟩,.string ⟨A[i].2.toArray⟩] t))):=fun t=>HK.out.below (bel1 wr _)
    have n1:=((HKn.out 85).r2 i hlb).1
    have n2:=((HKn.out 85).r2 i hlb).2
    have HKm:Hid (∀ t t',KD w b o b' o' A B ((wr.alloc (.cells #[.string ⟨A[i].1.toArray⟩,.string ⟨A[i].2.toArray⟩] t)).alloc (.cells #[.string ⟨B[i].1.toArray⟩,.string ⟨B[i].2.toArray⟩] t'))):=fun t t'=>(HK.out.below (bel1 wr _)).below (bel1 _ _)
    have hS':R=if ordB A[i] B[i]≠0 then ordB A[i] B[i] else ordL (A.drop (i+1)) (B.drop (i+1)):=hS
    have HC2:Hid (∀ (W:World),Calls Tryz.prog 115 #[.agg #[.string ⟨A[i].1.toArray⟩,.string ⟨A[i].2.toArray⟩],.agg #[.string ⟨B[i].1.toArray⟩,.string ⟨B[i].2.toArray⟩]] W fun r w'=>r=.returned (.int .i64 (ordB A[i] B[i]))∧Below W.heap.size W w'):=HC1.out
    clear hS HC HC1 HKn
    generalize ordB A[i] B[i]=bz at *
    generalize A[i].1=x1 at *
    generalize A[i].2=x2 at *
    generalize B[i].1=y1 at *
    generalize B[i].2=y2 at *
    by_cases e2:bz=0
    ·subst e2
     rw [if_neg (by decide)] at hS'
     have HF:Hid _:=hS'
     clear hS' HK
     as_aux_lemma =>
      go_wp2_with fail
      refine (HC2.out _).mono ?_
      rintro e w1 ⟨rfl,hb⟩
      have HK5:Hid _:=(HKm.out _ _).below hb
      clear HC2 HKm hb n1 n2
      go_wp2_with fail
      exact ⟨⟨i+1,by omega,by omega,by go_num,HF,HK5⟩,by simp [intOf];omega⟩
    ·have e2':(bz != 0)=true:=by simpa using e2
     rw [if_pos e2] at hS'
     have HF:Hid _:=hS'
     clear hS' e2 HK
     as_aux_lemma =>
      go_wp2_with fail
      refine (HC2.out _).mono ?_
      rintro e w1 ⟨rfl,hb⟩
      have hbl:=((HKm.out _ _).below hb).bl
      clear HC2 HKm hb n1 n2
      go_wp2_with fail
      go_ret
      exact ⟨retI HF.out.symm,hbl⟩
   ·have hlb':(B.length:Int)≤(i:Int):=by omega
    have hBn:B.drop i=[]:=List.drop_eq_nil_of_le (by omega)
    rw [hBn,ordL] at hS
    have HF:Hid _:=hS
    have HB1:Hid (∀ o,Below w.heap.size w (wr.alloc o)):=fun o=>HK.out.bl.trans ((bel1 wr o).mono HK.out.bl.size)
    clear hS HC HK
    as_aux_lemma =>
     go_wp2_with fail
     go_ret
     exact ⟨retI HF.out.symm,HB1.out _⟩
  ·have hlt':¬ (i:Int) < (A.length:Int):=by omega
   have hS:=HR.out
   rw [List.drop_eq_nil_of_le (by omega)] at hS
   have hbl:=HK.out.bl
   clear HR HK HC
   by_cases z:A.length < B.length
   ·have z':(A.length:Int) < (B.length:Int):=by omega
    have HF:Hid (R=-1):=by
     show R=-1
     rw [hS,List.drop_eq_getElem_cons (show i < B.length by omega),ordL]
    clear hS
    as_aux_lemma =>
     go_wp2_with fail
     go_ret
     exact ⟨retI HF.out.symm,hbl⟩
   ·have z':¬ (A.length:Int) < (B.length:Int):=by omega
    have HF:Hid (R=0):=by
     show R=0
     rw [hS,List.drop_eq_nil_of_le (by omega),ordL]
    clear hS
    as_aux_lemma =>
     go_wp2_with fail
     go_ret
     exact ⟨retI HF.out.symm,hbl⟩
theorem ccompare_any (d e:Ds) (v u:Value) (w:World) (hd:DsC w d v) (he:DsC w e u) :
  Calls Tryz.prog 79 #[v,u] w fun r w'=>r=.returned (.int .i64 (ordD d e))∧Below w.heap.size w w':=by
 obtain ⟨ao,b,o,cap,rfl,h1,h2,h3,h4⟩:=hd
 obtain ⟨ao',b',o',cap',rfl,k1,k2,k3,k4⟩:=he
 obtain ⟨kd,n,h,A⟩:=d
 obtain ⟨kd',n',h',B⟩:=e
 simp only at *
 have H1:Hid _:=fun W=>cmp_any n n' W
 have H2:Hid (∀ W,RowL W b o A→RowL W b' o' B→Calls Tryz.prog 114 #[.slice ao A.length cap,.slice ao' B.length cap',.func (.func 115) #[] #[]] W fun e w'=>e=.returned (.int .i64 (ordL A B))∧Below W.heap.size W w'):=fun W g1 g2=>cmpf_any ao b o cap A h1 ao' b' o' cap' B k1 (by omega) (by omega) W g1 g2
 have HA:Hid (RowL w b o A):=h4
 have HB:Hid (RowL w b' o' B):=k4
 unfold ordD
 simp only
 generalize ordE n n'=z1 at *
 generalize ordL A B=z2 at *
 clear h1 h2 h3 h4 k1 k2 k3 k4
 by_cases e1:z1=0
 ·subst e1
  rw [if_neg (by decide)]
  as_aux_lemma =>
   go_enter Tryz.func79,Tryz.ntmps79
   go_wp2_with (go_at_call 113;refine (H1.out _).mono ?_;rintro e1 w1 ⟨rfl,rfl⟩)
   refine (H2.out _ (RowL.below HA.out (bel2 w _ _)) (RowL.below HB.out (bel2 w _ _))).mono ?_
   rintro e1 w1 ⟨rfl,hb⟩
   have hb0:Below w.heap.size w w1:=(bel2 w _ _).trans (hb.mono (by simp;omega))
   go_wp2_with fail
   go_ret
   exact ⟨rfl,hb0⟩
 ·rw [if_pos e1]
  have e1':(z1 != 0)=true:=by simpa using e1
  clear e1 H2 HA HB
  as_aux_lemma =>
   go_enter Tryz.func79,Tryz.ntmps79
   go_wp2_with (go_at_call 113;refine (H1.out _).mono ?_;rintro e1 w1 ⟨rfl,rfl⟩)
   go_ret
   exact ⟨rfl,bel2 w _ _⟩
theorem csamel_any (ao:Option Addr) (b o cap:Nat) (A:List Lb) (hao:A≠[]→ao=some ⟨b,o,none⟩) (ao':Option Addr) (b' o' cap':Nat) (C:List Lb) (hao':C≠[]→ao'=some ⟨b',o',none⟩) (hl:A.length≤9223372036854775807) (w:World) (hA:RowL w b o A) (hC:RowL w b' o' C) :
  Calls Tryz.prog 60 #[.slice ao A.length cap,.slice ao' C.length cap'] w fun e w'=>e=.returned (.bool (decide (A=C)))∧∃ n,w'=w.drewN n:=by
 by_cases hlen:A.length=C.length
 ·have ht:((A.length:Int) != (C.length:Int))=false:=by rw [bne_eq_false_iff_eq];omega
  have HL:Hid _:=hlen
  have HA:Hid _:=hA
  have HC:Hid _:=hC
  clear hlen hA hC
  go_enter Tryz.func60,Tryz.ntmps60
  go_wp2_with fail
  go_loopw [13] (fun c wr=>∃ i n:Nat,i≤A.length∧c=.int .i64 (i:Int)∧wr=w.drewN n∧Hid (A.take i=C.take i)) (fun c _=>A.length - (intOf c).toNat)
  case atStart=>exact ⟨0,0,by omega,rfl,rfl,by simp [Hid]⟩
  case round =>
   obtain ⟨i,n,hi,rfl,rfl,hE⟩:=hrel
   by_cases hlt:i < A.length
   ·have hlt2:i < C.length:=by have:=HL.out;omega
    obtain rfl:=hao (by intro e;rw [e] at hlt;simp at hlt)
    obtain rfl:=hao' (by intro e;rw [e] at hlt2;simp at hlt2)
    have hlt':(i:Int) < (A.length:Int):=by omega
    have hlt2':(i:Int) < (C.length:Int):=by omega
    obtain ⟨q1,q2⟩:=HA.out i hlt
    obtain ⟨q3,q4⟩:=HC.out i hlt2
    have HT1:Hid (A.take (i+1)=A.take i++[A[i]]):=List.take_succ_eq_append_getElem hlt
    have HT2:Hid (C.take (i+1)=C.take i++[C[i]]):=List.take_succ_eq_append_getElem hlt2
    have HN:Hid (A[i]≠C[i]→A≠C):=fun h e=>h (by subst e;rfl)
    obtain ⟨x,y,hxy⟩:∃ x y,A[i]=(x,y):=⟨_,_,rfl⟩
    obtain ⟨u,v,huv⟩:∃ u v,C[i]=(u,v):=⟨_,_,rfl⟩
    rw [hxy] at q1 q2 HT1 HN
    rw [huv] at q3 q4 HT2 HN
    clear hxy huv
    by_cases he:x=u∧y=v
    ·obtain ⟨rfl,rfl⟩:=he
     clear HN
     as_aux_lemma =>
      go_wp2_with fail
      go_region
      go_wp2_with fail
      exact ⟨⟨i+1,n+1,by omega,by go_num,rfl,by unfold Hid;rw [HT1.out,HT2.out,hE.out]⟩,by simp [intOf];omega⟩
    ·have hne:decide (A=C)=false:=decide_eq_false (HN.out (fun e=>he ⟨(Prod.mk.inj e).1,(Prod.mk.inj e).2⟩))
     have HNE:Hid _:=hne
     have hor:(x == u)=false∨(x=u∧(y == v)=false):=by
      by_cases h1:x=u
      ·right
       exact ⟨h1,by simpa using fun h2=>he ⟨h1,h2⟩⟩
      ·left
       simpa using h1
     clear he hne HN HT1 HT2 hE
     rcases hor with h1 | ⟨rfl,h1⟩
     ·as_aux_lemma =>
       go_wp2_with fail
       go_region
       go_wp2_with fail
       go_ret
       exact ⟨retB HNE.out.symm,n+1,rfl⟩
     ·as_aux_lemma =>
       go_wp2_with fail
       go_region
       go_wp2_with fail
       go_ret
       exact ⟨retB HNE.out.symm,n+1,rfl⟩
   ·obtain rfl:i=A.length:=by omega
    have hlt':¬ (A.length:Int) < (A.length:Int):=by omega
    have he:decide (A=C)=true:=by
     have:=hE.out
     rw [List.take_length,HL.out,List.take_length] at this
     exact decide_eq_true this
    have HE:Hid _:=he
    clear he
    as_aux_lemma =>
     go_wp2_with fail
     go_ret
     exact ⟨retB HE.out.symm,n,rfl⟩
 ·have ht:((A.length:Int) != (C.length:Int))=true:=by rw [bne_iff_ne];omega
  have he:decide (A=C)=false:=decide_eq_false (fun e=>hlen (by rw [e]))
  rw [he]
  clear he hlen hA hC
  as_aux_lemma =>
   go_enter Tryz.func60,Tryz.ntmps60
   go_wp2_with fail
   go_ret
   exact ⟨rfl,0,rfl⟩
theorem csame_any (d e:Ds) (v u:Value) (w:World) (hd:DsAt w d v) (he:DsAt w e u) :
  Calls Tryz.prog 31 #[v,u] w fun r w'=>r=.returned (.bool (decide (d=e)))∧Below w.heap.size w w':=by
 obtain ⟨ao,b,o,cap,rfl,h1,h2,h3⟩:=hd.ex
 obtain ⟨ao',b',o',cap',rfl,k1,k2,k3⟩:=he.ex
 obtain ⟨kd,n,h,L⟩:=d
 obtain ⟨kd',n',h',L'⟩:=e
 have HSL:Hid (∀ W,Below w.heap.size w W→Calls Tryz.prog 60 #[.slice ao L.length cap,.slice ao' L'.length cap'] W fun e w'=>e=.returned (.bool (decide (L=L')))∧∃ n,w'=W.drewN n):=fun W hb=>csamel_any ao b o cap L h1 ao' b' o' cap' L' k1 h2 W (h3.below hb) (k3.below hb)
 clear h1 h2 h3 k1 k2 k3 hd he
 by_cases g1:kd=kd'
 ·subst g1
  by_cases g2:n=n'
  ·subst g2
   by_cases g3:h=h'
   ·subst g3
    have hE:decide ((⟨kd,n,h,L⟩:Ds)=⟨kd,n,h,L'⟩)=decide (L=L'):=decide_eq_decide.2 ⟨fun e=>(Ds.mk.inj e).2.2.2,fun e=>by rw [e]⟩
    have HE:Hid _:=hE
    clear hE
    as_aux_lemma =>
     go_enter Tryz.func31,Tryz.ntmps31
     go_wp2_with fail
     refine (HSL.out _ (bel2 w _ _)).mono ?_
     rintro r w1 ⟨rfl,m,rfl⟩
     go_wp2_with fail
     go_ret
     exact ⟨retB HE.out.symm,(bel2 w _ _).trans ((below_drewN _ m).mono (bel2 w _ _).size)⟩
   ·have g3':(h == h')=false:=by simpa using g3
    rw [show decide ((⟨kd,n,h,L⟩:Ds)=⟨kd,n,h',L'⟩)=false from decide_eq_false (fun e=>g3 (Ds.mk.inj e).2.2.1)]
    clear g3
    as_aux_lemma =>
     go_enter Tryz.func31,Tryz.ntmps31
     go_wp2_with fail
     go_ret
     exact ⟨rfl,bel2 w _ _⟩
  ·have g2':(n == n')=false:=by simpa using g2
   rw [show decide ((⟨kd,n,h,L⟩:Ds)=⟨kd,n',h',L'⟩)=false from decide_eq_false (fun e=>g2 (Ds.mk.inj e).2.1)]
   clear g2
   as_aux_lemma =>
    go_enter Tryz.func31,Tryz.ntmps31
    go_wp2_with fail
    go_ret
    exact ⟨rfl,bel2 w _ _⟩
 ·have g1':(kd == kd')=false:=by simpa using g1
  rw [show decide ((⟨kd,n,h,L⟩:Ds)=⟨kd',n',h',L'⟩)=false from decide_eq_false (fun e=>g1 (Ds.mk.inj e).1)]
  clear g1
  as_aux_lemma =>
   go_enter Tryz.func31,Tryz.ntmps31
   go_wp2_with fail
   go_ret
   exact ⟨rfl,bel2 w _ _⟩
structure BS (B k:Nat) (w0:World) (l:List UInt8) (W:World):Prop where
 ib:Lib.IsBuilderF 124 5 B k (Lib.byteCells l) W
 bl:Below B w0 W
 ok:Lib.OthersKept 5 (some k) w0 W
 sz:B≤W.heap.size
def HidC (P:Program) (f:FuncId) (args:Array Value) (w:World) (Q:Ending→World→Prop):Prop:=Calls P f args w Q
theorem HidC.out {P:Program} {f:FuncId} {args:Array Value} {w:World} {Q:Ending→World→Prop} (h:HidC P f args w Q):Calls P f args w Q:=h
theorem wb_any {B k:Nat} {w0 w:World} {l:List UInt8} (b:UInt8) (h:BS B k w0 l w) (hl:l.length+1≤140737488355328) :
  Calls Tryz.prog 130 #[.pointer (some ⟨k,0,none⟩),.int .u8 (b.toNat:Int)] w fun e w'=>e=.returned .nilIface∧BS B k w0 (l++[b]) w':=by
 refine (Tryz.wbyte B k (Lib.byteCells l) (b.toNat:Int) w h.ib (by rw [Lib.byteCells_length];exact hl) h.sz).mono ?_
 rintro e w' ⟨rfl,h1,h2,h3⟩
 exact ⟨rfl,by rw [Lib.byteCells_append];exact Or.inr h1,h.bl.trans h2,h.ok.trans h3,Nat.le_trans h.sz h2.size⟩
theorem ws_any {B k:Nat} {w0 w:World} {l:List UInt8} (s:List UInt8) (h:BS B k w0 l w) (hl:l.length+s.length≤140737488355328) :
  Calls Tryz.prog 128 #[.pointer (some ⟨k,0,none⟩),.string ⟨s.toArray⟩] w fun e w'=>e=.returned (.tuple #[.int .i64 (s.length:Int),.nilIface])∧BS B k w0 (l++s) w':=by
 have hsz:(ByteArray.mk s.toArray).size=s.length:=by show s.toArray.size=_;simp
 have:=Tryz.wstring B k (Lib.byteCells l) ⟨s.toArray⟩ w h.ib (by rw [Lib.byteCells_length,hsz];exact hl) h.sz
 rw [hsz,Lib.strCells_eq] at this
 refine this.mono ?_
 rintro e w' ⟨rfl,h1,h2,h3⟩
 exact ⟨rfl,by rw [Lib.byteCells_append];exact Or.inr h1,h.bl.trans h2,h.ok.trans h3,Nat.le_trans h.sz h2.size⟩
theorem bstr_any {B k:Nat} {w0 w:World} {l:List UInt8} (h:BS B k w0 l w) :
  Calls Tryz.prog 90 #[.pointer (some ⟨k,0,none⟩)] w fun e w'=>e=.returned (.string ⟨l.toArray⟩)∧BS B k w0 l w':=by
 refine (Tryz.Builder_String_any_k B k l w h.ib h.sz).mono ?_
 rintro e w' ⟨rfl,h1,h2,h3⟩
 exact ⟨rfl,h1,h.bl.trans h2,h.ok.trans h3,Nat.le_trans h.sz h2.size⟩
theorem BS.new (w:World):BS w.heap.size w.heap.size w [] (w.alloc (.cells #[.pointer none,.slice none 0 0] 124)) :=
 ⟨Lib.IsBuilderF.of (Lib.fresh_isBuilder _ _ w),bel1 w _,(Lib.OthersKept.refl _ _ _).alloc _,by simp⟩
def spc (q:Bool):List UInt8:=if q then [92,34] else [92]
theorem idx_spc (q:Bool) (b:UInt8):(0:Int)≤Lib.indexByte (spc q) b ↔ (b.toNat=92∨q=true∧b.toNat=34):=by
 have n1:∀ (x y:UInt8),x=y ↔ x.toNat=y.toNat:=fun x y=>⟨fun e=>by rw [e],fun e=>UInt8.toNat_inj.1 e⟩
 have e1:(92:UInt8)=b ↔ b.toNat=92:=by rw [n1];exact eq_comm
 have e2:(34:UInt8)=b ↔ b.toNat=34:=by rw [n1];exact eq_comm
 cases q
 ·show 0≤Lib.indexByte [92] b ↔ _
  simp only [Lib.indexByte,beq_iff_eq,e1]
  split <;> rename_i h <;> simp [h]
 ·show 0≤Lib.indexByte [92,34] b ↔ _
  simp only [Lib.indexByte,beq_iff_eq,e1,e2]
  split <;> rename_i h
  ·simp [h]
  ·split <;> rename_i h2
   ·simp only [h2];decide
   ·simp [h,h2]
theorem idx_any (q:Bool) (b:UInt8) (w:World) :
  Calls Tryz.prog 129 #[.string ⟨(spc q).toArray⟩,.int .u8 (b.toNat:Int)] w fun e w'=>e=.returned (.int .i64 (Lib.indexByte (spc q) b))∧w'=w:=by
 have h:=Tryz.strings_IndexByte ⟨(spc q).toArray⟩ (b.toNat:Int) w
 have hb:((b.toNat:Int).toNat).toUInt8=b:=by simp
 rw [hb] at h
 exact h
def EsI (q:Bool) (T:List UInt8) (l:List UInt8) (i:Nat) (acc:List UInt8):Prop:=T=acc++escL q (l.drop i)
theorem EsI.step {q:Bool} {T l:List UInt8} {i:Nat} {acc:List UInt8} (h:EsI q T l i acc) (hi:i < l.length):EsI q T l (i+1) (acc++esc1 q l[i]):=by
 unfold EsI at *
 rw [h,escL_drop q l i hi,List.append_assoc]
theorem EsI.len {q:Bool} {T l:List UInt8} {i:Nat} {acc:List UInt8} (h:EsI q T l i acc):acc.length≤T.length:=by
 rw [h,List.length_append];omega
theorem cesc_any (q:Bool) (B k:Nat) (w0:World) (pre l:List UInt8) (hT:pre.length+(escL q l).length≤140737488355328) (hl:l.length≤9223372036854775807) (w:World) (hB:BS B k w0 pre w) :
  Calls Tryz.prog 89 #[.pointer (some ⟨k,0,none⟩),.string ⟨l.toArray⟩,.string ⟨(spc q).toArray⟩] w fun r w'=>r=.returned (.tuple #[])∧BS B k w0 (pre++escL q l) w':=by
 obtain ⟨T,hTT⟩:∃ T,T=pre++escL q l:=⟨_,rfl⟩
 rw [← hTT]
 have hTl:T.length≤140737488355328:=by rw [hTT,List.length_append];exact hT
 have HS0:Hid (EsI q T l 0 pre):=hTT
 have HB0:Hid (BS B k w0 pre w):=hB
 have HW:Hid (∀ (W:World) (acc:List UInt8) (b:UInt8),BS B k w0 acc W→acc.length+1≤140737488355328→Calls Tryz.prog 130 #[.pointer (some ⟨k,0,none⟩),.int .u8 (b.toNat:Int)] W fun e w'=>e=.returned .nilIface∧BS B k w0 (acc++[b]) w'):=fun W acc b h1 h2=>wb_any b h1 h2
 have HN:Hid (∀ (W:World) (acc:List UInt8),BS B k w0 acc W→acc.length+2≤140737488355328→Calls Tryz.prog 128 #[.pointer (some ⟨k,0,none⟩),.string ⟨#[92,110]⟩] W fun e w'=>e=.returned (.tuple #[.int .i64 2,.nilIface])∧BS B k w0 (acc++[92,110]) w'):=fun W acc h1 h2=>ws_any [92,110] h1 h2
 have HX:Hid (∀ (b:UInt8) (W:World),Calls Tryz.prog 129 #[.string ⟨(spc q).toArray⟩,.int .u8 (b.toNat:Int)] W fun e w'=>e=.returned (.int .i64 (Lib.indexByte (spc q) b))∧w'=W):=fun b W=>idx_any q b W
 clear hT hTT hB
 have HQ:Hid (∀ b:UInt8,(0:Int)≤Lib.indexByte (spc q) b ↔ (b.toNat=92∨q=true∧b.toNat=34)):=fun b=>idx_spc q b
 generalize hsp:spc q=sp at *
 clear hsp
 go_enter Tryz.func89,Tryz.ntmps89
 go_wp2_with fail
 go_loopw [10] (fun a W=>∃ (i:Nat) (acc:List UInt8),i≤l.length∧a=.int .i64 (i:Int)∧Hid (EsI q T l i acc)∧Hid (BS B k w0 acc W)) (fun a _=>l.length - (intOf a).toNat)
 case atStart=>exact ⟨0,pre,by omega,rfl,HS0,HB0⟩
 case round =>
  clear HS0 HB0
  obtain ⟨i,acc,hi,rfl,HI,HB⟩:=hrel
  by_cases hlt:i < l.length
  ·have hlt':(i:Int) < (l.length:Int):=by omega
   have hBy:i < (ByteArray.mk l.toArray).size:=by show i < l.toArray.size;simpa using hlt
   have HI':=HI.out.step hlt
   have hln:=HI'.len
   have hbe:(ByteArray.mk l.toArray)[i]'hBy=l[i]:=rfl
   unfold esc1 at HI' hln
   by_cases g1:l[i].toNat=10
   ·have t1:((((ByteArray.mk l.toArray)[i]'hBy).toNat:Int) == 10)=true:=by rw [beq_iff_eq,hbe];omega
    rw [if_neg (by omega),if_pos g1] at HI' hln
    have HI2:Hid _:=HI'
    have HC:HidC _ _ _ _ _:=HN.out wr acc HB.out (by simp at hln;omega)
    clear HI HI' g1 hbe HN HW HX HQ HB hln
    as_aux_lemma =>
     go_wp2_with fail
     refine (HC.out).mono ?_
     rintro e w1 ⟨rfl,hb⟩
     have HBn:Hid _:=hb
     clear HC hb
     go_wp2_with fail
     exact ⟨⟨i+1,_,by omega,by go_num,HI2,HBn⟩,by simp [intOf];omega⟩
   ·have t1:((((ByteArray.mk l.toArray)[i]'hBy).toNat:Int) == 10)=false:=by rw [beq_eq_false_iff_ne,hbe];omega
    have HX1:Hid _:=HX.out ((ByteArray.mk l.toArray)[i]'hBy)
    have hq:=HQ.out ((ByteArray.mk l.toArray)[i]'hBy)
    rw [hbe] at hq
    by_cases g2:l[i].toNat=92∨q=true∧l[i].toNat=34
    ·rw [if_pos g2] at HI' hln
     have HI2:Hid (EsI q T l (i+1) (acc++[92]++[(ByteArray.mk l.toArray)[i]'hBy])):=by rw [List.append_assoc];exact HI'
     have t2:=hq.2 g2
     simp at hln
     have HC:HidC Tryz.prog 130 #[.pointer (some ⟨k,0,none⟩),.int .u8 92] wr (fun e w'=>e=.returned .nilIface∧BS B k w0 (acc++[92]) w'):=HW.out wr acc 92 HB.out (by omega)
     have HC2:Hid (∀ W,BS B k w0 (acc++[92]) W→Calls Tryz.prog 130 #[.pointer (some ⟨k,0,none⟩),.int .u8 ((((ByteArray.mk l.toArray)[i]'hBy).toNat:Nat):Int)] W fun e w'=>e=.returned .nilIface∧BS B k w0 (acc++[92]++[(ByteArray.mk l.toArray)[i]'hBy]) w'):=fun W h=>HW.out W (acc++[92]) _ h (by simp;omega)
     rw [hbe] at HX1 HI2 HC2
     generalize Lib.indexByte sp l[i]=z at *
     clear HI HI' g1 g2 HN HW HX HQ HB hln hq hbe
     as_aux_lemma =>
      go_wp2_with (go_at_call 129;refine (HX1.out _).mono ?_;rintro e1 w1 ⟨rfl,rfl⟩)
      refine (HC.out).mono ?_
      rintro e w1 ⟨rfl,hb⟩
      have HC3:HidC _ _ _ _ _:=HC2.out w1 hb
      clear HC HC2 hb
      go_wp2_with fail
      refine (HC3.out).mono ?_
      rintro e w2 ⟨rfl,hb⟩
      have HBn:Hid _:=hb
      clear HC3 hb
      go_wp2_with fail
      exact ⟨⟨i+1,_,by omega,by go_num,HI2,HBn⟩,by simp [intOf];omega⟩
    ·rw [if_neg g2,if_neg g1] at HI' hln
     have HI2:Hid (EsI q T l (i+1) (acc++[(ByteArray.mk l.toArray)[i]'hBy])):=HI'
     have t2:¬ (0:Int)≤Lib.indexByte sp l[i]:=fun h=>g2 (hq.1 h)
     simp at hln
     have HC:HidC Tryz.prog 130 #[.pointer (some ⟨k,0,none⟩),.int .u8 ((((ByteArray.mk l.toArray)[i]'hBy).toNat:Nat):Int)] wr (fun e w'=>e=.returned .nilIface∧BS B k w0 (acc++[(ByteArray.mk l.toArray)[i]'hBy]) w'):=HW.out wr acc _ HB.out (by omega)
     rw [hbe] at HX1 HI2 HC
     generalize Lib.indexByte sp l[i]=z at *
     clear HI HI' g1 g2 HN HW HX HQ HB hln hq hbe
     as_aux_lemma =>
      go_wp2_with (go_at_call 129;refine (HX1.out _).mono ?_;rintro e1 w1 ⟨rfl,rfl⟩)
      refine (HC.out).mono ?_
      rintro e w1 ⟨rfl,hb⟩
      have HBn:Hid _:=hb
      clear HC hb
      go_wp2_with fail
      exact ⟨⟨i+1,_,by omega,by go_num,HI2,HBn⟩,by simp [intOf];omega⟩
  ·have hlt':¬ (i:Int) < (l.length:Int):=by omega
   have HE:Hid (BS B k w0 T wr):=by
    have:=HI.out
    unfold EsI at this
    rw [List.drop_eq_nil_of_le (by omega),escL,List.append_nil] at this
    rw [this]
    exact HB.out
   clear HI HB HN HW HX HQ
   as_aux_lemma =>
    go_wp2_with fail
    refine bodyPost_end (results_none rfl _ _ _) rfl ?_
    exact ⟨rfl,HE.out⟩
theorem chelp_any (l:List UInt8) (hT:(escL false l).length≤140737488355328) (hl:l.length≤9223372036854775807) (w:World) :
  Calls Tryz.prog 51 #[.string ⟨l.toArray⟩] w fun r w'=>r=.returned (.string ⟨(escL false l).toArray⟩)∧Below w.heap.size w w':=by
 have HE:Hid (∀ W,BS w.heap.size w.heap.size w [] W→Calls Tryz.prog 89 #[.pointer (some ⟨w.heap.size,0,none⟩),.string ⟨l.toArray⟩,.string ⟨#[92]⟩] W fun r w'=>r=.returned (.tuple #[])∧BS w.heap.size w.heap.size w (escL false l) w'):=fun W h=>cesc_any false _ _ w [] l (by simpa using hT) hl W h
 have HN:Hid _:=BS.new w
 go_enter Tryz.func51,Tryz.ntmps51
 go_wp2_with fail
 refine (HE.out _ HN.out).mono ?_
 rintro e w1 ⟨rfl,hb⟩
 have HS:HidC _ _ _ _ _:=bstr_any hb
 clear HE HN hb
 go_wp2_with fail
 refine (HS.out).mono ?_
 rintro e w2 ⟨rfl,hb⟩
 have hbl:=hb.bl
 clear hb HS
 go_wp2_with fail
 go_ret
 exact ⟨rfl,hbl⟩
theorem BS.re {B k:Nat} {w0 W:World} {l:List UInt8} (h:BS B k w0 l W):BS B k W l W:=⟨h.ib,Below.refl _ _,Lib.OthersKept.refl _ _ _,h.sz⟩
theorem BS.then {B k:Nat} {w0 W W1:World} {l l1:List UInt8} (h:BS B k w0 l W) (h1:BS B k W l1 W1):BS B k w0 l1 W1:=⟨h1.ib,h.bl.trans h1.bl,h.ok.trans h1.ok,h1.sz⟩
theorem BS.alloc {B k:Nat} {w0 W:World} {l:List UInt8} (h:BS B k w0 l W) (o:Obj):BS B k w0 l (W.alloc o):=⟨h.ib.alloc o,h.bl.alloc h.sz o,h.ok.alloc o,by have:=h.sz;simp;omega⟩
theorem BS.lt {B k:Nat} {w0 W:World} {l:List UInt8} (h:BS B k w0 l W):k < W.heap.size:=by
 rcases h.ib with g | g
 ·exact g.lt
 ·exact g.lt
theorem BS.cells {B k g:Nat} {W W1:World} {l:List UInt8} {cs:Array Value} {t:TypeId} (h:BS B k W l W1) (hg:W.heap[g]? =some (.cells cs t)) (hk:g≠k) (ht:t≠5):W1.heap[g]? =some (.cells cs t) :=
 h.ok g _ hg (fun e=>hk (Option.some.inj e)) (fun c fz e=>ht (by injection e))
structure KP (w:World) (b o:Nat) (A:List Lb) (acc:List UInt8) (W:World):Prop where
 r:RowL W b o A
 s:BS w.heap.size w.heap.size w acc W
theorem rowL_bel {w W W1:World} {b o:Nat} {A:List Lb} (h:RowL W b o A) (hw:RowL w b o A) (hb:Below w.heap.size W W1):RowL W1 b o A:=fun i hi=>by
 obtain ⟨h1,h2⟩:=h i hi
 obtain ⟨k1,k2⟩:=hw i hi
 exact ⟨(hb.cell (lt_of_cell k1)).trans h1,(hb.cell (lt_of_cell k2)).trans h2⟩
theorem one_cells {W:World} {g:Nat} {x y:Value} {t:TypeId} (h:W.heap[g]? =some (.cells #[x,y] t)):W.cell? ⟨g,0,none⟩=some x∧W.cell? ⟨g,1,none⟩=some y:=by
 constructor <;> simp [World.cell?,h]
theorem cprint_any (n:List UInt8) (ao:Option Addr) (b o cap:Nat) (A:List Lb) (hao:A≠[]→ao=some ⟨b,o,none⟩) (hl:A.length≤9223372036854775807) (hv:∀ a ∈ A,a.2.length≤9223372036854775807) (hT:(printT n A).length≤140737488355328) (w:World) (hR:RowL w b o A) :
  Calls Tryz.prog 121 #[.string ⟨n.toArray⟩,.slice ao A.length cap] w fun r w'=>r=.returned (.string ⟨(printT n A).toArray⟩)∧Below w.heap.size w w':=by
 have hP:printT n A=n++prB true A++(if A.length=0 then [] else [125]):=rfl
 obtain ⟨R,hR0⟩:∃ R,R=n++prB true A:=⟨_,rfl⟩
 rw [← hR0] at hP
 rw [hP] at hT
 obtain ⟨T,hTT⟩:∃ T,T=printT n A:=⟨_,rfl⟩
 rw [← hTT]
 have HTT:Hid (T=R++(if A.length=0 then [] else [125])):=by show T=_;rw [hTT,hP]
 clear hTT
 have hRl:R.length≤140737488355328:=by rw [List.length_append] at hT;omega
 have hRn:n.length≤R.length:=by rw [hR0,List.length_append];omega
 have HT:Hid ((R++(if A.length=0 then [] else [125])).length≤140737488355328):=hT
 have HR0:Hid (R=n++prB (decide (0=0)) (A.drop 0)):=hR0
 have HN:Hid (∀ W,BS w.heap.size w.heap.size w [] W→Calls Tryz.prog 128 #[.pointer (some ⟨w.heap.size,0,none⟩),.string ⟨n.toArray⟩] W fun e w'=>e=.returned (.tuple #[.int .i64 (n.length:Int),.nilIface])∧BS w.heap.size w.heap.size w n w'):=fun W h=>ws_any n h (by simp;omega)
 have HB0:Hid _:=BS.new w
 have HV:Hid _:=hv
 have HRw:Hid (RowL w b o A):=hR
 clear hR hP hR0 hv hT
 go_enter Tryz.func121,Tryz.ntmps121
 go_wp2_with fail
 refine (HN.out _ HB0.out).mono ?_
 rintro e w1 ⟨rfl,hb⟩
 clear HN HB0
 by_cases z:A.length=0
 ·have z':((A.length:Int) == 0)=true:=by rw [beq_iff_eq];omega
  have HF:Hid (T=n):=by
   show T=n
   rw [HTT.out,if_pos z,HR0.out,List.drop_zero,List.length_eq_zero_iff.1 z,prB]
   simp
  have HS:HidC _ _ _ _ _:=bstr_any hb
  clear HTT HR0 HT HV HRw hb z
  as_aux_lemma =>
   go_wp2_with fail
   refine (HS.out).mono ?_
   rintro e w2 ⟨rfl,hb⟩
   have hbl:=hb.bl
   clear hb HS
   go_wp2_with fail
   go_ret
   exact ⟨congrArg (fun z:List UInt8=>Ending.returned (Value.string ⟨z.toArray⟩)) HF.out.symm,hbl⟩
 have z':((A.length:Int) == 0)=false:=by rw [beq_eq_false_iff_ne];omega
 have HK0:Hid (KP w b o A n w1):=⟨RowL.below HRw.out hb.bl,hb⟩
 obtain rfl:=hao (fun e=>z (by rw [e];rfl))
 have HTT2:Hid (T=R++[125]):=by show T=_;rw [HTT.out,if_neg z]
 have hT2:R.length+1≤140737488355328:=by have:=HT.out;rw [if_neg z,List.length_append] at this;exact this
 clear hb HTT HT z hao
 go_wp2_with fail
 go_loopw [6,17] (fun v a W=>∃ (i:Nat) (acc:List UInt8),i≤A.length∧a=.int .i64 (i:Int)∧v=.string ⟨#[if decide (i=0) then 123 else 44]⟩∧Hid (R=acc++prB (decide (i=0)) (A.drop i))∧Hid (KP w b o A acc W)) (fun _ a _=>A.length - (intOf a).toNat)
 case atStart=>exact ⟨0,n,by omega,rfl,rfl,HR0,HK0⟩
 case round =>
  clear HR0 HK0
  obtain ⟨i,acc,hi,rfl,rfl,HR,HK⟩:=hrel
  by_cases hlt:i < A.length
  ·have hlt':(i:Int) < (A.length:Int):=by omega
   obtain ⟨q1,q2⟩:=HK.out.r i hlt
   have hS:=HR.out
   rw [prB_drop _ A i hlt] at hS
   have hlb:lbT A[i]=A[i].1++[61,34]++escL true A[i].2++[34]:=rfl
   rw [hlb] at hS
   obtain ⟨c,hc⟩:∃ c:UInt8,c=if decide (i=0) then 123 else 44:=⟨_,rfl⟩
   rw [← hc] at hS ⊢
   clear hc
   have hlen:=congrArg List.length hS
   simp only [List.length_append,List.length_cons,List.length_nil] at hlen
   have HF:Hid (R=acc++[c]++A[i].1++[61,34]++escL true A[i].2++[34]++prB (decide (i+1=0)) (A.drop (i+1))):=by
    show R=_
    rw [hS,decide_eq_false (by omega)]
    simp
   have m2:=HV.out A[i] (List.getElem_mem hlt)
   obtain ⟨W0,hW0⟩:∃ W0,W0=wr.alloc (.cells #[.string ⟨A[i].1.toArray⟩,.string ⟨A[i].2.toArray⟩] 85):=⟨_,rfl⟩
   have hsB:BS w.heap.size w.heap.size w acc W0:=by rw [hW0];exact HK.out.s.alloc _
   have hgt:wr.heap.size≠w.heap.size:=by have:=HK.out.s.lt;omega
   have hone:W0.heap[wr.heap.size]? =some (.cells #[.string ⟨A[i].1.toArray⟩,.string ⟨A[i].2.toArray⟩] 85):=by rw [hW0];show (wr.heap.push _)[wr.heap.size]? =_;simp
   have hrow:RowL W0 b o A:=by rw [hW0];exact HK.out.r.below (bel1 wr _)
   have C1:HidC Tryz.prog 128 #[.pointer (some ⟨w.heap.size,0,none⟩),.string ⟨#[c]⟩] W0 (fun e w'=>e=.returned (.tuple #[.int .i64 1,.nilIface])∧BS w.heap.size w.heap.size W0 (acc++[c]) w'):=ws_any [c] hsB.re (by simp;omega)
   have C2:Hid (∀ W,BS w.heap.size w.heap.size W0 (acc++[c]) W→Calls Tryz.prog 128 #[.pointer (some ⟨w.heap.size,0,none⟩),.string ⟨A[i].1.toArray⟩] W fun e w'=>e=.returned (.tuple #[.int .i64 (A[i].1.length:Int),.nilIface])∧BS w.heap.size w.heap.size W0 (acc++[c]++A[i].1) w'):=fun W h=>ws_any _ h (by simp;omega)
   have C3:Hid (∀ W,BS w.heap.size w.heap.size W0 (acc++[c]++A[i].1) W→Calls Tryz.prog 128 #[.pointer (some ⟨w.heap.size,0,none⟩),.string ⟨#[61,34]⟩] W fun e w'=>e=.returned (.tuple #[.int .i64 2,.nilIface])∧BS w.heap.size w.heap.size W0 (acc++[c]++A[i].1++[61,34]) w'):=fun W h=>ws_any [61,34] h (by simp;omega)
   have C4:Hid (∀ W,BS w.heap.size w.heap.size W0 (acc++[c]++A[i].1++[61,34]) W→Calls Tryz.prog 89 #[.pointer (some ⟨w.heap.size,0,none⟩),.string ⟨A[i].2.toArray⟩,.string ⟨#[92,34]⟩] W fun e w'=>e=.returned (.tuple #[])∧BS w.heap.size w.heap.size W0 (acc++[c]++A[i].1++[61,34]++escL true A[i].2) w'):=fun W h=>cesc_any true _ _ W0 _ A[i].2 (by simp;omega) m2 W h
   have C5:Hid (∀ W,BS w.heap.size w.heap.size W0 (acc++[c]++A[i].1++[61,34]++escL true A[i].2) W→Calls Tryz.prog 128 #[.pointer (some ⟨w.heap.size,0,none⟩),.string ⟨#[34]⟩] W fun e w'=>e=.returned (.tuple #[.int .i64 1,.nilIface])∧BS w.heap.size w.heap.size W0 (acc++[c]++A[i].1++[61,34]++escL true A[i].2++[34]) w'):=fun W h=>ws_any [34] h (by simp;omega)
   have HH:Hid (∀ W l,BS w.heap.size w.heap.size W0 l W→W.cell? ⟨wr.heap.size,0,none⟩=some (.string ⟨A[i].1.toArray⟩)∧W.cell? ⟨wr.heap.size,1,none⟩=some (.string ⟨A[i].2.toArray⟩)):=fun W l h=>one_cells (h.cells hone hgt (by decide))
   have HE:Hid (∀ W l,BS w.heap.size w.heap.size W0 l W→KP w b o A l W):=fun W l h=>⟨rowL_bel hrow HRw.out h.bl,hsB.then h⟩
   have HW0:Hid _:=hW0
   generalize escL true A[i].2=e2 at *
   generalize A[i].1=x1 at *
   generalize A[i].2=x2 at *
   clear HR HK HV HRw hS hlb hlen m2 hsB hgt hone hrow hW0
   as_aux_lemma =>
    go_wp2_with fail
    rw [← HW0.out]
    refine (C1.out).mono ?_
    rintro e w2 ⟨rfl,hb⟩
    have cc:=(HH.out w2 _ hb).1
    have D2:HidC _ _ _ _ _:=C2.out w2 hb
    clear C1 C2 hb HW0
    go_wp2_with fail
    refine (D2.out).mono ?_
    rintro e w3 ⟨rfl,hb⟩
    have D3:HidC _ _ _ _ _:=C3.out w3 hb
    clear D2 C3 hb cc
    go_wp2_with fail
    refine (D3.out).mono ?_
    rintro e w4 ⟨rfl,hb⟩
    have cc:=(HH.out w4 _ hb).2
    have D4:HidC _ _ _ _ _:=C4.out w4 hb
    clear D3 C4 hb
    go_wp2_with fail
    refine (D4.out).mono ?_
    rintro e w5 ⟨rfl,hb⟩
    have D5:HidC _ _ _ _ _:=C5.out w5 hb
    clear D4 C5 hb cc
    go_wp2_with fail
    refine (D5.out).mono ?_
    rintro e w6 ⟨rfl,hb⟩
    have HK6:Hid _:=HE.out w6 _ hb
    clear D5 hb HH HE
    go_wp2_with fail
    exact ⟨⟨i+1,_,by omega,by go_num,by simp,HF,HK6⟩,by simp [intOf];omega⟩
  ·have hlt':¬ (i:Int) < (A.length:Int):=by omega
   have hS:=HR.out
   rw [List.drop_eq_nil_of_le (by omega),prB,List.append_nil] at hS
   have hB:=HK.out.s
   have C1:HidC Tryz.prog 128 #[.pointer (some ⟨w.heap.size,0,none⟩),.string ⟨#[125]⟩] wr (fun e w'=>e=.returned (.tuple #[.int .i64 1,.nilIface])∧BS w.heap.size w.heap.size w (acc++[125]) w'):=ws_any [125] hB (by rw [← hS];exact hT2)
   have HF:Hid (T=acc++[125]):=by show T=_;rw [HTT2.out,hS]
   obtain ⟨c,hc⟩:∃ c:UInt8,c=if decide (i=0) then 123 else 44:=⟨_,rfl⟩
   rw [← hc]
   clear hc
   clear HR HK HV HRw hS hB HTT2 hT2 hRl hRn
   go_wp2_with fail
   refine (C1.out).mono ?_
   rintro e w2 ⟨rfl,hb⟩
   have HS:HidC _ _ _ _ _:=bstr_any hb
   clear C1 hb
   go_wp2_with fail
   refine (HS.out).mono ?_
   rintro e w3 ⟨rfl,hb⟩
   have hbl:=hb.bl
   clear hb HS
   go_wp2_with fail
   go_ret
   exact ⟨congrArg (fun z:List UInt8=>Ending.returned (Value.string ⟨z.toArray⟩)) HF.out.symm,hbl⟩
end Go.Proofs.YtfkbjdgbpenflaaGreatDoor.La
