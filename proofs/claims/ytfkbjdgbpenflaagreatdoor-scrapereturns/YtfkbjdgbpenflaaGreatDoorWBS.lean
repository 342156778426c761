/- THE PAGE: values. Own work of the verifier. -/
import Derived.Test.YtfkbjdgbpenflaaGreatDoorWBR
set_option maxRecDepth 100000
set_option maxHeartbeats 1000000
namespace Go.Proofs.YtfkbjdgbpenflaaGreatDoor
open Go.RowKit Me
def vsL (vl:Vl→List (List UInt8)):Option (List UInt8)→List Vl→List (List UInt8)
 | _,[]=>[]
 | q,x::r=>(if q=some x.d.name then [] else [heT x.d,tyT x.d])++(vl x++vsL vl (some x.d.name) r)
def pvN (L:List Vl) (i:Nat):Option (List UInt8):=if i=0 then none else (L[i - 1]?).map (·.d.name)
theorem pvN_succ (L:List Vl) (i:Nat) (h:i < L.length):pvN L (i+1)=some L[i].d.name:=by
 unfold pvN
 rw [if_neg (by omega),Nat.add_sub_cancel,List.getElem?_eq_getElem h]
 rfl
theorem vsL_drop (vl:Vl→List (List UInt8)) (L:List Vl) (i:Nat) (h:i < L.length):vsL vl (pvN L i) (L.drop i)=(if pvN L i=some L[i].d.name then [] else [heT L[i].d,tyT L[i].d])++(vl L[i]++vsL vl (pvN L (i+1)) (L.drop (i+1))):=by
 rw [List.drop_eq_getElem_cons h,vsL,pvN_succ L i h]
def Wrt (u:World) (pb:Nat) (p:Int) (vl:Vl→List (List UInt8)) (x:Vl):Prop :=
 ∀ (T:List UInt8) (lv cv:Value) (w:World),Pg u pb w p T w→SLb u lv x.d.labels→SN u cv x.cs→fitB T=true →
  Calls Tryz.prog (kfn x.d.kind) #[.pointer (some ⟨pb,0,none⟩),vx x lv cv] w fun e w'=>e=.returned (.bool (wrL T (vl x)).2)∧Pg u pb w p (wrL T (vl x)).1 w'
structure Wv (u:World) (pb:Nat) (p:Int) (vl:Vl→List (List UInt8)) (x:Vl):Prop where
 k:x.d.kind=1∨x.d.kind=2∨x.d.kind=3
 s:Sho x.d []
 w:Wrt u pb p vl x
structure VI (u:World) (pb mb:Nat) (w1:World) (p:Int) (T:List UInt8) (W:World):Prop where
 pg:Pg u pb w1 p T W
 m:W.heap[mb]? =some (.map kES 3)
theorem VI.below {u:World} {pb mb:Nat} {w1 W W1:World} {p:Int} {T:List UInt8} (h:VI u pb mb w1 p T W) (hb:Below W.heap.size W W1):VI u pb mb w1 p T W1:=⟨h.pg.below hb,(hb.block mb (Array.getElem?_eq_some_iff.1 h.m).1).trans h.m⟩
theorem VI.then {u:World} {pb mb:Nat} {w1 W W1:World} {p:Int} {T T1:List UInt8} (h:VI u pb mb w1 p T W) (k:Pg u pb W p T1 W1):VI u pb mb w1 p T1 W1:=⟨h.pg.then k,k.ok mb _ h.m (fun e=>by
 obtain ⟨ao,cap,q,_⟩:=h.pg.at_
 have:=h.m
 rw [Option.some.inj e,q] at this
 cases this) (fun _ _ e=>by cases e)⟩
theorem wrL_skip {T:List UInt8} {A C:List (List UInt8)} (h:(wrL T A).2=true):wrL T (A++C)=wrL (wrL T A).1 C:=by rw [wrL_app,h];rfl
theorem wrL_stop {T:List UInt8} {A C:List (List UInt8)} (h:(wrL T A).2=false):wrL T (A++C)=wrL T A:=by rw [wrL_app,h];rfl
theorem Pg.box {u:World} {pb g:Nat} {W W1:World} {p:Int} {T:List UInt8} {x:Vl} {lv cv:Value} (h:Pg u pb W p T W1) (hg:W.heap[g]? =some (.cells (vc x lv cv) 45)) (hk:g≠pb):W1.heap[g]? =some (.cells (vc x lv cv) 45):=h.cells hg hk (by decide)
theorem store_f (W:World) (a:Addr) (x:Nat) (m:Mode):(store a (.float .f64 x) m).run Tryz.prog W=stored Tryz.prog W a (.float .f64 x) m:=run_store Tryz.prog W a _ m rfl
theorem values_any (u:World) (pb:Nat) (p:Int) (T0:List UInt8) (vl:Vl→List (List UInt8)) (L:List Vl) (uv:Value) (w:World) (h:Pg u pb w p T0 w) (hv:SV u uv L) (hL:L.length≤256) (hk:∀ x ∈ L,Wv u pb p vl x) (hT:fitB T0=true) :
  Calls Tryz.prog 12 #[.pointer (some ⟨pb,0,none⟩),uv] w fun e w'=>e=.returned (.bool (wrL T0 (vsL vl none L)).2)∧Pg u pb w p (wrL T0 (vsL vl none L)).1 w':=by
 obtain ⟨ao,b,o,cap,rfl,hao,hcap,hcap2,hr⟩:=hv.open
 have HRw:=hid_of hr
 have HK:Hid (∀ W,_):=kinds_any
 have HV:=hid_of hk
 obtain ⟨R,hR⟩:∃ R,R=wrL T0 (vsL vl none L):=⟨_,rfl⟩
 rw [← hR]
 have HR0:Hid (R=wrL T0 (vsL vl (pvN L 0) (L.drop 0))):=hR
 have HP:=hid_of h
 have HT:=hid_of hT
 clear h hv hr hk hR hT
 go_enter Tryz.func12,Tryz.ntmps12
 go_wp2_with (go_at_call 24;refine (HK.out _).mono ?_;rintro e w1 ⟨rfl,hm,hb⟩;have HP1:=hid_of (HP.out.below hb);have HI0:Hid (VI u pb w.heap.size w1 p T0 w1):=⟨HP1.out.re,hm⟩;clear hm hb HK HP)
 go_loopw [12] (fun a W=>∃ (i:Nat) (T:List UInt8),i≤L.length∧a=.int .i64 (i:Int)∧Hid (R=wrL T (vsL vl (pvN L i) (L.drop i)))∧Hid (VI u pb w.heap.size w1 p T W)∧Hid (fitB T=true)) (fun a _=>L.length - (intOf a).toNat)
 case atStart=>exact ⟨0,T0,by omega,rfl,HR0,HI0,HT⟩
 case round =>
  clear HI0 HR0 HT
  obtain ⟨i,T,hi,rfl,HR,HI,HT⟩:=hrel
  by_cases hlt:i < L.length
  ·have hlt':(i:Int) < (L.length:Int):=by omega
   obtain rfl:=hao (by intro e;rw [e] at hlt;simp at hlt)
   obtain ⟨lw,cw,g1,g2,g3⟩:=HRw.out i hlt
   have q:=(g1.below HI.out.pg.st).cC
   obtain ⟨la,lc,rfl⟩:=g2.form
   obtain ⟨ca,cc,rfl⟩:=SN.form g3
   have hix:=index_val b o L.length cap i (i:Int) rfl hlt
   have HW:=hid_of (HV.out L[i] (List.getElem_mem hlt))
   have HS:=hid_of (vsL_drop vl L i hlt)
   have HL1:=hid_of g2
   have HC1:=hid_of g3
   have HPv:Hid (0 < i→∃ m,m < L.length∧i=m+1∧pvN L i=some (L.getD m L[i]).d.name∧(∀ W,Below u.heap.size u W→W.cell? ⟨b,o+m*11+1,none⟩=some (.string ⟨(L.getD m L[i]).d.name.toArray⟩))):=fun h0=>by
    have hm:i - 1 < L.length:=by omega
    obtain ⟨l2,c2,k1,_,_⟩:=HRw.out (i - 1) hm
    have e:L.getD (i - 1) L[i]=L[i - 1]:=by rw [List.getD_eq_getElem?_getD,List.getElem?_eq_getElem hm];rfl
    refine ⟨i - 1,hm,by omega,?_,fun W hb=>?_⟩
    ·have:=pvN_succ L (i - 1) hm
     rw [show i - 1+1=i by omega] at this
     rw [this,e]
    ·rw [e];exact (k1.below hb).c1
   clear g1 g2 g3 HRw HV
   generalize L[i]=x at *
   have sF:=store_f
   go_upto_region 5 with fail
   have hN0:=new_1 wr (.cells (vc x (.slice la x.d.labels.length lc) (.slice ca x.cs.length cc)) 45)
   have HI0:=hid_of (HI.out.below (bel1 wr (.cells (vc x (.slice la x.d.labels.length lc) (.slice ca x.cs.length cc)) 45)))
   have hne:wr.heap.size≠pb:=by have:=HI.out.pg.lt;omega
   have HNe:=hid_of hne
   generalize wr.alloc (.cells (vc x (.slice la x.d.labels.length lc) (.slice ca x.cs.length cc)) 45)=W0 at *
   have HN0:=hid_of hN0
   obtain ⟨d0,d1,-,-,-,-,-,-,-,-,-⟩:=cB_of hN0
   clear q hne HI sF
   go_cut [8] from 17 to 31 (fun v W=>v=.bool (decide (pvN L i≠some x.d.name))∧Hid (VI u pb w.heap.size w1 p T W)∧Hid (W.heap[wr.heap.size]? =some (.cells (vc x (.slice la x.d.labels.length lc) (.slice ca x.cs.length cc)) 45)))
   case first =>
    by_cases h0:i=0
    ·have h0':((i:Int) == 0)=true:=by rw [beq_iff_eq];omega
     have hd:decide (pvN L i≠some x.d.name)=true:=by rw [decide_eq_true_eq,h0];intro e;cases e
     have HD:=hid_of hd
     clear hd h0
     go_quiet (fail)
     go_wp2_with fail
     go_meet
     exact ⟨by rw [HD.out],HI0.out.below (bel_drewNB (Below.refl _ _) _),HN0.out⟩
    ·have h0':((i:Int) == 0)=false:=by rw [beq_eq_false_iff_ne];omega
     obtain ⟨m,hm,him,hpv,hcl⟩:=HPv.out (by omega)
     have hcm:=hcl W0 HI0.out.pg.st
     have hw1:IntKind.i64.wrap ((i:Int) - 1)=(m:Int):=by rw [IntKind.wrap_i64];omega
     have hixm:=index_val b o L.length cap m (m:Int) rfl hm
     have HD:Hid (decide (pvN L i≠some x.d.name)=((L.getD m x).d.name != x.d.name)):=by
      show _=_
      rw [hpv]
      by_cases e:(L.getD m x).d.name=x.d.name
      ·rw [e];simp
      ·have e2:¬ (some (L.getD m x).d.name=some x.d.name):=fun k=>e (Option.some.inj k)
       rw [decide_eq_true e2,eq_comm,bne_iff_ne];exact e
     generalize (L.getD m x).d.name=nm at *
     clear hpv hcl him
     go_quiet (fail)
     go_wp2_with fail
     go_meet
     exact ⟨by rw [HD.out];rfl,HI0.out.below (bel_drewNB (Below.refl _ _) _),HN0.out⟩
   case rest =>
    obtain ⟨rfl,HIc,HNc⟩:=hcut
    clear d0 d1 HI0 HN0 hN0 HPv
    have HWt:Hid (∀ T W,VI u pb w.heap.size w1 p T W→fitB T=true→Calls Tryz.prog (kfn x.d.kind) #[.pointer (some ⟨pb,0,none⟩),vx x (.slice la x.d.labels.length lc) (.slice ca x.cs.length cc)] W fun e w'=>e=.returned (.bool (wrL T (vl x)).2)∧VI u pb w.heap.size w1 p (wrL T (vl x)).1 w'):=fun T W k1 k2=>by
     refine Calls.mono (HW.out.w T _ _ W k1.pg.re HL1.out HC1.out k2) ?_
     rintro e w' ⟨rfl,q⟩
     exact ⟨rfl,k1.then q⟩
    have HFm:Hid (∀ T W,VI u pb w.heap.size w1 p T W→fitB T=true→W.heap[wr.heap.size]? =some (.cells (vc x (.slice la x.d.labels.length lc) (.slice ca x.cs.length cc)) 45)→Calls Tryz.prog 25 #[.pointer (some ⟨pb,0,none⟩),dsV x.d (.slice la x.d.labels.length lc)] W fun e w'=>e=.returned (.bool (wrL T [heT x.d,tyT x.d]).2)∧VI u pb w.heap.size w1 p (wrL T [heT x.d,tyT x.d]).1 w'∧w'.heap[wr.heap.size]? =some (.cells (vc x (.slice la x.d.labels.length lc) (.slice ca x.cs.length cc)) 45)):=fun T W k1 k2 k3=>by
     refine Calls.mono (family_any u pb p T x.d _ [] W k1.pg.re HL1.out HW.out.s k2) ?_
     rintro e w' ⟨rfl,q⟩
     exact ⟨rfl,k1.then q,q.box k3 HNe.out⟩
    have HKd:=hid_of HW.out.k
    clear HW HL1 HC1
    by_cases hbg:pvN L i=some x.d.name
    ·have hbg':decide (pvN L i≠some x.d.name)=false:=by rw [decide_eq_false_iff_not];exact fun k=>k hbg
     have HS2:Hid (vsL vl (pvN L i) (L.drop i)=vl x++vsL vl (pvN L (i+1)) (L.drop (i+1))):=by
      have:=HS.out
      rw [if_pos hbg] at this
      exact this
     rw [hbg']
     clear hbg hbg' HS HFm
     rcases HKd.out with hk | hk | hk
     ·have hkf:kfn x.d.kind=48:=by rw [hk];rfl
      have hlk:=look_any HIc.out.m HKd.out
      have D1:=HWt.out T wc HIc.out HT.out
      rw [hkf] at hlk D1
      have D2:La.HidC _ _ _ _ _:=D1
      obtain ⟨d0,d1,d2,d3,d4,d5,d6,d7,d8,d9,da⟩:=cB_of HNc.out
      clear HWt D1 hkf hk HKd HNc
      by_cases hok:(wrL T (vl x)).2=true
      ·have HNx:=hid_of (wrL_skip (C:=vsL vl (pvN L (i+1)) (L.drop (i+1))) hok)
       have HFt:=hid_of (wrL_fit (vl x) T HT.out hok)
       rw [hok] at D2
       clear hok
       go_wp2_with fail
       refine (D2.out).mono ?_
       rintro e w9 ⟨rfl,h9⟩
       go_wp2_with fail
       exact ⟨⟨i+1,_,by omega,by go_num,by rw [HR.out,HS2.out];exact HNx.out,h9,HFt⟩,by simp [intOf];omega⟩
      ·simp only [Bool.not_eq_true] at hok
       have HNx:=hid_of (wrL_stop (C:=vsL vl (pvN L (i+1)) (L.drop (i+1))) hok)
       have hR:R=wrL T (vl x):=by rw [HR.out,HS2.out];exact HNx.out
       have HRr:=hid_of hR
       have HOk:=hid_of hok
       rw [hok] at D2
       clear hok hR
       go_wp2_with fail
       refine (D2.out).mono ?_
       rintro e w9 ⟨rfl,h9⟩
       go_wp2_with fail
       go_ret
       exact ⟨retB (by rw [HRr.out,HOk.out]),by rw [HRr.out];exact HP1.out.then h9.pg⟩
     ·have hkf:kfn x.d.kind=49:=by rw [hk];rfl
      have hlk:=look_any HIc.out.m HKd.out
      have D1:=HWt.out T wc HIc.out HT.out
      rw [hkf] at hlk D1
      have D2:La.HidC _ _ _ _ _:=D1
      obtain ⟨d0,d1,d2,d3,d4,d5,d6,d7,d8,d9,da⟩:=cB_of HNc.out
      clear HWt D1 hkf hk HKd HNc
      by_cases hok:(wrL T (vl x)).2=true
      ·have HNx:=hid_of (wrL_skip (C:=vsL vl (pvN L (i+1)) (L.drop (i+1))) hok)
       have HFt:=hid_of (wrL_fit (vl x) T HT.out hok)
       rw [hok] at D2
       clear hok
       go_wp2_with fail
       refine (D2.out).mono ?_
       rintro e w9 ⟨rfl,h9⟩
       go_wp2_with fail
       exact ⟨⟨i+1,_,by omega,by go_num,by rw [HR.out,HS2.out];exact HNx.out,h9,HFt⟩,by simp [intOf];omega⟩
      ·simp only [Bool.not_eq_true] at hok
       have HNx:=hid_of (wrL_stop (C:=vsL vl (pvN L (i+1)) (L.drop (i+1))) hok)
       have hR:R=wrL T (vl x):=by rw [HR.out,HS2.out];exact HNx.out
       have HRr:=hid_of hR
       have HOk:=hid_of hok
       rw [hok] at D2
       clear hok hR
       go_wp2_with fail
       refine (D2.out).mono ?_
       rintro e w9 ⟨rfl,h9⟩
       go_wp2_with fail
       go_ret
       exact ⟨retB (by rw [HRr.out,HOk.out]),by rw [HRr.out];exact HP1.out.then h9.pg⟩
     ·have hkf:kfn x.d.kind=50:=by rw [hk];rfl
      have hlk:=look_any HIc.out.m HKd.out
      have D1:=HWt.out T wc HIc.out HT.out
      rw [hkf] at hlk D1
      have D2:La.HidC _ _ _ _ _:=D1
      obtain ⟨d0,d1,d2,d3,d4,d5,d6,d7,d8,d9,da⟩:=cB_of HNc.out
      clear HWt D1 hkf hk HKd HNc
      by_cases hok:(wrL T (vl x)).2=true
      ·have HNx:=hid_of (wrL_skip (C:=vsL vl (pvN L (i+1)) (L.drop (i+1))) hok)
       have HFt:=hid_of (wrL_fit (vl x) T HT.out hok)
       rw [hok] at D2
       clear hok
       go_wp2_with fail
       refine (D2.out).mono ?_
       rintro e w9 ⟨rfl,h9⟩
       go_wp2_with fail
       exact ⟨⟨i+1,_,by omega,by go_num,by rw [HR.out,HS2.out];exact HNx.out,h9,HFt⟩,by simp [intOf];omega⟩
      ·simp only [Bool.not_eq_true] at hok
       have HNx:=hid_of (wrL_stop (C:=vsL vl (pvN L (i+1)) (L.drop (i+1))) hok)
       have hR:R=wrL T (vl x):=by rw [HR.out,HS2.out];exact HNx.out
       have HRr:=hid_of hR
       have HOk:=hid_of hok
       rw [hok] at D2
       clear hok hR
       go_wp2_with fail
       refine (D2.out).mono ?_
       rintro e w9 ⟨rfl,h9⟩
       go_wp2_with fail
       go_ret
       exact ⟨retB (by rw [HRr.out,HOk.out]),by rw [HRr.out];exact HP1.out.then h9.pg⟩
    ·have hbg':decide (pvN L i≠some x.d.name)=true:=by rw [decide_eq_true_eq];exact hbg
     have HS1:Hid (vsL vl (pvN L i) (L.drop i)=[heT x.d,tyT x.d]++(vl x++vsL vl (pvN L (i+1)) (L.drop (i+1)))):=by
      have:=HS.out
      rw [if_neg hbg] at this
      exact this
     rw [hbg']
     have D0:=HFm.out T wc HIc.out HT.out HNc.out
     have D0':La.HidC _ _ _ _ _:=D0
     obtain ⟨d0,d1,d2,d3,d4,d5,d6,d7,d8,d9,da⟩:=cB_of HNc.out
     clear hbg hbg' HS HFm D0
     by_cases hof:(wrL T [heT x.d,tyT x.d]).2=true
     ·have HFt0:=hid_of (wrL_fit [heT x.d,tyT x.d] T HT.out hof)
      have HS0:=hid_of (wrL_skip (C:=vl x++vsL vl (pvN L (i+1)) (L.drop (i+1))) hof)
      rw [hof] at D0'
      clear hof HNc HIc
      generalize (wrL T [heT x.d,tyT x.d]).1=T2 at D0' HFt0 HS0
      have HS2:Hid (wrL T (vsL vl (pvN L i) (L.drop i))=wrL T2 (vl x++vsL vl (pvN L (i+1)) (L.drop (i+1)))):=by
       show _=_
       rw [HS1.out];exact HS0.out
      clear HS1 HS0
      go_upto_region 8 with (go_at_call 25;refine (D0'.out).mono ?_;rintro e w8 ⟨rfl,h8,hn8⟩;have HI8:=hid_of h8;have HN8:=hid_of hn8;clear h8 hn8 D0' d0 d1 d2 d3 d4 d5 d6 d7 d8 d9 da)
      rcases HKd.out with hk | hk | hk
      ·have hkf:kfn x.d.kind=48:=by rw [hk];rfl
       have hlk:=look_any HI8.out.m HKd.out
       have D1:=HWt.out T2 w8 HI8.out HFt0.out
       rw [hkf] at hlk D1
       have D2:La.HidC _ _ _ _ _:=D1
       obtain ⟨d0,d1,d2,d3,d4,d5,d6,d7,d8,d9,da⟩:=cB_of HN8.out
       clear HWt D1 hkf hk HKd HN8
       by_cases hok:(wrL T2 (vl x)).2=true
       ·have HNx:=hid_of (wrL_skip (C:=vsL vl (pvN L (i+1)) (L.drop (i+1))) hok)
        have HFt:=hid_of (wrL_fit (vl x) T2 HFt0.out hok)
        rw [hok] at D2
        clear hok
        go_wp2_with fail
        refine (D2.out).mono ?_
        rintro e w9 ⟨rfl,h9⟩
        go_wp2_with fail
        exact ⟨⟨i+1,_,by omega,by go_num,by rw [HR.out,HS2.out];exact HNx.out,h9,HFt⟩,by simp [intOf];omega⟩
       ·simp only [Bool.not_eq_true] at hok
        have HNx:=hid_of (wrL_stop (C:=vsL vl (pvN L (i+1)) (L.drop (i+1))) hok)
        have hR:R=wrL T2 (vl x):=by rw [HR.out,HS2.out];exact HNx.out
        have HRr:=hid_of hR
        have HOk:=hid_of hok
        rw [hok] at D2
        clear hok hR
        go_wp2_with fail
        refine (D2.out).mono ?_
        rintro e w9 ⟨rfl,h9⟩
        go_wp2_with fail
        go_ret
        exact ⟨retB (by rw [HRr.out,HOk.out]),by rw [HRr.out];exact HP1.out.then h9.pg⟩
      ·have hkf:kfn x.d.kind=49:=by rw [hk];rfl
       have hlk:=look_any HI8.out.m HKd.out
       have D1:=HWt.out T2 w8 HI8.out HFt0.out
       rw [hkf] at hlk D1
       have D2:La.HidC _ _ _ _ _:=D1
       obtain ⟨d0,d1,d2,d3,d4,d5,d6,d7,d8,d9,da⟩:=cB_of HN8.out
       clear HWt D1 hkf hk HKd HN8
       by_cases hok:(wrL T2 (vl x)).2=true
       ·have HNx:=hid_of (wrL_skip (C:=vsL vl (pvN L (i+1)) (L.drop (i+1))) hok)
        have HFt:=hid_of (wrL_fit (vl x) T2 HFt0.out hok)
        rw [hok] at D2
        clear hok
        go_wp2_with fail
        refine (D2.out).mono ?_
        rintro e w9 ⟨rfl,h9⟩
        go_wp2_with fail
        exact ⟨⟨i+1,_,by omega,by go_num,by rw [HR.out,HS2.out];exact HNx.out,h9,HFt⟩,by simp [intOf];omega⟩
       ·simp only [Bool.not_eq_true] at hok
        have HNx:=hid_of (wrL_stop (C:=vsL vl (pvN L (i+1)) (L.drop (i+1))) hok)
        have hR:R=wrL T2 (vl x):=by rw [HR.out,HS2.out];exact HNx.out
        have HRr:=hid_of hR
        have HOk:=hid_of hok
        rw [hok] at D2
        clear hok hR
        go_wp2_with fail
        refine (D2.out).mono ?_
        rintro e w9 ⟨rfl,h9⟩
        go_wp2_with fail
        go_ret
        exact ⟨retB (by rw [HRr.out,HOk.out]),by rw [HRr.out];exact HP1.out.then h9.pg⟩
      ·have hkf:kfn x.d.kind=50:=by rw [hk];rfl
       have hlk:=look_any HI8.out.m HKd.out
       have D1:=HWt.out T2 w8 HI8.out HFt0.out
       rw [hkf] at hlk D1
       have D2:La.HidC _ _ _ _ _:=D1
       obtain ⟨d0,d1,d2,d3,d4,d5,d6,d7,d8,d9,da⟩:=cB_of HN8.out
       clear HWt D1 hkf hk HKd HN8
       by_cases hok:(wrL T2 (vl x)).2=true
       ·have HNx:=hid_of (wrL_skip (C:=vsL vl (pvN L (i+1)) (L.drop (i+1))) hok)
        have HFt:=hid_of (wrL_fit (vl x) T2 HFt0.out hok)
        rw [hok] at D2
        clear hok
        go_wp2_with fail
        refine (D2.out).mono ?_
        rintro e w9 ⟨rfl,h9⟩
        go_wp2_with fail
        exact ⟨⟨i+1,_,by omega,by go_num,by rw [HR.out,HS2.out];exact HNx.out,h9,HFt⟩,by simp [intOf];omega⟩
       ·simp only [Bool.not_eq_true] at hok
        have HNx:=hid_of (wrL_stop (C:=vsL vl (pvN L (i+1)) (L.drop (i+1))) hok)
        have hR:R=wrL T2 (vl x):=by rw [HR.out,HS2.out];exact HNx.out
        have HRr:=hid_of hR
        have HOk:=hid_of hok
        rw [hok] at D2
        clear hok hR
        go_wp2_with fail
        refine (D2.out).mono ?_
        rintro e w9 ⟨rfl,h9⟩
        go_wp2_with fail
        go_ret
        exact ⟨retB (by rw [HRr.out,HOk.out]),by rw [HRr.out];exact HP1.out.then h9.pg⟩
     ·simp only [Bool.not_eq_true] at hof
      have hR:R=wrL T [heT x.d,tyT x.d]:=by rw [HR.out,HS1.out];exact wrL_stop hof
      have HRr:=hid_of hR
      have HOk:=hid_of hof
      rw [hof] at D0'
      clear hof hR HWt HNc HIc
      go_wp2_with (go_at_call 25;refine (D0'.out).mono ?_;rintro e w8 ⟨rfl,h8,hn8⟩;have HI8:=hid_of h8;clear h8 hn8)
      go_ret
      exact ⟨retB (by rw [HRr.out,HOk.out]),by rw [HRr.out];exact HP1.out.then HI8.out.pg⟩
  ·have hlt':¬ (i:Int) < (L.length:Int):=by omega
   have hR:R=(T,true):=by rw [HR.out,List.drop_eq_nil_of_le (by omega)];rfl
   have HRr:=hid_of hR
   clear hR
   go_wp2_with fail
   go_ret
   exact ⟨retB (by rw [HRr.out]),by rw [HRr.out];exact HP1.out.then HI.out.pg⟩
end Go.Proofs.YtfkbjdgbpenflaaGreatDoor
