/- THE PAGE: the lines of a histogram's counts. Own work of the verifier. -/
import Derived.Test.YtfkbjdgbpenflaaGreatDoorWBS
set_option maxRecDepth 100000
set_option maxHeartbeats 1000000
namespace Go.Proofs.YtfkbjdgbpenflaaGreatDoor
open Go.RowKit Me
abbrev buE:List UInt8:=[95,98,117,99,107,101,116]
def bkL (d:La.Ds) (P:Nat):Nat→List Cn→List (List UInt8)
 | _,[]=>[]
 | a,c::r=>seT d buE [(leN,Lib.itoa (hiV P c.1.toNat:Int))] (Lib.decDigits (a+c.2))::bkL d P (a+c.2) r
theorem bkL_drop (d:La.Ds) (P a:Nat) (C:List Cn) (i:Nat) (h:i < C.length):bkL d P a (C.drop i)=seT d buE [(leN,Lib.itoa (hiV P C[i].1.toNat:Int))] (Lib.decDigits (a+C[i].2))::bkL d P (a+C[i].2) (C.drop (i+1)):=by
 rw [List.drop_eq_getElem_cons h,bkL]
theorem sho_le {d:La.Ds} (h:Sho d []) (le:List UInt8) (hl:le.length≤100) (hn:d.labels.length≤16):Sho d [(leN,le)]:=by
 refine ⟨h.n,h.h,by simp;omega,fun a ha=>?_⟩
 rcases List.mem_append.1 ha with k | k
 ·exact h.v a (by simpa using k)
 ·rw [List.mem_singleton.1 k]
  exact ⟨by show leN.length≤2000;decide,by show le.length≤2000;omega⟩
theorem sum_take {C:List Cn} {i:Nat} (h:i < C.length):((C.take (i+1)).map (·.2)).sum=((C.take i).map (·.2)).sum+C[i].2:=by
 rw [List.take_succ_eq_append_getElem h,List.map_append,List.sum_append]
 simp
structure BI (u:World) (pb xb:Nat) (w1:World) (p:Int) (x:Vl) (lv cv:Value) (T:List UInt8) (W:World):Prop where
 pg:Pg u pb w1 p T W
 bx:W.heap[xb]? =some (.cells (vc x lv cv) 45)
theorem BI.below {u:World} {pb xb:Nat} {w1 W W1:World} {p:Int} {x:Vl} {lv cv:Value} {T:List UInt8} (h:BI u pb xb w1 p x lv cv T W) (hb:Below W.heap.size W W1):BI u pb xb w1 p x lv cv T W1:=⟨h.pg.below hb,(hb.block xb (Array.getElem?_eq_some_iff.1 h.bx).1).trans h.bx⟩
theorem BI.then {u:World} {pb xb:Nat} {w1 W W1:World} {p:Int} {x:Vl} {lv cv:Value} {T T1:List UInt8} (h:BI u pb xb w1 p x lv cv T W) (k:Pg u pb W p T1 W1) (hne:xb≠pb):BI u pb xb w1 p x lv cv T1 W1:=⟨h.pg.then k,k.box h.bx hne⟩
abbrev S6h (pb cb:Nat) (p:Int) (I:Int) (W:World):Prop:=W.cell? ⟨pb,0,none⟩=some (.int .i64 p)∧W.cell? ⟨cb,0,none⟩=some (.int .i64 I)
theorem buckets_any (u:World) (pb P:Nat) (T0:List UInt8) (x:Vl) (lv cv:Value) (w:World) (h:Pg u pb w (P:Int) T0 w) (ht:Wi.Tab u) (hl:SLb u lv x.d.labels) (hc:SN u cv x.cs) (hs:Sho x.d []) (hn:x.d.labels.length≤16) (hx:VW x) (hM:MayIs (P:Int) x.cs 0) (hT:fitB T0=true) :
  Calls Tryz.prog 84 #[.pointer (some ⟨pb,0,none⟩),vx x lv cv] w fun e w'=>e=.returned (.bool (wrL T0 (bkL x.d P 0 x.cs)).2)∧Pg u pb w (P:Int) (wrL T0 (bkL x.d P 0 x.cs)).1 w':=by
 obtain ⟨hp,hs2,h3⟩:=may_ok hM
 have HM:=hid_of hM
 have H3:=hid_of h3
 have HSum:Hid (∀ i,((x.cs.take i).map (·.2)).sum≤9223372036854775807):=fun i=>Nat.le_trans (sum_take_le x.cs i) (by exact hs2)
 obtain ⟨ao,cap,rfl⟩:=hl.form
 obtain ⟨co,ccap,rfl⟩:=SN.form hc
 obtain ⟨W0,hW0⟩:∃ W0,W0=w.alloc (.cells (vc x (.slice ao x.d.labels.length cap) (.slice co x.cs.length ccap)) 45):=⟨_,rfl⟩
 have hN0:W0.heap[w.heap.size]? =some (.cells (vc x (.slice ao x.d.labels.length cap) (.slice co x.cs.length ccap)) 45):=by rw [hW0];exact new_1 w _
 have hP0:Pg u pb w (P:Int) T0 W0:=by rw [hW0];exact h.alloc _
 have hne:w.heap.size≠pb:=by have:=h.lt;omega
 obtain ⟨R,hR⟩:∃ R,R=wrL T0 (bkL x.d P 0 x.cs):=⟨_,rfl⟩
 rw [← hR]
 have HR0:Hid (R=wrL T0 (bkL x.d P ((x.cs.take 0).map (·.2)).sum (x.cs.drop 0))):=hR
 have HI0:Hid (BI u pb w.heap.size W0 (P:Int) x (.slice ao x.d.labels.length cap) (.slice co x.cs.length ccap) T0 W0):=⟨hP0.re,hN0⟩
 have HBk:Hid (∀ T (le:List UInt8) (n:Nat) W,BI u pb w.heap.size W0 (P:Int) x (.slice ao x.d.labels.length cap) (.slice co x.cs.length ccap) T W→le.length≤100→n < 18446744073709551616→fitB T=true→Calls Tryz.prog 85 #[.pointer (some ⟨pb,0,none⟩),dsV x.d (.slice ao x.d.labels.length cap),.string ⟨le.toArray⟩,.int .u64 (n:Int)] W fun e w'=>e=.returned (.bool (fitB (T++seT x.d buE [(leN,le)] (Lib.decDigits n))))∧BI u pb w.heap.size W0 (P:Int) x (.slice ao x.d.labels.length cap) (.slice co x.cs.length ccap) (T++seT x.d buE [(leN,le)] (Lib.decDigits n)) w'):=fun T le n W k1 k2 k3 k4=>by
  refine Calls.mono (bucket_any u pb (P:Int) T x.d _ le n W k1.pg.re ht hl (sho_le hs le k2 hn) k3 k4) ?_
  rintro e w' ⟨rfl,q⟩
  exact ⟨rfl,k1.then q hne⟩
 have HFi:Hid (∀ z:Int,0≤z→z≤9223372036854775807→∀ T W,BI u pb w.heap.size W0 (P:Int) x (.slice ao x.d.labels.length cap) (.slice co x.cs.length ccap) T W→Calls Tryz.prog 124 #[.int .i64 z,.int .i64 10] W fun e w'=>e=.returned (.string ⟨(Lib.itoa z).toArray⟩)∧Below W.heap.size W w'):=fun z z0 z1 T W k=>by
  refine Calls.mono (Tryz.strconv_FormatInt_10 z (by omega) z1 W (ht.below k.pg.st)) ?_
  rintro e w' ⟨rfl,k,os,rfl⟩
  exact ⟨rfl,Wi.below_grow _ _ _⟩
 have HT:=hid_of hT
 have HW0:=hid_of hW0
 have HP0:=hid_of hP0
 have HC:=hid_of hc
 have HWc:=hid_of hx.cs
 have hcl:=hx.cl
 obtain ⟨-,-,-,-,-,-,d6,-,-,-,-⟩:=cB_of hN0
 clear h ht hl hc hs hn hx hM hT hW0 hN0 hP0 hne hR hs2 h3
 go_enter Tryz.func84,Tryz.ntmps84
 go_upto_region 1 with fail
 rw [← HW0.out]
 clear HW0
 go_wp2_with fail
 go_loopw [5,13] (fun s a W=>∃ (i:Nat) (T:List UInt8),i≤x.cs.length∧a=.int .i64 (i:Int)∧s=.int .u64 (((x.cs.take i).map (·.2)).sum:Nat)∧Hid (R=wrL T (bkL x.d P ((x.cs.take i).map (·.2)).sum (x.cs.drop i)))∧Hid (BI u pb w.heap.size W0 (P:Int) x (.slice ao x.d.labels.length cap) (.slice co x.cs.length ccap) T W)∧Hid (fitB T=true)) (fun _ a _=>x.cs.length - (intOf a).toNat)
 case atStart=>exact ⟨0,T0,by omega,rfl,rfl,HR0,HI0,HT⟩
 case round =>
  clear HI0 HR0 HT d6
  obtain ⟨i,T,hi,rfl,rfl,HR,HI,HT⟩:=hrel
  by_cases hlt:i < x.cs.length
  ·have hlt':(i:Int) < (x.cs.length:Int):=by omega
   obtain ⟨ao2,b,o,cap2,hv,hao,hrow⟩:=(HC.out.below HI.out.pg.st).sc
   obtain rfl:=hao (by intro e;rw [e] at hlt;simp at hlt)
   cases hv
   obtain ⟨q0,q1⟩:=hrow i hlt
   obtain ⟨g1,g2,_⟩:=H3.out i hlt
   obtain ⟨k1,k2,k3⟩:=in_may HM.out (List.getElem_mem hlt)
   have hN:x.cs[i].2 < 18446744073709551616:=(HWc.out _ (List.getElem_mem hlt)).2.2
   have hsm:=HSum.out (i+1)
   have hst:=sum_take hlt
   have HS:=hid_of (bkL_drop x.d P ((x.cs.take i).map (·.2)).sum x.cs i hlt)
   rw [← hst] at HS
   have hw64:IntKind.u64.wrap ((((x.cs.take i).map (·.2)).sum:Nat)+(x.cs[i].2:Int))=(((x.cs.take (i+1)).map (·.2)).sum:Nat):=by
    rw [hst,IntKind.wrap_u64];omega
   obtain ⟨I,hI⟩:=Int.eq_ofNat_of_zero_le g1
   rw [hI] at k1 k2 k3 q0 HS
   simp only [Int.toNat_natCast] at k1 k2 k3 HS
   have HHigh:Hid (∀ W,Calls Tryz.prog 74 #[.int .i64 (P:Int),.int .i64 (I:Int)] W fun e w'=>e=two (hiV P I:Nat) 0∧Below W.heap.size W w'):=fun W=>(high_of (bounds_yes P I (by omega) (by omega) k1) W).mono (by rintro e w' ⟨⟨n,rfl⟩,rfl⟩;exact ⟨rfl,bel_drewNB (Below.refl _ _) n⟩)
   have hs2e:Hid (∀ _:Unit,True):=fun _=>trivial
   generalize hgs:((x.cs.take (i+1)).map (·.2)).sum=s2 at *
   have HGs:=hid_of hgs
   clear hgs hs2e
   generalize ((x.cs.take i).map (·.2)).sum=s1 at *
   generalize hiV P I=hv at *
   generalize x.cs[i].2=N at *
   clear k1 k2 g1 g2 hI hrow hao hst
   go_upto_region 6 with fail
   have hcb:=new_1 wr (.cells #[.int .i64 (I:Int),.int .u64 (N:Int)] 79)
   have HI1:=hid_of (HI.out.below (bel1 wr (.cells #[.int .i64 (I:Int),.int .u64 (N:Int)] 79)))
   generalize wr.alloc (.cells #[.int .i64 (I:Int),.int .u64 (N:Int)] 79)=W1 at *
   have hS0:S6h pb wr.heap.size (P:Int) (I:Int) W1:=⟨by obtain ⟨_,_,q,_⟩:=HI1.out.pg.cell;exact q,by simp [World.cell?,hcb]⟩
   have HKp:Hid (∀ W,Below W1.heap.size W1 W→S6h pb wr.heap.size (P:Int) (I:Int) W):=fun W hb=>⟨cellB hb hS0.1,cellB hb hS0.2⟩
   clear hcb hS0 q0 q1 HI
   go_cut [8,9] from 21 to 30 (fun v v9 W=>v=.int .i64 (hv:Nat)∧v9=.int .i64 0∧Hid (BI u pb w.heap.size W0 (P:Int) x (.slice ao x.d.labels.length cap) (.slice (some ⟨b,o,none⟩) x.cs.length ccap) T W))
   case first =>
    go_region_held3 (fun W=>S6h pb wr.heap.size (P:Int) (I:Int) W)
     (((with_reducible refine HKp.out _ ?_);repeat (first | with_reducible exact hB9 | with_reducible exact Below.refl _ _ | with_reducible refine belD ?_)))
     (first
      | (go_at_call 74;(with_reducible refine Calls.mono (HHigh.out _) ?_);rintro e w9 ⟨rfl,hb9⟩;have hB9:Below W1.heap.size W1 w9:=bt (belD (Below.refl _ _)) hb9))
    all_goals
     go_wp2_with fail
     go_meet
     exact ⟨rfl,rfl,HI1.out.below hB9⟩
   case rest =>
    obtain ⟨rfl,rfl,HI2⟩:=hcut
    have HFm:=hid_of (HFi.out (hv:Nat) (by omega) (by omega))
    have hs2:s2 < 18446744073709551616:=by omega
    have hln:(Lib.itoa ((hv:Nat):Int)).length≤100:=by have:=itoa_len (t:=((hv:Nat):Int)) ⟨by omega,by omega⟩;omega
    have HBm:Hid (∀ W,BI u pb w.heap.size W0 (P:Int) x (.slice ao x.d.labels.length cap) (.slice (some ⟨b,o,none⟩) x.cs.length ccap) T W→Calls Tryz.prog 85 #[.pointer (some ⟨pb,0,none⟩),dsV x.d (.slice ao x.d.labels.length cap),.string ⟨(Lib.itoa ((hv:Nat):Int)).toArray⟩,.int .u64 (s2:Int)] W fun e w'=>e=.returned (.bool (fitB (T++seT x.d buE [(leN,Lib.itoa ((hv:Nat):Int))] (Lib.decDigits s2))))∧BI u pb w.heap.size W0 (P:Int) x (.slice ao x.d.labels.length cap) (.slice (some ⟨b,o,none⟩) x.cs.length ccap) (T++seT x.d buE [(leN,Lib.itoa ((hv:Nat):Int))] (Lib.decDigits s2)) w'):=fun W k=>HBk.out T _ s2 W k hln hs2 HT.out
    have HRs:Hid (R=if fitB (T++seT x.d buE [(leN,Lib.itoa ((hv:Nat):Int))] (Lib.decDigits s2)) then wrL (T++seT x.d buE [(leN,Lib.itoa ((hv:Nat):Int))] (Lib.decDigits s2)) (bkL x.d P s2 (x.cs.drop (i+1))) else (T++seT x.d buE [(leN,Lib.itoa ((hv:Nat):Int))] (Lib.decDigits s2),false)):=by
     show _=_
     rw [HR.out,HS.out,wrL]
    clear HR HS HBk HFi hln hs2 HHigh HKp hsm k3 hN
    generalize T++seT x.d buE [(leN,Lib.itoa ((hv:Nat):Int))] (Lib.decDigits s2)=T2 at *
    generalize Lib.itoa ((hv:Nat):Int)=D at *
    have HKp:Hid (∀ W,Below wc.heap.size wc W→cB w.heap.size x (.slice ao x.d.labels.length cap) (.slice (some ⟨b,o,none⟩) x.cs.length ccap) W):=fun W hb=>cB_of (HI2.out.below hb).bx
    have HKq:Hid (∀ X W,BI u pb w.heap.size W0 (P:Int) x (.slice ao x.d.labels.length cap) (.slice (some ⟨b,o,none⟩) x.cs.length ccap) X W→cB w.heap.size x (.slice ao x.d.labels.length cap) (.slice (some ⟨b,o,none⟩) x.cs.length ccap) W):=fun X W k=>cB_of k.bx
    clear HM H3 HSum HWc HC
    by_cases hok:fitB T2=true
    ·have HRn:Hid (R=wrL T2 (bkL x.d P s2 (x.cs.drop (i+1)))):=by
      show _=_
      rw [HRs.out,if_pos hok]
     have HF2:=hid_of hok
     rw [hok] at HBm
     clear HRs hok
     go_upto_region 7 with fail
     go_region_held3 (fun W=>cB w.heap.size x (.slice ao x.d.labels.length cap) (.slice (some ⟨b,o,none⟩) x.cs.length ccap) W)
      (first | (with_reducible exact HKq.out _ _ hPz) | ((with_reducible refine HKp.out _ ?_);repeat (first | with_reducible exact hB9 | with_reducible exact Below.refl _ _ | with_reducible refine belD ?_)))
      (first
       | (go_at_call 124;(with_reducible refine Calls.mono (HFm.out _ _ (HI2.out.below (by repeat (first | with_reducible exact Below.refl _ _ | with_reducible refine belD ?_)))) ?_);rintro e w9 ⟨rfl,hb9⟩;have hB9:Below wc.heap.size wc w9:=bt (by repeat (first | with_reducible exact Below.refl _ _ | with_reducible refine belD ?_)) hb9)
       | (go_at_call 85;(with_reducible refine Calls.mono (HBm.out _ (HI2.out.below hB9)) ?_);rintro e wz ⟨rfl,hPz⟩))
     all_goals
      have HZ:=hid_of hPz
      clear hPz
      go_wp2_with fail
      exact ⟨⟨i+1,T2,by omega,by go_num,by rw [HGs.out],by rw [HGs.out];exact HRn,HZ,HF2⟩,by simp [intOf];omega⟩
    ·simp only [Bool.not_eq_true] at hok
     have HRn:Hid (R=(T2,false)):=by
      show _=_
      rw [HRs.out,hok]
      rfl
     rw [hok] at HBm
     clear HRs hok
     go_upto_region 7 with fail
     go_region_held3 (fun W=>cB w.heap.size x (.slice ao x.d.labels.length cap) (.slice (some ⟨b,o,none⟩) x.cs.length ccap) W)
      (first | (with_reducible exact HKq.out _ _ hPz) | ((with_reducible refine HKp.out _ ?_);repeat (first | with_reducible exact hB9 | with_reducible exact Below.refl _ _ | with_reducible refine belD ?_)))
      (first
       | (go_at_call 124;(with_reducible refine Calls.mono (HFm.out _ _ (HI2.out.below (by repeat (first | with_reducible exact Below.refl _ _ | with_reducible refine belD ?_)))) ?_);rintro e w9 ⟨rfl,hb9⟩;have hB9:Below wc.heap.size wc w9:=bt (by repeat (first | with_reducible exact Below.refl _ _ | with_reducible refine belD ?_)) hb9)
       | (go_at_call 85;(with_reducible refine Calls.mono (HBm.out _ (HI2.out.below hB9)) ?_);rintro e wz ⟨rfl,hPz⟩))
     all_goals
      have HZ:=hid_of hPz
      clear hPz
      go_wp2_with fail
      go_ret
      exact ⟨retB (by rw [HRn.out]),by rw [HRn.out];exact HP0.out.then HZ.out.pg⟩
  ·have hlt':¬ (i:Int) < (x.cs.length:Int):=by omega
   have HRn:Hid (R=(T,true)):=by
    show _=_
    rw [HR.out,List.drop_eq_nil_of_le (by omega)]
    rfl
   clear HR
   go_wp2_with fail
   go_ret
   exact ⟨retB (by rw [HRn.out]),by rw [HRn.out];exact HP0.out.then HI.out.pg⟩
end Go.Proofs.YtfkbjdgbpenflaaGreatDoor
