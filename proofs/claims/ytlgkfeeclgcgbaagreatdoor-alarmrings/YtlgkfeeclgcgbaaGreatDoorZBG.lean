/- WHAT STANDS IN A SNAPSHOT: place, the code's. Own work of the verifier. -/
import Derived.Test.YtlgkfeeclgcgbaaGreatDoorZBF
import Derived.Test.YtlgkfeeclgcgbaaGreatDoorZBD
set_option maxRecDepth 100000
set_option maxHeartbeats 4000000
namespace Go.Proofs.YtlgkfeeclgcgbaaGreatDoor
open Go.RowKit Me
def hitB (q x:Vl):Bool:=La.ordD x.d q.d == 0
theorem hit_any (q x:Vl) (lv cv:Value) (v:Value) (b:Nat) (w:World) (hv:VAt w x v) (hb:b < w.heap.size) (hq:B11 w b q lv cv) (hl:SLb w lv q.d.labels) (hc:SN w cv q.cs) :
  Calls Tryz.prog 297 #[v,.pointer (some ⟨b,0,none⟩)] w fun e w'=>e=.returned (.bool (hitB q x))∧Below w.heap.size w w':=by
 have hv0:=hv
 obtain ⟨lx,cx,rfl,hlx,hcx⟩:=hv
 have HC:Hid (∀ W,Below w.heap.size w W→Calls Tryz.prog 69 #[vx x lx cx,vx q lv cv] W fun e w'=>e=.returned (.int .i64 (La.ordD x.d q.d))∧Below W.heap.size W w'):=fun W h=>cser_any x q _ _ W (hv0.below h) ⟨lv,cv,rfl,hl.below h,hc.below h⟩
 have hq1:B11 (w.alloc (.cells (vc x lx cx) 86)) b q lv cv:=hq.below (bel1 _ _)
 have hx1:=newB11 w x lx cx 86
 obtain ⟨k0,k1,k2,k3,k4,k5,k6,k7,k8,k9,k10⟩:=hq
 unfold hitB
 generalize La.ordD x.d q.d=z at *
 clear hv0 hlx hcx hl hc hq1 hx1
 go_enter Tryz.func297,Tryz.ntmps297
 go_wp2_with (go_at_call 69;with_reducible refine (HC.out _ (bel1 w _)).mono ?_;rintro e w1 ⟨rfl,hb1⟩)
 go_ret
 exact ⟨rfl,bt (bel1 w _) hb1⟩
def fdI (q:Vl):List Vl→Nat→Int
 | [],_=>-1
 | x::r,i=>if hitB q x then (i:Int) else fdI q r (i+1)
theorem fdI_drop (q:Vl) (L:List Vl) (i:Nat) (h:i < L.length):fdI q (L.drop i) i=if hitB q L[i] then (i:Int) else fdI q (L.drop (i+1)) (i+1):=by
 rw [List.drop_eq_getElem_cons h,fdI]
theorem index_any (q:Vl) (lv cv:Value) (b:Nat) (L:List Vl) (v:Value) (w:World) (hv:SV w v L) (hq:B11 w b q lv cv) (hl:SLb w lv q.d.labels) (hc:SN w cv q.cs) :
  Calls Tryz.prog 296 #[v,.func (.func 297) #[] #[.pointer (some ⟨b,0,none⟩)]] w fun e w'=>e=.returned (.int .i64 (fdI q L 0))∧Below w.heap.size w w':=by
 obtain ⟨ao,c,o,cap,rfl,hao,hcap,hcap2,hr⟩:=hv.open
 obtain ⟨R,hR⟩:∃ R,R=fdI q L 0:=⟨_,rfl⟩
 rw [← hR]
 have HR0:Hid (R=fdI q (L.drop 0) 0):=hR
 have HRr:=hid_of hr
 have HQ:=hid_of (⟨hq,hl,hc⟩:_∧_∧_)
 clear hR hr hq hl hc hv
 go_enter Tryz.func296,Tryz.ntmps296
 go_upto_region 2 with fail
 go_loopw [8] (fun x W=>∃ i:Nat,i≤L.length∧x=.int .i64 (i:Int)∧Hid (R=fdI q (L.drop i) i)∧Hid (Below w.heap.size w W)) (fun x _=>L.length - (intOf x).toNat)
 case atStart=>exact ⟨0,by omega,rfl,HR0,Below.refl _ _⟩
 case round =>
  clear HR0
  obtain ⟨i,hi,rfl,HR,HB⟩:=hrel
  by_cases hlt:i < L.length
  ·have hlt':(i:Int) < (L.length:Int):=by omega
   obtain rfl:=hao (by intro e;rw [e] at hlt;simp at hlt)
   obtain ⟨lw,cw,g1,g2,g3⟩:=HRr.out.below HB.out i hlt
   have hix:=index_val c o L.length cap i (i:Int) rfl hlt
   have HH:Hid (∀ _:Unit,Calls Tryz.prog 297 #[vx L[i] lw cw,.pointer (some ⟨b,0,none⟩)] wr fun e w'=>e=.returned (.bool (hitB q L[i]))∧Below wr.heap.size wr w'):=fun _=>hit_any q L[i] lv cv _ b wr ⟨lw,cw,rfl,g2,g3⟩ (by have:=lt_of_cell HQ.out.1.c0;have:=HB.out.size;simp only at *;omega) (HQ.out.1.below HB.out) (HQ.out.2.1.below HB.out) (HQ.out.2.2.below HB.out)
   have hS:=HR.out
   rw [fdI_drop q L i hlt] at hS
   obtain ⟨r0,r1,r2,r3,r4,r5,r6,r7,r8,r9,r10⟩:=g1.cC
   clear g1 g2 g3 HR
   generalize hitB q L[i]=hb at *
   cases hb
   ·rw [if_neg (by decide)] at hS
    have HS:=hid_of hS
    clear hS
    go_wp2_with (go_at_call 297;with_reducible refine (HH.out ()).mono ?_;rintro e w1 ⟨rfl,hb1⟩)
    exact ⟨⟨i+1,by omega,by go_num,HS,bt HB.out hb1⟩,by simp [intOf];omega⟩
   ·rw [if_pos rfl] at hS
    have HS:=hid_of hS
    clear hS
    go_wp2_with (go_at_call 297;with_reducible refine (HH.out ()).mono ?_;rintro e w1 ⟨rfl,hb1⟩)
    go_ret
    exact ⟨by rw [HS.out];rfl,bt HB.out hb1⟩
  ·have hlt':¬ (i:Int) < (L.length:Int):=by omega
   have hS:=HR.out
   rw [List.drop_eq_nil_of_le (by omega)] at hS
   have HS:Hid (R=-1):=hS
   clear HR hS
   go_wp2_with fail
   go_ret
   exact ⟨by rw [HS.out];rfl,HB.out⟩
def qV (n:List UInt8) (lb:List La.Lb):Vl:=⟨⟨0,n,[],lb⟩,0,[],0,0,0,0⟩
theorem splace_any (s:Sn) (v:Value) (n:List UInt8) (lv:Value) (lb:List La.Lb) (w:World) (hv:SnAt w s v) (hl:SLb w lv lb) :
  Calls Tryz.prog 289 #[v,.string ⟨n.toArray⟩,lv] w fun e w'=>e=.returned (.int .i64 (fdI (qV n lb) s.vs 0))∧Below w.heap.size w w':=by
 obtain ⟨u,rfl,hu⟩:=hv
 obtain ⟨la,lc,rfl⟩:=hl.form
 obtain ⟨ao,c,o,cap,rfl,-⟩:=hu.open
 have HI:Hid (∀ o1:Obj,Calls Tryz.prog 296 #[.slice ao s.vs.length cap,.func (.func 297) #[] #[.pointer (some ⟨w.heap.size+1,0,none⟩)]] ((w.alloc o1).alloc (.cells #[.int .i64 0,.string ⟨n.toArray⟩,.string ⟨#[]⟩,.slice la lb.length lc,.int .i64 0,.int .u64 0,.slice none 0 0,.int .u64 0,.float .f64 0,.float .f64 0,.float .f64 0] 86)) fun e w'=>e=.returned (.int .i64 (fdI (qV n lb) s.vs 0))∧Below w.heap.size w w'):=fun o1=>by
  have hh:((w.alloc o1).alloc (.cells #[.int .i64 0,.string ⟨n.toArray⟩,.string ⟨#[]⟩,.slice la lb.length lc,.int .i64 0,.int .u64 0,.slice none 0 0,.int .u64 0,.float .f64 0,.float .f64 0,.float .f64 0] 86)).heap[w.heap.size+1]? =some (.cells #[.int .i64 0,.string ⟨n.toArray⟩,.string ⟨#[]⟩,.slice la lb.length lc,.int .i64 0,.int .u64 0,.slice none 0 0,.int .u64 0,.float .f64 0,.float .f64 0,.float .f64 0] 86 (0,0)):=by
   have:=new_1 (w.alloc o1) (.cells #[.int .i64 0,.string ⟨n.toArray⟩,.string ⟨#[]⟩,.slice la lb.length lc,.int .i64 0,.int .u64 0,.slice none 0 0,.int .u64 0,.float .f64 0,.float .f64 0,.float .f64 0] 86)
   rw [show (w.alloc o1).heap.size=w.heap.size+1 by simp] at this
   exact this
  obtain ⟨k0,k1,k2,k3,k4,k5,k6,k7,k8,k9,k10⟩:=eleven_cells (hid_of hh)
  have hb:=bel2 w o1 (.cells #[.int .i64 0,.string ⟨n.toArray⟩,.string ⟨#[]⟩,.slice la lb.length lc,.int .i64 0,.int .u64 0,.slice none 0 0,.int .u64 0,.float .f64 0,.float .f64 0,.float .f64 0] 86)
  refine (index_any (qV n lb) (.slice la lb.length lc) (.slice none 0 0) (w.heap.size+1) s.vs _ _ (hu.below hb) ⟨k0,k1,k2,k3,k4,k5,k6,k7,k8,k9,k10⟩ (hl.below hb) (Or.inl ⟨rfl,rfl⟩)).mono ?_
  rintro e w' ⟨rfl,hb'⟩
  exact ⟨rfl,bt hb hb'⟩
 have sF:=store_f
 clear hu hl
 generalize fdI (qV n lb) s.vs 0=R at *
 go_enter Tryz.func289,Tryz.ntmps289
 go_wp2_with (go_at_call 296;with_reducible refine (HI.out _).mono ?_;rintro e w1 ⟨rfl,hb1⟩)
 go_ret
 exact ⟨rfl,hb1⟩
end Go.Proofs.YtlgkfeeclgcgbaaGreatDoor
/- WHAT STANDS IN A SNAPSHOT: Find, the code's. Own work of the verifier. -/
set_option maxRecDepth 100000
set_option maxHeartbeats 8000000
namespace Go.Proofs.YtlgkfeeclgcgbaaGreatDoor
open Go.RowKit Me
theorem fdI_cases (q:Vl) (L:List Vl):∀ i:Nat,fdI q L i=-1∨∃ j:Nat,j < L.length∧fdI q L i=((i+j:Nat):Int):=by
 induction L with
 | nil=>intro i;exact Or.inl rfl
 | cons x r ih =>
  intro i
  rw [fdI]
  split
  ·exact Or.inr ⟨0,by simp,by simp⟩
  ·rcases ih (i+1) with h | ⟨j,hj,h⟩
   ·exact Or.inl h
   ·exact Or.inr ⟨j+1,by simpa using hj,by rw [h];congr 1;omega⟩
def fndS (s:Sn) (n:List UInt8) (lb:List La.Lb):Vl × Int:=if fdI (qV n lb) s.vs 0 < 0 then (zV,6) else (s.vs.getD (fdI (qV n lb) s.vs 0).toNat zV,0)
def FnQ (w:World) (s:Sn) (n:List UInt8) (lb:List La.Lb) (e:Ending) (w':World):Prop:=∃ lv cv,e=.returned (.tuple #[vx (fndS s n lb).1 lv cv,.int .i64 (fndS s n lb).2])∧OwnL w.heap.size lv (fndS s n lb).1.d.labels w'∧OwnC w.heap.size cv (fndS s n lb).1.cs w'∧Below w.heap.size w w'
structure Fb (w:World) (s:Sn) (u:Value) (W:World):Prop where
 g1:W.heap[w.heap.size]? =some (.cells #[.int .i64 s.p,u,.int .u64 (s.r:Int)] 50 (0,0))
 g2:W.heap[w.heap.size+1]? =some (.cells zc 86 (0,0))
 bl:Below w.heap.size w W
theorem Fb.below {w W W1:World} {s:Sn} {u:Value} (h:Fb w s u W) (hb:Below W.heap.size W W1):Fb w s u W1:=⟨hkN h.g1 hb,hkN h.g2 hb,bt h.bl hb⟩
theorem Fb.new (w:World) (s:Sn) (u:Value):Fb w s u ((w.alloc (.cells #[.int .i64 s.p,u,.int .u64 (s.r:Int)] 50)).alloc (.cells zc 86)):=by
 have n2:=new_1 (w.alloc (.cells #[.int .i64 s.p,u,.int .u64 (s.r:Int)] 50)) (.cells zc 86)
 rw [show (w.alloc (.cells #[.int .i64 s.p,u,.int .u64 (s.r:Int)] 50)).heap.size=w.heap.size+1 by simp] at n2
 exact ⟨hkN (new_1 w _) (bel1 _ _),n2,bel2 _ _ _⟩
theorem find_any (s:Sn) (v:Value) (n:List UInt8) (lv:Value) (lb:List La.Lb) (w:World) (hv:SnAt w s v) (hl:SLb w lv lb) (fw:∀ x ∈ s.vs,x.d.labels.length≤1048576∧x.cs.length≤1048576) :
  Calls Tryz.prog 284 #[v,.string ⟨n.toArray⟩,lv] w fun e w'=>FnQ w s n lb e w':=by
 obtain ⟨u,rfl,hu⟩:=hv
 obtain ⟨ao,c,o,cap,rfl,hao,hcap,hcap2,hr⟩:=hu.open
 have HP:Hid (∀ W,Below w.heap.size w W→Calls Tryz.prog 289 #[.agg #[.int .i64 s.p,.slice ao s.vs.length cap,.int .u64 (s.r:Int)],.string ⟨n.toArray⟩,lv] W fun e w'=>e=.returned (.int .i64 (fdI (qV n lb) s.vs 0))∧Below W.heap.size W w'):=fun W h=>splace_any s _ n lv lb W ⟨_,rfl,hu.below h⟩ (hl.below h)
 have HN:=hid_of (Fb.new w s (.slice ao s.vs.length cap))
 have HRr:=hid_of hr
 have HFw:=hid_of fw
 have hcs:=fdI_cases (qV n lb) s.vs 0
 obtain ⟨R,hR⟩:∃ R,fndS s n lb=R:=⟨_,rfl⟩
 have HRR:=hid_of hR
 unfold fndS at hR
 obtain ⟨z,hz⟩:∃ z,fdI (qV n lb) s.vs 0=z:=⟨_,rfl⟩
 rw [hz] at hR HP hcs
 have HD:=hid_of hR
 clear hR hz hu hr fw hl
 have sF:=store_f
 go_enter Tryz.func284,Tryz.ntmps284
 go_upto_region 1 with fail
 generalize (w.alloc (.cells #[.int .i64 s.p,.slice ao s.vs.length cap,.int .u64 (s.r:Int)] 50)).alloc (.cells #[.int .i64 0,.string ⟨#[]⟩,.string ⟨#[]⟩,.slice none 0 0,.int .i64 0,.int .u64 0,.slice none 0 0,.int .u64 0,.float .f64 0,.float .f64 0,.float .f64 0] 86)=w0 at HN ⊢
 obtain ⟨c0,c1,c2,_,_,_⟩:=three_cells HN.out.g1
 go_upto_region 2 with (go_at_call 289;with_reducible refine (HP.out _ HN.out.bl).mono ?_;rintro e w1 ⟨rfl,hb1⟩)
 have HJ1:=hid_of (HN.out.below hb1)
 clear c0 c1 c2 HN HP hb1
 obtain ⟨c0,c1,c2,_,_,_⟩:=three_cells HJ1.out.g1
 rcases hcs with rfl | ⟨j,hj,hzj⟩
 ·rw [if_pos (by decide)] at HD
  obtain ⟨z0,z1,z2,z3,z4,z5,z6,z7,z8,z9,z10⟩:=eleven_cells (hid_of HJ1.out.g2)
  obtain ⟨f0,f1,f2,f3,f4,f5,f6,f7,f8,f9,f10⟩:=eleven_fr (hid_of HJ1.out.g2)
  go_wp2_with fail
  rw [put11_eq]
  have HS:=hid_of (set_eleven (v0:=.int .i64 0) (v1:=.string ⟨#[]⟩) (v2:=.string ⟨#[]⟩) (v3:=.slice none 0 0) (v4:=.int .i64 0) (v5:=.int .u64 0) (v6:=.slice none 0 0) (v7:=.int .u64 0) (v8:=.float .f64 0) (v9:=.float .f64 0) (v10:=.float .f64 0) HJ1.out.g2)
  obtain ⟨y0,y1,y2,y3,y4,y5,y6,y7,y8,y9,y10⟩:=eleven_cells HS
  simp [bodyPost,results,go_sem,y0,y1,y2,y3,y4,y5,y6,y7,y8,y9,y10]
  have hE:=HRR.out.trans HD.out.symm
  exact ⟨.slice none 0 0,.slice none 0 0,by rw [hE,vx_zero],by rw [hE];exact World.ownsRow_nil _ _ _ _,by rw [hE];exact World.ownsRow_nil _ _ _ _,put11_bel HJ1.out.bl (by omega) _ _ _ _ _ _ _ _ _ _ _⟩
 ·rw [Nat.zero_add] at hzj
  subst hzj
  rw [if_neg (by omega)] at HD
  have hnl:¬ ((j:Nat):Int) < 0:=by omega
  obtain rfl:=hao (by intro e;rw [e] at hj;simp at hj)
  have hRV:=HRr.out.below HJ1.out.bl
  obtain ⟨lw,cw,g1,g2,g3⟩:=hRV j hj
  have hix:=index_val c o s.vs.length cap j (j:Int) rfl hj
  have hf:=HFw.out _ (List.getElem_mem hj)
  have HCp:Hid (∀ _:Unit,Calls Tryz.prog 290 #[vx s.vs[j] lw cw] w1 fun e w'=>CpQ w1 s.vs[j] e w'):=fun _=>copied_any s.vs[j] _ w1 ⟨lw,cw,rfl,g2,g3⟩ hf.1 hf.2
  have HG:Hid (s.vs.getD (((j:Nat):Int)).toNat zV=s.vs[j]):=by
   unfold Hid
   rw [Int.toNat_natCast,List.getD_eq_getElem?_getD,List.getElem?_eq_getElem hj]
   rfl
  rw [HG.out] at HD
  obtain ⟨r0,r1,r2,r3,r4,r5,r6,r7,r8,r9,r10⟩:=g1.cC
  clear g1 g2 g3 hRV HG hf HFw HRr
  generalize s.vs[j]=x at *
  have hs1:w.heap.size+1 < w1.heap.size:=(Array.getElem?_eq_some_iff.1 HJ1.out.g2).1
  go_wp2_with (go_at_call 290;refine (HCp.out ()).mono ?_;rintro e w2 ⟨lv2,cv2,rfl,hl2,hc2,hb2⟩;obtain ⟨la2,lb2,lc2,rfl,-⟩:=own_slice hl2;obtain ⟨ca2,cb2,cc2,rfl,-⟩:=own_slice hc2;have HJ2:=hid_of (HJ1.out.below hb2);obtain ⟨z0,z1,z2,z3,z4,z5,z6,z7,z8,z9,z10⟩:=eleven_cells (hid_of HJ2.out.g2);obtain ⟨f0,f1,f2,f3,f4,f5,f6,f7,f8,f9,f10⟩:=eleven_fr (hid_of HJ2.out.g2))
  rw [put11_eq]
  have HS:=hid_of (set_eleven (v0:=.int .i64 x.d.kind) (v1:=.string ⟨x.d.name.toArray⟩) (v2:=.string ⟨x.d.help.toArray⟩) (v3:=.slice la2 x.d.labels.length lc2) (v4:=.int .i64 (hiOf x.t)) (v5:=.int .u64 (loOf x.t)) (v6:=.slice ca2 x.cs.length cc2) (v7:=.int .u64 (x.n:Int)) (v8:=.float .f64 x.sum) (v9:=.float .f64 x.mn) (v10:=.float .f64 x.mx) HJ2.out.g2)
  obtain ⟨y0,y1,y2,y3,y4,y5,y6,y7,y8,y9,y10⟩:=eleven_cells HS
  simp [bodyPost,results,go_sem,y0,y1,y2,y3,y4,y5,y6,y7,y8,y9,y10]
  have hE:=HRR.out.trans HD.out.symm
  exact ⟨.slice la2 x.d.labels.length lc2,.slice ca2 x.cs.length cc2,by rw [hE],by rw [hE];exact own_leG (own_put11 hl2 (own_ne hl2 hs1) _ _ _ _ _ _ _ _ _ _ _) HJ1.out.bl.size,by rw [hE];exact own_leG (own_put11 hc2 (own_ne hc2 hs1) _ _ _ _ _ _ _ _ _ _ _) HJ1.out.bl.size,put11_bel HJ2.out.bl (by omega) _ _ _ _ _ _ _ _ _ _ _⟩
end Go.Proofs.YtlgkfeeclgcgbaaGreatDoor
/- THE LAW'S one. Own work of the verifier. -/
namespace Go.Proofs.YtlgkfeeclgcgbaaGreatDoor
open Go.RowKit Me
def oneV (n:Nat):Vl:=⟨⟨1,[99],[],[]⟩,(n:Int),[],0,0,0,0⟩
def oneS (n:Nat):Sn:=⟨2,[oneV n],0⟩
theorem one_chkD (n:Nat):La.chkD (oneV n).d=0:=by
 show La.chkD ⟨1,[99],[],[]⟩=0
 decide +kernel
theorem one_hold (n:Nat):holdB 2 (oneV n)=true:=by
 unfold holdB
 rw [if_pos (show (oneV n).d.kind=1 from rfl)]
 simp [oneV,fz]
theorem one_chk1 (n:Nat):chk1 2 none (oneV n)=0:=by
 unfold chk1
 rw [if_neg (by simp [one_chkD n]),if_neg (by rw [one_hold n];decide)]
theorem one_chkS (n:Nat):chkS (oneS n)=(0,0):=by
 unfold chkS oneS
 rw [if_neg (by simp),if_neg (by simp)]
 show chkV 2 none [oneV n] 0=(0,0)
 rw [chkV,if_neg (by simp [one_chk1 n])]
 rfl
theorem one_W (n:Nat) (h:n < 9223372036854775808):SnW (oneS n):=by
 refine ⟨fun x hx=>?_,by show 0 < _;omega⟩
 rw [show (oneS n).vs=[oneV n] from rfl,List.mem_singleton] at hx
 subst hx
 exact ⟨⟨by show _≤(n:Int);omega,by show (n:Int) < _;omega⟩,(fun c hc=>by cases hc),by show 0≤_;omega,by show 0 < _;omega,by show 0 < _;omega,by show 0 < _;omega,by show 0 < _;omega,⟨by show 1≤_;omega,by show 0≤_;omega,fun a ha=>by cases ha⟩⟩
end Go.Proofs.YtlgkfeeclgcgbaaGreatDoor
