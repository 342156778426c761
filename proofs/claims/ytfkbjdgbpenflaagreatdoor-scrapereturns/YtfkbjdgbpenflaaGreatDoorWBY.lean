/- THE TEXT OF A VALUE THAT MAY BE, as the reader meets it. Own work of the verifier. -/
import Derived.Test.YtfkbjdgbpenflaaGreatDoorWBN
import Derived.Test.YtfkbjdgbpenflaaGreatDoorWBX
import Derived.Test.YtfkbjdgbpenflaaGreatDoorWAC
import Derived.Test.YtfkbjdgbpenflaaGreatDoorWAI
import Derived.Test.YtfkbjdgbpenflaaGreatDoorWBC
namespace Go.Proofs.YtfkbjdgbpenflaaGreatDoor.Sc
open Go.RowKit Me
theorem dec_itoa (m:Nat):Lib.decDigits m=Lib.itoa (m:Int):=by
 rw [Wi.itoa_pos' (by omega)]
 unfold Wi.mag
 rw [if_neg (by omega),Int.toNat_natCast]
theorem wid_it {n:Int} (h:InR n):widR (Lib.itoa n)=some n:=wid_itoa (Wi.readF_itoa h) (Wi.itoa_len h)
theorem who_dec (m:Nat) (h:m < 18446744073709551616):whoR (Lib.decDigits m)=some m:=by
 rw [dec_itoa]
 exact who_wid (wid_it ⟨by omega,by omega⟩) h
theorem hi_ne {l:List UInt8} (h:Hi l):∀ b ∈ l,b≠32∧b≠10:=fun b hb=>⟨fun e=>by
 have:=h b hb
 rw [e] at this
 exact absurd this (by decide),fun e=>by
 have:=h b hb
 rw [e] at this
 exact absurd this (by decide)⟩
theorem hi_q {l:List UInt8} (h:Hi l):∀ b ∈ l,b≠34∧b≠10:=fun b hb=>⟨fun e=>by
 have:=h b hb
 rw [e] at this
 exact absurd this (by decide),(hi_ne h b hb).2⟩
theorem rpf_text (x:Nat) (hx:x < 18446744073709551616) (hf:Re.finF x=true):RPf (Rl.pText x) x:=fun W hm=>by
 unfold Re.finF at hf
 have hf':=of_decide_eq_true hf
 refine (Rl.Parse_all x hx W hm.g hm.p hm.g.glob.pow.lt).mono ?_
 rintro e w' ⟨⟨u,rfl,hb⟩,hB⟩
 rw [hb.1 (by omega)]
 exact ⟨rfl,hB⟩
def lsS (L:List La.Lb):List UInt8:=if L=[] then [] else La.prJ L++[44]
theorem prB_snoc (r:List La.Lb) (a:La.Lb):La.prB false (r++[a])=La.prB false r++44::La.lbT a:=by
 induction r with
 | nil=>simp [La.prB]
 | cons b r ih=>rw [List.cons_append,La.prB,La.prB,ih];simp
theorem print_more (n:List UInt8) (L:List La.Lb) (a:La.Lb):La.printT n (L++[a])=n++[123]++lsS L++La.lbT a++[125]:=by
 unfold La.printT lsS
 rw [if_neg (by simp)]
 cases L with
 | nil=>simp [La.prB]
 | cons b r =>
  rw [if_neg (by simp),List.cons_append,La.prB,prB_snoc,La.prJ]
  simp
theorem chkD_l {d:La.Ds} (h:La.chkD d=0):La.nameB d.name=true∧La.chkL d.labels none=0:=by
 unfold La.chkD at h
 split at h
 ·exact absurd h (by decide)
 ·cases h1:La.nameB d.name
  ·rw [if_pos h1] at h;exact absurd h (by decide)
  ·rw [if_neg (by rw [h1];decide)] at h
   by_cases h2:La.txE d.help=0
   ·rw [if_neg (by simpa using h2)] at h
    split at h
    ·exact absurd h (by decide)
    ·exact ⟨rfl,h⟩
   ·rw [if_pos h2] at h;exact absurd h h2
theorem lab_print {d:La.Ds} (h:La.chkD d=0):labR d.name (La.printT d.name d.labels)=some d.labels:=by
 obtain ⟨h1,h2⟩:=chkD_l h
 unfold labR
 rw [La.par_print _ _ h1 (chkD_z h).l h2]
 show (if _ then _ else _)=_
 rw [if_pos rfl]
theorem oth_ls {d:La.Ds} (h:La.chkD d=0):othR d.name (lsS d.labels)=some d.labels:=by
 unfold othR lsS
 by_cases h0:d.labels=[]
 ·rw [if_pos h0,if_pos rfl,h0]
 ·rw [if_neg h0,if_neg (by simp),if_pos (suf_yes _ _),suf_off,← lab_print h]
  unfold La.printT
  rw [if_neg (by simpa using h0),La.prB_true _ h0]
  simp
theorem nf_prJ {L:List La.Lb} (h:∀ a ∈ L,Nf a.1):Nf (La.prJ L):=by
 cases L with
 | nil=>exact Nf.nil
 | cons a r=>exact (nf_lb (h a List.mem_cons_self)).app (nf_pr r false (fun b hb=>h b (List.mem_cons_of_mem _ hb)))
theorem nf_ls {L:List La.Lb} (h:∀ a ∈ L,Nf a.1):Nf (lsS L):=by
 unfold lsS
 split
 ·exact Nf.nil
 ·exact (nf_prJ h).app (nf_lit _ (by decide))
theorem nf_ds {d:La.Ds} (h:DOk d):∀ a ∈ d.labels,Nf a.1:=fun a ha=>nf_plain (h.v a ha).1
theorem dec_le (n:Nat):∀ b ∈ Lib.decDigits n,b.toNat≤57:=by
 induction n using Nat.strongRecOn with
 | _ n ih =>
  by_cases h:n < 10
  ·rw [Wi.dec_small h]
   intro b hb
   rw [List.mem_singleton.1 hb,UInt8.toNat_ofNat']
   omega
  ·rw [Wi.dec_big h]
   intro b hb
   rcases List.mem_append.1 hb with q | q
   ·exact ih _ (by omega) b q
   ·rw [List.mem_singleton.1 q,UInt8.toNat_ofNat']
    omega
theorem esc_id:∀ {l:List UInt8},(∀ b ∈ l,b.toNat≠92∧b.toNat≠34∧b.toNat≠10)→La.escL true l=l
 | [],_=>rfl
 | b::r,h=>by
  obtain ⟨h1,h2,h3⟩:=h b List.mem_cons_self
  rw [La.escL,esc_id (fun c hc=>h c (List.mem_cons_of_mem _ hc))]
  unfold La.esc1
  rw [if_neg (by omega),if_neg h3]
  rfl
theorem esc_dec (n:Nat):La.escL true (Lib.decDigits n)=Lib.decDigits n:=esc_id fun b hb=>by
 have:=dec_le n b hb
 have:=hi_dec n b hb
 omega
theorem se_line (d:La.Ds) (en nu:List UInt8):seT d en [] nu=(La.printT (d.name++en) d.labels++32::nu)++[10]:=by
 unfold seT lnT
 simp
theorem se_more (d:La.Ds) (en a y nu:List UInt8) (hy:La.escL true y=y):seT d en [(a,y)] nu=((d.name++en++[123]++lsS d.labels++((a++[61,34])++y))++[34,125]++32::nu)++[10]:=by
 unfold seT lnT
 rw [print_more]
 unfold La.lbT
 simp [hy]
theorem bk_flat (d:La.Ds) (P:Nat) (R:List UInt8):∀ (C:List Cn) (a:Nat),(bkL d P a C).flatten++(seT d buE [(leN,inN)] (Lib.decDigits (a+(C.map (·.2)).sum))++R)=bkTx (d.name++bkB++lsS d.labels) (fun i=>Lib.decDigits (hiV P i)) Lib.decDigits a C R
 | [],a=>by
  rw [bkL,bkTx,se_more _ _ _ _ _ (by decide)]
  simp
 | c::C,a=>by
  have ih:=bk_flat d P R C (a+c.2)
  rw [bkL,bkTx,← ih,List.flatten_cons,← dec_itoa,se_more _ _ _ _ _ (esc_dec _)]
  simp [Nat.add_assoc]
theorem txw {p:Nat} (hp:p≤14):TxW p (fun i=>Lib.decDigits (hiV p i)) Lib.decDigits:=by
 refine ⟨fun i hi=>⟨who_dec _ ?_,fun e=>?_,hi_q (hi_dec _)⟩,fun m hm=>⟨who_dec m hm,hi_ne (hi_dec _)⟩⟩
 ·have:=hi_top hi hp
  unfold hiV
  omega
 ·have:=dec_le (hiV p i) 73 (by rw [e];decide)
  exact absurd this (by decide)
theorem flat_ge:∀ {A:List (List UInt8)},(∀ l ∈ A,Lno l)→A.length≤A.flatten.length
 | [],_=>by simp
 | l::A,h=>by
  have:=flat_ge (A:=A) (fun x hx=>h x (List.mem_cons_of_mem _ hx))
  obtain ⟨t,rfl,-,-⟩:=h l List.mem_cons_self
  rw [List.flatten_cons,List.length_append,List.length_append,List.length_cons,List.length_cons,List.length_nil]
  omega
theorem va_all {p:Nat} {x:Vl} (hp:p≤14) (hd:La.chkD x.d=0) (hb:holdB (p:Int) x=true) (hw:VW x) (T':List UInt8):VaR p x ((vlL p x).flatten++T') T' (cnV x):=by
 have hk:=chkD_z hd
 have n1:=nf_plain hk.n
 have n2:=nf_ds hk
 have pr:∀ en:List UInt8,Nf en→Nf (La.printT (x.d.name++en) x.d.labels):=fun en h=>nf_print (n1.app h) n2
 have hb0:=hb
 unfold holdB at hb
 rcases hk.k with k | k | k
 ·rw [if_pos k] at hb
  simp only [Bool.and_eq_true,decide_eq_true_eq] at hb
  obtain ⟨z1,z2,z3⟩:=fz_z hb.2
  have e:(vlL p x).flatten++T'=(La.printT x.d.name x.d.labels++32::Lib.itoa x.t)++10::T':=by
   unfold vlL ctL
   rw [if_pos k,List.flatten_singleton,se_line]
   simp
  have ec:cnV x=1:=by unfold cnV;rw [if_pos k]
  have p0:=pr [] Nf.nil
  rw [List.append_nil] at p0
  rw [e,ec]
  refine va_cnt k ?_ p0 (fun b h=>(hi_ne (hi_itoa _) b h).1) (fun b h=>(hi_ne (hi_itoa _) b h).2) (lab_print hd) (wid_it hw.t)
  exact vl_ext rfl rfl (len_z hb.1.1.2) hb.1.2 z1 z2 z3
 ·have hm:=hold_may hb0 k
  obtain ⟨-,m2,m3⟩:=may_ok hm
  rw [if_neg (by omega),if_pos k] at hb
  simp only [Bool.and_eq_true] at hb
  have hz:=fz_z hb.2
  have h1:=hb.1
  unfold cntB at h1
  simp only [Bool.and_eq_true,decide_eq_true_eq] at h1
  have hn:x.n=(x.cs.map (·.2)).sum:=by
   have:=h1.1.2
   unfold tot at this
   unfold sumN at m2
   omega
  have e:(vlL p x).flatten++T'=bkTx (x.d.name++bkB++lsS x.d.labels) (fun i=>Lib.decDigits (hiV p i)) Lib.decDigits 0 x.cs ((La.printT (x.d.name++[95,115,117,109]) x.d.labels++32::Lib.itoa x.t)++10::((La.printT (x.d.name++[95,99,111,117,110,116]) x.d.labels++32::Lib.decDigits x.n)++10::T')):=by
   rw [← bk_flat,Nat.zero_add,← hn]
   unfold vlL hgL
   rw [if_neg (by omega),if_pos k,List.flatten_append,List.flatten_cons,List.flatten_cons,List.flatten_singleton,se_line,se_line]
   simp
  have ec:cnV x=x.cs.length+3:=by unfold cnV;rw [if_neg (by omega),if_pos k]
  rw [e,ec]
  refine va_hist k (txw hp) (oth_ls hd) ((n1.app (nf_lit _ (by decide))).app (nf_ls n2)) (fun c hc=>?_) hn hw.n hz (List.pairwise_iff_getElem.2 (fun i j hi hj hij=>may_rise hm j i hj hi hij)) (wid_it hw.t) (hi_ne (hi_itoa _)) (pr _ (nf_lit _ (by decide))) (pr _ (nf_lit _ (by decide)))
  obtain ⟨i,hi,rfl⟩:=List.mem_iff_getElem.1 hc
  obtain ⟨q1,q2,q3⟩:=m3 i hi
  refine ⟨x.cs[i].1.toNat,by omega,?_,by omega⟩
  rw [Int.toNat_natCast] at q2
  omega
 ·rw [if_neg (by omega),if_neg (by omega)] at hb
  simp only [Bool.and_eq_true,decide_eq_true_eq] at hb
  obtain ⟨⟨t1,q1⟩,f1⟩:=hb
  unfold flB at f1
  split at f1
  ·exact absurd f1 (by decide)
  ·split at f1
   ·rename_i hn
    obtain ⟨z1,z2,z3⟩:=fz_z f1
    have e:(vlL p x).flatten++T'=(La.printT (x.d.name++sumW) x.d.labels++32::Rl.pText x.sum)++10::((La.printT (x.d.name++cntW) x.d.labels++32::Lib.decDigits x.n)++10::T'):=by
     unfold vlL smL
     rw [if_neg (by omega),if_neg (by omega),if_neg (by omega),List.nil_append,List.flatten_cons,List.flatten_singleton,se_line,se_line]
     simp
    have ec:cnV x=2:=by unfold cnV;rw [if_neg (by omega),if_neg (by omega),if_neg (by omega)]
    rw [e,ec]
    refine va_summ0 (S:=La.prB true x.d.labels++(if x.d.labels.length=0 then [] else [125])) k (len_z q1) t1 ?_ ?_ hn ⟨z2,z3⟩ (who_dec _ hw.n) (rpf_text _ hw.sum (by rw [z1];decide)) (hi_ne (hi_text _)) (hi_ne (hi_dec _)) (pr _ (nf_lit _ (by decide))) (pr _ (nf_lit _ (by decide)))
    ·unfold La.printT
     simp
    ·have:=lab_print hd
     unfold La.printT at this
     rw [List.append_assoc] at this
     exact this
   ·rename_i hn
    simp only [Bool.and_eq_true] at f1
    have e:(vlL p x).flatten++T'=quLn (x.d.name++[123]++lsS x.d.labels) [48] (Rl.pText x.mn)++10::(quLn (x.d.name++[123]++lsS x.d.labels) [49] (Rl.pText x.mx)++10::((La.printT (x.d.name++sumW) x.d.labels++32::Rl.pText x.sum)++10::((La.printT (x.d.name++cntW) x.d.labels++32::Lib.decDigits x.n)++10::T'))):=by
     unfold vlL smL
     rw [if_neg (by omega),if_neg (by omega),if_pos (by omega),List.flatten_append,List.flatten_cons,List.flatten_singleton,List.flatten_cons,List.flatten_singleton,se_line,se_line,se_more _ _ _ _ _ (by decide),se_more _ _ _ _ _ (by decide)]
     simp
    have ec:cnV x=4:=by unfold cnV;rw [if_neg (by omega),if_neg (by omega),if_pos (by omega)]
    rw [e,ec]
    exact va_summ k (len_z q1) t1 (oth_ls hd) ((n1.app (nf_lit _ (by decide))).app (nf_ls n2)) hn (who_dec _ hw.n) (rpf_text _ hw.mn f1.1.1.2) (rpf_text _ hw.mx f1.1.2) (rpf_text _ hw.sum f1.1.1.1) (hi_ne (hi_text _)) (hi_ne (hi_text _)) (hi_ne (hi_text _)) (hi_ne (hi_dec _)) (pr _ (nf_lit _ (by decide))) (pr _ (nf_lit _ (by decide)))
def Lk:La.Ds→List Vl→Prop
 | _,[]=>True
 | d,x::r=>(x.d.name=d.name→x.d.kind=d.kind∧x.d.help=d.help)∧Lk x.d r
theorem Lk.as {d d':La.Ds} {L:List Vl} (h:Lk d L) (e1:d'.name=d.name) (e2:d'.kind=d.kind) (e3:d'.help=d.help):Lk d' L:=by
 cases L with
 | nil=>trivial
 | cons x r=>exact ⟨fun k=>by rw [e2,e3];exact h.1 (by rw [k,e1]),h.2⟩
theorem lk_chk (p:Int):∀ (L:List Vl) (y:Vl) (i:Nat),(chkV p (some y) L i).1=0→Lk y.d L
 | [],_,_,_=>trivial
 | x::r,y,i,h=>by
  rw [chkV] at h
  by_cases hz:chk1 p (some y) x=0
  ·rw [if_neg (by simpa using hz)] at h
   exact ⟨fun k=>by obtain ⟨a,b⟩:=like_z hz k.symm;exact ⟨a.symm,b.symm⟩,lk_chk p r x _ h⟩
  ·rw [if_pos hz] at h
   exact absurd h hz
def Vok (p:Nat) (x:Vl):Prop:=La.chkD x.d=0∧holdB (p:Int) x=true∧VW x
theorem vl_txt {p:Nat} {x:Vl} (hd:DOk x.d):∃ b r,(vlL p x).flatten=b::r∧b≠35:=by
 obtain ⟨en,M,nu,r,e⟩:=vl_first (P:=p) x
 obtain ⟨b,t,e1,e2⟩:=plain_first hd.n
 rw [e,List.flatten_cons]
 unfold seT lnT La.printT
 rw [e1]
 refine ⟨b,_,rfl,fun k=>?_⟩
 rw [k] at e2
 exact absurd e2 (by decide)
theorem vl_cnt {p:Nat} {x:Vl} (hd:DOk x.d):cnV x≤(vlL p x).flatten.length:=by
 rw [← vl_len p x]
 exact flat_ge (lno_vl hd)
theorem fa_text {p:Nat} {d:La.Ds} {xs:List Vl} {T1 T':List UInt8} {k:Nat} (hd:La.chkD d=0) (hL:SeL p d xs T1 T' k):FaR p d xs (heT d++(tyT d++T1)) T' (k+1):=by
 have hk:=chkD_z hd
 have e:heT d++(tyT d++T1)=([35,32,72,69,76,80,32]++(d.name++32::La.escL false d.help))++10::(([35,32,84,89,80,69,32]++d.name++[32]++kdT d.kind)++10::T1):=by
  unfold heT tyT lnT
  simp
 rw [e]
 refine fa_by (chkD_l hd).1 (fun b hb q=>?_) (nf_plain hk.n) (La.esc_un _) (nf_esc false _) ?_ (by rcases hk.k with k | k | k <;> omega) (nf_kd _) hL
 ·have:=row_gd true _ (plain_z hk.n).2.2 b hb
  rw [q] at this
  exact absurd this (by decide)
 ·rcases hk.k with k | k | k <;> rw [k] <;> rfl
def Fms (p:Nat) (d:La.Ds) (L:List Vl):Prop :=
 ∃ xs fs T' k1 k2,L=xs++fmV fs∧SeL p d xs (vsL (vlL p) (some d.name) L).flatten T' k1∧(∀ y ∈ xs,y.d.name=d.name)∧k1+T'.length≤(vsL (vlL p) (some d.name) L).flatten.length∧k2≤T'.length ∧
  ∀ Y:List Vl,(∀ y,Y.getLast? =some y→y.d.name=d.name)→FaL p Y fs T' k2
theorem vl_step {p:Nat} {d:La.Ds} {x:Vl} {xs:List Vl} {T T':List UInt8} {k:Nat} (hp:p≤14) (hv:Vok p x) (e:x.d.kind=d.kind∧x.d.name=d.name∧x.d.help=d.help) (h:SeL p d xs T T' k):SeL p d (x::xs) ((vlL p x).flatten++T) T' (cnV x+k):=by
 obtain ⟨b,r,e1,e2⟩:=vl_txt (p:=p) (chkD_z hv.1)
 refine ⟨by rw [e1];simp,?_,e,T,cnV x,k,va_all hp hv.1 hv.2.1 hv.2.2 T,by rw [e1];simp;omega,h,rfl⟩
 rw [e1]
 exact pre_no [] b 35 _ _ e2
theorem fam_new {p:Nat} (hp:p≤14) {x:Vl} {L:List Vl} (hv:Vok p x) (h:Fms p x.d L) :
  ∃ fs k,x::L=fmV fs∧k≤(heT x.d++(tyT x.d++((vlL p x).flatten++(vsL (vlL p) (some x.d.name) L).flatten))).length∧∀ Y:List Vl,(∀ y,Y.getLast? =some y→y.d.name≠x.d.name)→FaL p Y fs (heT x.d++(tyT x.d++((vlL p x).flatten++(vsL (vlL p) (some x.d.name) L).flatten))) k:=by
 obtain ⟨xs,fs,T',k1,k2,h1,h2,h3,h4,h5,h6⟩:=h
 have hc:=vl_cnt (p:=p) (chkD_z hv.1)
 have hs:=vl_step hp hv ⟨rfl,rfl,rfl⟩ h2
 have hF:=fa_text hv.1 hs
 have l1:1≤(heT x.d).length∧1≤(tyT x.d).length:=by unfold heT tyT lnT;simp
 have ll:(heT x.d++(tyT x.d++((vlL p x).flatten++(vsL (vlL p) (some x.d.name) L).flatten))).length=(heT x.d).length+((tyT x.d).length+((vlL p x).flatten.length+(vsL (vlL p) (some x.d.name) L).flatten.length)):=by simp
 have hn:=(plain_z (chkD_z hv.1).n).2.1
 refine ⟨⟨x.d,x,xs⟩::fs,1+(cnV x+k1+1)+k2,?_,by rw [ll];omega,fun Y hY=>?_⟩
 ·rw [h1]
  simp [fmV]
 ·refine ⟨fun e=>?_,?_,hY,T',_,k2,hF,by rw [ll];omega,h6 _ (fun y hy=>?_),rfl⟩
  ·rw [e] at ll
   simp at ll
   omega
  ·show x.d.name.length≤_
   omega
  ·cases hz:(x::xs).getLast? with
   | none=>simp at hz
   | some z =>
    have hz':(Fm.mk x.d x xs).x::(Fm.mk x.d x xs).xs=x::xs:=rfl
    rw [hz',List.getLast?_append,hz] at hy
    have e:z=y:=by simpa using hy
    rcases List.mem_cons.1 (List.mem_of_getLast? hz) with q | q
    ·rw [← e,q]
    ·rw [← e]
     exact h3 z q
theorem fam_all {p:Nat} (hp:p≤14):∀ (L:List Vl) (d:La.Ds),Lk d L→(∀ x ∈ L,Vok p x)→Fms p d L
 | [],d,_,_=>⟨[],[],[],0,0,rfl,⟨rfl,rfl,Or.inl rfl⟩,by simp,by simp,by simp,fun Y _=>⟨rfl,rfl⟩⟩
 | x::r,d,hl,hc=>by
  have hv:=hc x List.mem_cons_self
  have hr:∀ y ∈ r,Vok p y:=fun y hy=>hc y (List.mem_cons_of_mem _ hy)
  by_cases e:x.d.name=d.name
  ·obtain ⟨e2,e3⟩:=hl.1 e
   obtain ⟨xs,fs,T',k1,k2,h1,h2,h3,h4,h5,h6⟩:=fam_all hp r d (hl.2.as e.symm e2.symm e3.symm) hr
   have ht:(vsL (vlL p) (some d.name) (x::r)).flatten=(vlL p x).flatten++(vsL (vlL p) (some d.name) r).flatten:=by
    rw [vsL,if_pos (by rw [e]),List.nil_append,List.flatten_append,e]
   have hn:=vl_cnt (p:=p) (chkD_z hv.1)
   refine ⟨x::xs,fs,T',cnV x+k1,k2,by rw [h1];rfl,?_,?_,?_,h5,h6⟩
   ·rw [ht]
    exact vl_step hp hv ⟨e2,e,e3⟩ h2
   ·intro y hy
    rcases List.mem_cons.1 hy with q | q
    ·rw [q];exact e
    ·exact h3 y q
   ·rw [ht,List.length_append]
    omega
  ·obtain ⟨fs,k,h1,h2,h3⟩:=fam_new hp hv (fam_all hp r x.d hl.2 hr)
   have ht:(vsL (vlL p) (some d.name) (x::r)).flatten=heT x.d++(tyT x.d++((vlL p x).flatten++(vsL (vlL p) (some x.d.name) r).flatten)):=by
    rw [vsL,if_neg (fun q=>e (Option.some.inj q).symm)]
    simp
   refine ⟨[],fs,_,0,k,h1,⟨rfl,rfl,Or.inr ?_⟩,by simp,by omega,?_,fun Y hY=>?_⟩
   ·rw [ht]
    unfold heT lnT
    simp only [List.flatten_cons,List.append_assoc]
    exact pre_yes _ _
   ·rw [ht];exact h2
   ·rw [ht]
    exact h3 Y (fun y hy=>by rw [hY y hy];exact fun q=>e q.symm)
theorem chkS_v {s:Sn} (h:(chkS s).1=0):(chkV s.p none s.vs 0).1=0:=by
 unfold chkS at h
 split at h
 ·exact absurd h (by decide)
 ·split at h
  ·exact absurd h (by decide)
  ·exact h
theorem ex_read {s:Sn} {p:Nat} (hp:s.p=(p:Int)) (hS:SnW s) (h:(chkS s).1=0) (hl:(exL (vlL p) s).flatten.length≤4194304) :
  ∃ T1 T2 fs k,HdL (exL (vlL p) s).flatten gnoT p T1∧HdL T1 refT s.r T2∧fmV fs=s.vs∧FaL p [] fs T2 k∧k≤T2.length∧T2.length≤4194304:=by
 obtain ⟨⟨p1,p2⟩,-⟩:=chkS_p h
 have hv:∀ x ∈ s.vs,Vok p x:=fun x hx=>by
  obtain ⟨a,b⟩:=chkS_z h x hx
  rw [hp] at b
  exact ⟨a,b,hS.vs x hx⟩
 have e:(exL (vlL p) s).flatten=gnoT++Lib.decDigits p++10::(refT++Lib.decDigits s.r++10::(vsL (vlL p) none s.vs).flatten):=by
  unfold exL gnT reT lnT
  rw [hp,← dec_itoa]
  simp
 rw [e] at hl ⊢
 have hl2:(refT++Lib.decDigits s.r++10::(vsL (vlL p) none s.vs).flatten).length≤4194304:=by
  simp only [List.length_append,List.length_cons] at hl ⊢
  omega
 have hl3:(vsL (vlL p) none s.vs).flatten.length≤4194304:=by
  simp only [List.length_append,List.length_cons] at hl2 ⊢
  omega
 have ha:=hd_line (T:=refT++Lib.decDigits s.r++10::(vsL (vlL p) none s.vs).flatten) (nf_lit gnoT (by decide)) (Hi.nf (hi_dec p)) (who_dec p (by omega)) hl
 have hb:=hd_line (T:=(vsL (vlL p) none s.vs).flatten) (nf_lit refT (by decide)) (Hi.nf (hi_dec s.r)) (who_dec s.r hS.r) hl2
 have hz:=chkS_v h
 cases hL:s.vs with
 | nil =>
  rw [hL] at ha hb hl3
  exact ⟨_,_,[],0,ha,hb,rfl,⟨rfl,rfl⟩,by simp,hl3⟩
 | cons x r =>
  rw [hL] at ha hb hl3 hz hv
  have hx:=hv x List.mem_cons_self
  rw [chkV] at hz
  have hz2:(chkV s.p (some x) r 1).1=0:=by
   by_cases hq:chk1 s.p none x=0
   ·rw [if_neg (by simpa using hq)] at hz;exact hz
   ·rw [if_pos hq] at hz;exact absurd hz hq
  obtain ⟨fs,k,h1,h2,h3⟩:=fam_new (by omega) hx (fam_all (by omega) r x.d (lk_chk _ _ _ _ hz2) (fun y hy=>hv y (List.mem_cons_of_mem _ hy)))
  have ht:(vsL (vlL p) none (x::r)).flatten=heT x.d++(tyT x.d++((vlL p x).flatten++(vsL (vlL p) (some x.d.name) r).flatten)):=by
   rw [vsL,if_neg (by simp)]
   simp
  rw [← ht] at h2 h3
  exact ⟨_,_,fs,k,ha,hb,h1.symm,h3 [] (by simp),h2,hl3⟩
end Go.Proofs.YtfkbjdgbpenflaaGreatDoor.Sc
