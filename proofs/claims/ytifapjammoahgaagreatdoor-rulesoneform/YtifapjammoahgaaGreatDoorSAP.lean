/- WHAT A TEXT IS WORTH. Own work of the verifier. -/
import Derived.Test.YtifapjammoahgaaGreatDoorSAE
import Derived.Test.YtifapjammoahgaaGreatDoorSAO
import Derived.Test.YtifapjammoahgaaGreatDoorSAA
namespace Go.Proofs.YtifapjammoahgaaGreatDoor.Rl
open Go.RowKit
def isD (c:UInt8):Bool:=decide (48≤c.toNat∧c.toNat≤57)
def dg' (l:List UInt8):List UInt8:=l.filter isD
def nx (n:Nat) (c:UInt8):Nat:=n*10+(c.toNat - 48)
def dvA (n:Nat) (l:List UInt8):Nat:=l.foldl nx n
theorem dvA_nil (n:Nat):dvA n []=n:=by unfold dvA;rw [List.foldl_nil]
theorem dvA_cons (n:Nat) (c:UInt8) (l:List UInt8):dvA n (c::l)=dvA (nx n c) l:=by unfold dvA;rw [List.foldl_cons]
theorem dvA_append (n:Nat) (a b:List UInt8):dvA n (a++b)=dvA (dvA n a) b:=List.foldl_append
theorem dvA_zeros (n m:Nat):dvA n (List.replicate m 48)=n*10 ^ m:=by
  induction m generalizing n with
  | zero=>rw [List.replicate_zero,dvA_nil,Nat.pow_zero,Nat.mul_one]
  | succ m ih =>
    rw [List.replicate_succ,dvA_cons,ih]
    unfold nx
    rw [show (48:UInt8).toNat - 48=0 from by decide,Nat.add_zero,Nat.pow_succ,Nat.mul_assoc,Nat.mul_comm 10]
theorem dig_val (d:Nat) (h:d < 10):(UInt8.ofNat (48+d)).toNat - 48=d∧isD (UInt8.ofNat (48+d))=true:=by
  have:(UInt8.ofNat (48+d)).toNat=48+d:=by rw [UInt8.toNat_ofNat'];omega
  unfold isD
  rw [this]
  exact ⟨by omega,decide_eq_true (by omega)⟩
theorem dec_val (u:Nat):dvA 0 (Lib.decDigits u)=u∧∀ c ∈ Lib.decDigits u,isD c=true:=by
  induction u using Nat.strongRecOn with
  | _ u ih =>
    rw [Lib.decDigits]
    by_cases h:u < 10
    · rw [dif_pos h]
      have:=dig_val u h
      exact ⟨by rw [dvA_cons,dvA_nil];unfold nx;omega,fun c hc=>by rw [List.mem_singleton.1 hc];exact this.2⟩
    · rw [dif_neg h]
      have k:=ih (u / 10) (by omega)
      have:=dig_val (u % 10) (by omega)
      refine ⟨?_,fun c hc=>?_⟩
      · rw [dvA_append,k.1,dvA_cons,dvA_nil];unfold nx;omega
      · rcases List.mem_append.1 hc with e | e
        · exact k.2 c e
        · rw [List.mem_singleton.1 e];exact this.2
def pre (l:List UInt8):List UInt8:=l.takeWhile (fun c=>c != 101)
def post (l:List UInt8):List UInt8:=(l.dropWhile (fun c=>c != 101)).drop 1
def fr (l:List UInt8):Nat:=(l.dropWhile (fun c=>c != 46)).length - 1
def xv:List UInt8→Int
  | []=>0
  | c::l=>if c=45 then -(dvA 0 l:Int) else (dvA 0 (c::l):Int)
theorem xv_itoa (z:Int) (h0:-400≤z) (h1:z≤400):xv (Lib.itoa z)=z:=by
  rcases Int.lt_or_le z 0 with c | c
  · obtain ⟨u,rfl⟩:∃ u:Nat,z=-(u:Int):=⟨z.natAbs,by omega⟩
    rw [Lib.itoa_neg u (by omega)]
    show (if (45:UInt8)=45 then -(dvA 0 (Lib.decDigits u):Int) else (dvA 0 (45::Lib.decDigits u):Int))=_
    rw [if_pos rfl,(dec_val u).1]
  · obtain ⟨u,rfl⟩:=Int.eq_ofNat_of_zero_le c
    rw [Lib.itoa_nonneg u]
    have hd:=dec_val u
    cases hL:Lib.decDigits u with
    | nil =>
      have:=Lib.decDigits_length u
      have:=Lib.nDigits_pos u
      rw [hL] at *
      simp at *
      omega
    | cons c l =>
      rw [hL] at hd
      have hc:=hd.2 c (by simp)
      show (if c=45 then -(dvA 0 l:Int) else (dvA 0 (c::l):Int))=_
      rw [if_neg (fun e=>by subst e;exact absurd hc (by decide)),hd.1]
theorem pre_e {a b:List UInt8} (h:∀ c ∈ a,c≠101):pre (a++101::b)=a∧post (a++101::b)=b:=by
  have h':∀ c ∈ a,(fun c:UInt8=>c != 101) c=true:=fun c hc=>bne_iff_ne.2 (h c hc)
  unfold pre post
  rw [List.takeWhile_append_of_pos h',List.dropWhile_append_of_pos h']
  simp
theorem pre_no {a:List UInt8} (h:∀ c ∈ a,c≠101):pre a=a∧post a=[]:=by
  have h':∀ c ∈ a,(fun c:UInt8=>c != 101) c=true:=fun c hc=>bne_iff_ne.2 (h c hc)
  have e1:=List.takeWhile_append_of_pos h' (l₂:=[])
  have e2:=List.dropWhile_append_of_pos h' (l₂:=[])
  unfold pre post
  simp at e1 e2
  rw [e1,e2]
  simp
theorem fr_pt {a b:List UInt8} (h:∀ c ∈ a,c≠46):fr (a++46::b)=b.length:=by
  have h':∀ c ∈ a,(fun c:UInt8=>c != 46) c=true:=fun c hc=>bne_iff_ne.2 (h c hc)
  unfold fr
  rw [List.dropWhile_append_of_pos h']
  simp
theorem fr_no {a:List UInt8} (h:∀ c ∈ a,c≠46):fr a=0:=by
  have h':∀ c ∈ a,(fun c:UInt8=>c != 46) c=true:=fun c hc=>bne_iff_ne.2 (h c hc)
  have e2:=List.dropWhile_append_of_pos h' (l₂:=[])
  unfold fr
  simp at e2
  rw [e2]
  simp
theorem isD_ne {c:UInt8} (h:isD c=true):c≠101∧c≠46∧c≠45:=by
  refine ⟨?_,?_,?_⟩ <;> (rintro rfl;exact absurd h (by decide))
theorem dg_app (a b:List UInt8):dg' (a++b)=dg' a++dg' b:=List.filter_append _ _
theorem dg_all {a:List UInt8} (h:∀ c ∈ a,isD c=true):dg' a=a:=List.filter_eq_self.2 h
theorem dg_sgn (n:Bool):dg' (sgn n)=[]:=by cases n <;> decide
theorem sgn_ne (n:Bool):∀ c ∈ sgn n,c≠101∧c≠46:=by cases n <;> decide
theorem zeros_d (m:Nat):∀ c ∈ List.replicate m (48:UInt8),isD c=true:=fun c hc=>by rw [(List.mem_replicate.1 hc).2];decide
theorem trim_ex (l:List UInt8):∀ m,m≤l.length→∃ k,k≤m∧(∀ j (h:j < l.length),k≤j→j < m→l[j]=48)∧(k=0∨∃ h:k - 1 < l.length,l[k - 1]≠48)
  | 0,_=>⟨0,Nat.le_refl _,fun j _ _ h=>by omega,Or.inl rfl⟩
  | m+1,hm=>by
    by_cases h:l[m]'(by omega)=48
    · obtain ⟨k,h1,h2,h3⟩:=trim_ex l m (by omega)
      refine ⟨k,by omega,fun j hj hk hjm=>?_,h3⟩
      by_cases e:j=m
      · subst e;exact h
      · exact h2 j hj hk (by omega)
    · exact ⟨m+1,Nat.le_refl _,fun j _ hk hjm=>by omega,Or.inr ⟨by omega,h⟩⟩
theorem trim_is (u:Nat):Trim u (trimLen u):=by
  obtain ⟨k,h1,h2,h3⟩:=trim_ex (Lib.decDigits u) _ (Nat.le_refl _)
  have hT:Trim u k:=⟨by rw [← Lib.decDigits_length];exact h1,fun j h hk=>h2 j h hk h,h3⟩
  rw [← trim_len hT]
  exact hT
theorem n_le {k u:Nat} (hk:1≤k) (h:u < 10 ^ k):Lib.nDigits u≤k:=by
  rcases Nat.lt_or_ge k (Lib.nDigits u) with c | c
  · have:=le_of_lt_nDigits k u hk c;omega
  · exact c
noncomputable def tD (u:Nat):List UInt8:=(Lib.decDigits u).take (trimLen u)
theorem tD_split (u:Nat):Lib.decDigits u=tD u++List.replicate (Lib.nDigits u - trimLen u) 48:=by
  obtain ⟨h1,h2,h3⟩:=trim_is u
  have hl:=Lib.decDigits_length u
  unfold tD
  apply List.ext_getElem
  · rw [List.length_append,List.length_take,List.length_replicate];omega
  · intro j ha hb
    by_cases c:j < trimLen u
    · rw [List.getElem_append_left (by rw [List.length_take];omega),List.getElem_take]
    · rw [List.getElem_append_right (by rw [List.length_take];omega),List.getElem_replicate]
      exact h2 j ha (by omega)
theorem tD_facts (u:Nat) (hu:1≤u):(tD u).length=trimLen u∧1≤trimLen u∧trimLen u≤Lib.nDigits u∧(∀ c ∈ tD u,isD c=true)∧dvA 0 (tD u)*10 ^ (Lib.nDigits u - trimLen u)=u:=by
  have ht:=trim_is u
  have hl:=Lib.decDigits_length u
  refine ⟨by unfold tD;rw [List.length_take];have:=ht.1;omega,trim_pos hu ht,ht.1,fun c hc=>(dec_val u).2 c (List.mem_of_mem_take hc),?_⟩
  have h:=(dec_val u).1
  rw [tD_split u,dvA_append,dvA_zeros] at h
  exact h
theorem getD_tD (u:Nat) (hu:1≤u):tD u=(Lib.decDigits u).getD 0 0::(tD u).drop 1:=by
  obtain ⟨h1,h2,_,_,_⟩:=tD_facts u hu
  have hs:=tD_split u
  cases hT:tD u with
  | nil=>rw [hT] at h1;simp at h1;omega
  | cons c l =>
    rw [hT] at hs
    rw [hs]
    simp
structure Shape (l:List UInt8) (u:Nat) (dp:Int):Prop where
  ex:∃ a c:Nat,dg' (pre l)=List.replicate a 48++tD u++List.replicate c 48∧xv (post l) - (fr (pre l):Int)=dp - (trimLen u:Int) - (c:Int)∧(c=0∨dp - (trimLen u:Int) - (c:Int)=0)
  len:l.length≤25
theorem f_ne {n:Bool} {l:List UInt8} (h:∀ c ∈ l,isD c=true):(∀ c ∈ sgn n++l,c≠101)∧(∀ c ∈ sgn n++l,c≠46):=by
  refine ⟨fun c hc=>?_,fun c hc=>?_⟩ <;> rcases List.mem_append.1 hc with e | e
  · exact (sgn_ne n c e).1
  · exact (isD_ne (h c e)).1
  · exact (sgn_ne n c e).2
  · exact (isD_ne (h c e)).2.1
theorem sgn_len (n:Bool):(sgn n).length≤1:=by cases n <;> decide
theorem shape_e (n:Bool) (u:Nat) (dp:Int) (hu:1≤u) (h17:trimLen u≤17) (h0:-390≤dp) (h1:dp≤390):Shape (eHead n u (trimLen u)++101::Lib.itoa (dp - 1)) u dp:=by
  obtain ⟨t1,t2,t3,t4,t5⟩:=tD_facts u hu
  have tg:=getD_tD u hu
  have hlen:(Lib.itoa (dp - 1)).length≤4:=by
    unfold Lib.itoa
    split
    · rw [List.length_cons,Lib.decDigits_length]
      have:=n_le (k:=3) (u:=(dp - 1).natAbs) (by decide) (by omega)
      omega
    · rw [Lib.decDigits_length]
      have:=n_le (k:=3) (u:=(dp - 1).toNat) (by decide) (by omega)
      omega
  have hx:=xv_itoa (dp - 1) (by omega) (by omega)
  have hsl:=sgn_len n
  have key:∃ H:List UInt8,eHead n u (trimLen u)=H∧(∀ c ∈ H,c≠101)∧dg' H=tD u∧fr H+1=trimLen u∧H.length≤19:=by
    unfold eHead
    by_cases k1:trimLen u=1
    · rw [if_pos k1]
      have e:tD u=[(Lib.decDigits u).getD 0 0]:=by
        rw [tg]
        congr 1
        exact List.eq_nil_of_length_eq_zero (by rw [List.length_drop,t1,k1])
      rw [← e]
      obtain ⟨f1,f2⟩:=f_ne (n:=n) t4
      refine ⟨_,rfl,f1,?_,?_,?_⟩
      · rw [dg_app,dg_sgn,dg_all t4];rfl
      · rw [fr_no f2,k1]
      · rw [List.length_append,t1];omega
    · rw [if_neg k1]
      have hd:∀ c ∈ (tD u).drop 1,isD c=true:=fun c hc=>t4 c (List.mem_of_mem_drop hc)
      have hh:∀ c ∈ [(Lib.decDigits u).getD 0 0],isD c=true:=fun c hc=>t4 c (by rw [tg];rw [List.mem_singleton.1 hc];simp)
      obtain ⟨f1,f2⟩:=f_ne (n:=n) hh
      have e:sgn n++[(Lib.decDigits u).getD 0 0,46]++((Lib.decDigits u).take (trimLen u)).drop 1=(sgn n++[(Lib.decDigits u).getD 0 0])++46::(tD u).drop 1:=by
        unfold tD;simp
      rw [e]
      refine ⟨_,rfl,fun c hc=>?_,?_,?_,?_⟩
      · rcases List.mem_append.1 hc with k | k
        · exact f1 c k
        · rcases List.mem_cons.1 k with rfl | k
          · decide
          · exact (isD_ne (hd c k)).1
      · rw [dg_app,dg_app,dg_sgn,dg_all hh]
        have:dg' (46::(tD u).drop 1)=(tD u).drop 1:=by
          have e2:dg' (46::(tD u).drop 1)=dg' ((tD u).drop 1):=List.filter_cons_of_neg (by decide)
          rw [e2,dg_all hd]
        rw [this]
        exact tg.symm
      · rw [fr_pt f2,List.length_drop,t1];omega
      · simp only [List.length_append,List.length_cons,List.length_nil,List.length_drop,t1]
        omega
  obtain ⟨H,e,k1,k2,k3,k4⟩:=key
  rw [e]
  obtain ⟨p1,p2⟩:=pre_e (b:=Lib.itoa (dp - 1)) k1
  refine ⟨⟨0,0,?_,?_,Or.inl rfl⟩,?_⟩
  · rw [p1,k2];simp
  · rw [p1,p2,hx];omega
  · rw [List.length_append,List.length_cons];omega
theorem shape_f (n:Bool) (u:Nat) (dp:Int) (hu:1≤u) (h17:trimLen u≤17) (h0:-5≤dp) (h1:dp≤21):Shape (fB n u (trimLen u) dp) u dp:=by
  obtain ⟨t1,t2,t3,t4,t5⟩:=tD_facts u hu
  have hsl:=sgn_len n
  unfold fB
  by_cases c1:dp≤0
  · rw [if_pos c1]
    have hz:∀ c ∈ List.replicate (-dp).toNat 48++tD u,isD c=true:=fun c hc=>by
      rcases List.mem_append.1 hc with k | k
      · exact zeros_d _ c k
      · exact t4 c k
    have hh:∀ c ∈ [(48:UInt8)],isD c=true:=by decide
    obtain ⟨f1,f2⟩:=f_ne (n:=n) hh
    have e:sgn n++[48,46]++List.replicate (-dp).toNat 48++(Lib.decDigits u).take (trimLen u)=(sgn n++[48])++46::(List.replicate (-dp).toNat 48++tD u):=by unfold tD;simp
    rw [e]
    have hno:∀ c ∈ (sgn n++[48])++46::(List.replicate (-dp).toNat 48++tD u),c≠101:=fun c hc=>by
      rcases List.mem_append.1 hc with k | k
      · exact f1 c k
      · rcases List.mem_cons.1 k with rfl | k
        · decide
        · exact (isD_ne (hz c k)).1
    obtain ⟨p1,p2⟩:=pre_no hno
    refine ⟨⟨(-dp).toNat+1,0,?_,?_,Or.inl rfl⟩,?_⟩
    · rw [p1,dg_app,dg_app,dg_sgn,dg_all hh]
      have e2:dg' (46::(List.replicate (-dp).toNat 48++tD u))=List.replicate (-dp).toNat 48++tD u:=by
        have e3:dg' (46::(List.replicate (-dp).toNat 48++tD u))=dg' (List.replicate (-dp).toNat 48++tD u):=List.filter_cons_of_neg (by decide)
        rw [e3,dg_all hz]
      rw [e2,List.replicate_succ]
      simp
    · rw [p1,p2,fr_pt f2,List.length_append,List.length_replicate,t1]
      show (0:Int) - _=_
      omega
    · simp only [List.length_append,List.length_cons,List.length_nil,List.length_replicate,t1]
      omega
  · rw [if_neg c1]
    by_cases c2:(trimLen u:Int)≤dp
    · rw [if_pos c2]
      have hz:∀ c ∈ tD u++List.replicate (dp.toNat - trimLen u) 48,isD c=true:=fun c hc=>by
        rcases List.mem_append.1 hc with k | k
        · exact t4 c k
        · exact zeros_d _ c k
      obtain ⟨f1,f2⟩:=f_ne (n:=n) hz
      have e:sgn n++(Lib.decDigits u).take (trimLen u)++List.replicate (dp.toNat - trimLen u) 48=sgn n++(tD u++List.replicate (dp.toNat - trimLen u) 48):=by unfold tD;simp
      rw [e]
      obtain ⟨p1,p2⟩:=pre_no f1
      refine ⟨⟨0,dp.toNat - trimLen u,?_,?_,Or.inr (by omega)⟩,?_⟩
      · rw [p1,dg_app,dg_sgn,dg_all hz];simp
      · rw [p1,p2,fr_no f2]
        show (0:Int) - _=_
        omega
      · rw [List.length_append,List.length_append,List.length_replicate,t1];omega
    · rw [if_neg c2]
      have ha:∀ c ∈ (tD u).take dp.toNat,isD c=true:=fun c hc=>t4 c (List.mem_of_mem_take hc)
      have hd:∀ c ∈ (tD u).drop dp.toNat,isD c=true:=fun c hc=>t4 c (List.mem_of_mem_drop hc)
      obtain ⟨f1,f2⟩:=f_ne (n:=n) ha
      have e0:(Lib.decDigits u).take dp.toNat=(tD u).take dp.toNat:=by unfold tD;rw [List.take_take];congr 1;omega
      have e:sgn n++(Lib.decDigits u).take dp.toNat++[46]++((Lib.decDigits u).take (trimLen u)).drop dp.toNat=(sgn n++(tD u).take dp.toNat)++46::(tD u).drop dp.toNat:=by rw [e0];unfold tD;simp
      rw [e]
      have hno:∀ c ∈ (sgn n++(tD u).take dp.toNat)++46::(tD u).drop dp.toNat,c≠101:=fun c hc=>by
        rcases List.mem_append.1 hc with k | k
        · exact f1 c k
        · rcases List.mem_cons.1 k with rfl | k
          · decide
          · exact (isD_ne (hd c k)).1
      obtain ⟨p1,p2⟩:=pre_no hno
      refine ⟨⟨0,0,?_,?_,Or.inl rfl⟩,?_⟩
      · rw [p1,dg_app,dg_app,dg_sgn,dg_all ha]
        have e2:dg' (46::(tD u).drop dp.toNat)=(tD u).drop dp.toNat:=by
          have e3:dg' (46::(tD u).drop dp.toNat)=dg' ((tD u).drop dp.toNat):=List.filter_cons_of_neg (by decide)
          rw [e3,dg_all hd]
        rw [e2]
        simp
      · rw [p1,p2,fr_pt f2,List.length_drop,t1]
        show (0:Int) - _=_
        omega
      · rw [List.length_append,List.length_append,List.length_cons,List.length_take,List.length_drop,t1];omega
theorem sd_mod (x:Nat):sd x=sd (x % 9223372036854775808):=by
  unfold sd
  rw [show x % 9223372036854775808 % 9223372036854775808=x % 9223372036854775808 from by omega,show x % 9223372036854775808 % 4503599627370496=x % 4503599627370496 from by omega,
    show x % 9223372036854775808 / 4503599627370496 % 2048=x / 4503599627370496 % 2048 from by omega]
def val (x:Nat):Nat:=(sd x).1*10 ^ ((sd x).2+400).toNat
theorem val_mod (x:Nat):val x=val (x % 9223372036854775808):=by unfold val;rw [sd_mod]
theorem val_lt {a b:Nat} (h0:1≤a) (h:a < b) (h1:b < 9218868437227405312):val a < val b:=of_decide_eq_true (rise_all h0 h h1)
theorem val_small:val 4517329193108106637=10 ^ 394:=by decide +kernel
theorem val_great:val 4921056587992461136=10 ^ 421:=by decide +kernel
theorem pow_ge {u:Nat} (hu:1≤u):10 ^ (Lib.nDigits u - 1)≤u:=by
  have hn:=Lib.nDigits_pos u
  rcases Nat.eq_or_lt_of_le hn with k | k
  · rw [← k];simpa using hu
  · exact le_of_lt_nDigits _ u (by omega) (by omega)
theorem lt_exp10 {a b:Nat} (h:10 ^ a < 10 ^ b):a < b:=(Nat.pow_lt_pow_iff_right (by decide:1 < 10)).1 h
theorem pt_mid (x:Nat) (h0:x % 9223372036854775808≠0) (h1:x % 9223372036854775808 < 9218868437227405312) (hE:hasE (x % 9223372036854775808)=false):-5≤pt x∧pt x≤21:=by
  obtain ⟨s1,s2,s3,s4⟩:=sd_bounds x h0 h1
  have hE':=of_decide_eq_false hE
  have hn:=Lib.nDigits_pos (sd x).1
  have hlo:10 ^ 394≤val x:=by
    rw [val_mod,← val_small]
    rcases Nat.eq_or_lt_of_le (show 4517329193108106637≤x % 9223372036854775808 by omega) with e | e
    · rw [← e];exact Nat.le_refl _
    · exact Nat.le_of_lt (val_lt (by decide) e h1)
  have hhi:val x < 10 ^ 421:=by
    rw [val_mod,← val_great]
    exact val_lt (by omega) (by omega) (by decide)
  have u1:=Lib.lt_pow_nDigits (sd x).1
  have u2:=pow_ge s1
  unfold val at hlo hhi
  unfold pt
  generalize (sd x).1=u at *
  generalize (sd x).2=e at *
  have q1:10 ^ 394 < 10 ^ (Lib.nDigits u+(e+400).toNat):=by
    rw [Nat.pow_add]
    exact Nat.lt_of_le_of_lt hlo (Nat.mul_lt_mul_of_pos_right u1 (Nat.pow_pos (by decide)))
  have q2:10 ^ (Lib.nDigits u - 1+(e+400).toNat) < 10 ^ 421:=by
    rw [Nat.pow_add]
    exact Nat.lt_of_le_of_lt (Nat.mul_le_mul_right _ u2) hhi
  have r1:=lt_exp10 q1
  have r2:=lt_exp10 q2
  omega
theorem trim_17 (x:Nat) (h0:x % 9223372036854775808≠0) (h1:x % 9223372036854775808 < 9218868437227405312):trimLen (sd x).1≤17:=by
  have:=(trim_is (sd x).1).1
  have:=n_le (k:=17) (by decide) (show (sd x).1 < 10 ^ 17 from sd_17 x h0 h1)
  omega
theorem shape_x (x:Nat) (h0:x % 9223372036854775808≠0) (h1:x % 9223372036854775808 < 9218868437227405312):Shape (pText x) (sd x).1 (pt x):=by
  obtain ⟨s1,s2,s3,s4⟩:=sd_bounds x h0 h1
  obtain ⟨p0,p1⟩:=pt_bounds x h0 h1
  have h17:=trim_17 x h0 h1
  unfold pText
  cases hE:hasE (x % 9223372036854775808)
  · obtain ⟨m0,m1⟩:=pt_mid x h0 h1 hE
    rw [if_neg (by decide)]
    unfold fText
    rw [if_neg h0,if_neg (by omega),if_neg (by omega)]
    exact shape_f _ _ _ s1 h17 m0 m1
  · rw [if_pos rfl]
    exact shape_e _ _ _ s1 h17 p0 p1
theorem text_zero (x:Nat) (h:x % 9223372036854775808=0):pText x=if 9223372036854775808≤x then [45,48] else [48]:=by
  unfold pText fText
  rw [h,show hasE 0=false from by decide,if_neg (by decide),if_pos rfl]
theorem text_nan (x:Nat) (h:9218868437227405312 < x % 9223372036854775808):pText x=[78,97,78]:=by
  unfold pText fText
  have hE:hasE (x % 9223372036854775808)=false:=decide_eq_false (by omega)
  rw [hE,if_neg (by decide),if_neg (by omega),if_pos h]
theorem text_inf (x:Nat) (h:x % 9223372036854775808=9218868437227405312):pText x=if 9223372036854775808≤x then [45,73,110,102] else [43,73,110,102]:=by
  unfold pText fText
  have hE:hasE (x % 9223372036854775808)=false:=decide_eq_false (by omega)
  rw [hE,if_neg (by decide),if_neg (by omega),if_neg (by omega),if_pos h]
def Win (l:List UInt8):Prop:=∃ A B C:List UInt8,dg' (pre l)=A++B++C∧(∀ c ∈ A,c=48)∧(∀ c ∈ C,c=48)∧B.length≤17
theorem win_x (x:Nat) (h:x % 9223372036854775808 < 9218868437227405312):Win (pText x)∧(pText x).length≤25:=by
  by_cases z:x % 9223372036854775808=0
  · rw [text_zero x z]
    split
    · exact ⟨⟨[48],[],[],by decide,by decide,by decide,by decide⟩,by decide⟩
    · exact ⟨⟨[48],[],[],by decide,by decide,by decide,by decide⟩,by decide⟩
  · have hS:=shape_x x z h
    obtain ⟨a,c,h1,_,_⟩:=hS.ex
    refine ⟨⟨_,_,_,h1,fun c hc=>(List.mem_replicate.1 hc).2,fun c hc=>(List.mem_replicate.1 hc).2,?_⟩,hS.len⟩
    rw [(tD_facts _ (sd_bounds x z h).1).1]
    exact trim_17 x z h
end Go.Proofs.YtifapjammoahgaaGreatDoor.Rl
