/- readFloat AT TEXTS OF DIGITS: what is read. Own work of the verifier. -/
import Derived.Test.YtifapjammoahgaaGreatDoorSAO
import Derived.Test.YtifapjammoahgaaGreatDoorSAP
import Derived.Test.YtifapjammoahgaaGreatDoorSAQ
import Derived.Test.YtifapjammoahgaaGreatDoorSAR
import Derived.WalkMore
namespace Go.Proofs.YtifapjammoahgaaGreatDoor.Rl
theorem dvA_lt (l:List UInt8) (h:∀ c ∈ l,isD c=true):∀ n,dvA n l < (n+1)*10 ^ l.length:=by
  induction l with
  | nil=>intro n;rw [dvA_nil];simp
  | cons c l ih =>
    intro n
    rw [dvA_cons]
    have hc:=of_decide_eq_true (h c (List.mem_cons_self ..))
    have:=ih (fun x hx=>h x (List.mem_cons_of_mem _ hx)) (nx n c)
    have h2:(nx n c+1)*10 ^ l.length≤(n+1)*10 ^ (c::l).length:=by
      rw [List.length_cons,Nat.pow_succ,Nat.mul_comm (10 ^ l.length) 10,← Nat.mul_assoc]
      exact Nat.mul_le_mul_right _ (by unfold nx;omega)
    omega
theorem dvA_small (l:List UInt8) (h:∀ c ∈ l,isD c=true):dvA 0 l < 10 ^ l.length:=by
  have:=dvA_lt l h 0
  omega
structure Form (l:List UInt8) (n:Bool) (m x:List UInt8) (A:Nat) (S:List UInt8) (z:Int):Prop where
  is:l=sgn n++m++x
  len:l.length≤25
  fst:∃ c r,m=c::r∧isD c=true
  chr:∀ c ∈ m,isD c=true∨c=46
  dot:∀ p r,m=p++46::r→(46:UInt8) ∉ p∧(46:UInt8) ∉ r
  dig:dg' m=List.replicate A 48++S
  lead:∀ c r,S=c::r→c≠48
  zer:∀ i (h:i < S.length),19≤i→S[i]=48
  exp:x=[]∧z=0∨(∃ ds,x=101::ds∧1≤ds.length∧ds.length≤3∧(∀ c ∈ ds,isD c=true)∧z=(dvA 0 ds:Int))∨(∃ ds,x=101::45::ds∧1≤ds.length∧ds.length≤3∧(∀ c ∈ ds,isD c=true)∧z=-(dvA 0 ds:Int))
theorem isD_nat {c:UInt8} (h:isD c=true):48≤c.toNat∧c.toNat≤57:=of_decide_eq_true h
theorem dg_one {c:UInt8} (h:isD c=true):dg' [c]=[c]:=by unfold dg';simp [h]
theorem dg_pt:dg' [46]=[]:=by decide
theorem fr_one (p:List UInt8) (h:(46:UInt8) ∉ p):fr (p++[46])=0:=by
  have:=fr_pt (a:=p) (b:=[]) (fun c hc e=>h (e ▸ hc))
  exact this
theorem first_pt (p:List UInt8) (h:(46:UInt8) ∈ p):∃ a b:List UInt8,p=a++46::b∧(46:UInt8) ∉ a:=by
  induction p with
  | nil=>cases h
  | cons d p ih =>
    by_cases hd:d=46
    · exact ⟨[],p,by rw [hd];rfl,by simp⟩
    · have hp:(46:UInt8) ∈ p:=by
        rcases List.mem_cons.1 h with k | k
        · exact absurd k.symm hd
        · exact k
      obtain ⟨a',b',e',h'⟩:=ih hp
      exact ⟨d::a',b',by rw [e'];rfl,fun k=>by
        rcases List.mem_cons.1 k with q | q
        · exact hd q.symm
        · exact h' q⟩
theorem fr_snoc (p:List UInt8) (c:UInt8) (h:(46:UInt8) ∈ p):fr (p++[c])=fr p+1:=by
  obtain ⟨a,b,rfl,ha⟩:=first_pt p h
  have hne:∀ c ∈ a,c≠46:=fun c hc e=>ha (e ▸ hc)
  rw [List.append_assoc,List.cons_append,fr_pt hne,fr_pt hne,List.length_append]
  rfl
theorem fr_none (p:List UInt8) (h:(46:UInt8) ∉ p):fr p=0:=fr_no (fun _c hc e=>h (e ▸ hc))
theorem fr_le (p:List UInt8):fr p≤p.length:=by
  unfold fr
  have:=(List.dropWhile_sublist (fun c=>c != 46) (l:=p)).length_le
  omega
structure Kept (l:List UInt8) (n:Bool) (m x:List UInt8) (A:Nat) (S:List UInt8) (j M N K:Nat) (P:Int) (a b:Bool):Prop where
  pr:∃ p r,m=p++r∧j=(sgn n).length+p.length∧N=(dg' p).length - A∧(dg' p).length≤j∧a=decide ((46:UInt8) ∈ p)∧b=decide (0 < (dg' p).length)∧(a=true→P=(N:Int) - (fr p:Int))∧(a=false→-(j:Int)≤P∧P≤0)
  k:K=min N 19
  mant:M=dvA 0 (S.take K)
theorem dg_len (p:List UInt8):(dg' p).length≤p.length:=List.length_filter_le ..
theorem kept_end {l:List UInt8} {n:Bool} {m x:List UInt8} {A:Nat} {S:List UInt8} {z:Int} (hF:Form l n m x A S z) {j M N K:Nat} {P:Int} {a b:Bool} (h:Kept l n m x A S j M N K P a b) (hj:j=(sgn n).length+m.length) :
    b=true∧M=dvA 0 (S.take (min S.length 19))∧K=min S.length 19∧N=S.length∧(if a then P else (N:Int))=(S.length:Int) - (fr m:Int):=by
  obtain ⟨p,r,e1,e2,e3,_,e4,e5,e6,_⟩:=h.pr
  have hr:r=[]:=by
    have:=congrArg List.length e1
    rw [List.length_append] at this
    exact List.length_eq_zero_iff.1 (by omega)
  subst hr
  rw [List.append_nil] at e1
  subst e1
  have hq:(dg' m).length=A+S.length:=by rw [hF.dig,List.length_append,List.length_replicate]
  have hN:N=S.length:=by omega
  have hK:K=min S.length 19:=by rw [h.k,hN]
  have hb:0 < (dg' m).length:=by
    obtain ⟨c,r,e,hc⟩:=hF.fst
    rw [e,show c::r=[c]++r from rfl,dg_app,dg_one hc,List.length_append,List.length_singleton]
    omega
  refine ⟨by rw [e5,decide_eq_true hb],by rw [h.mant,hK],hK,hN,?_⟩
  cases a
  · have hn:(46:UInt8) ∉ m:=of_decide_eq_false e4.symm
    rw [fr_none m hn,hN]
    simp
  · rw [if_pos rfl,e6 rfl,hN]
theorem sgn_len1 (n:Bool):(sgn n).length≤1:=by cases n <;> decide
theorem at_j {l:List UInt8} {n:Bool} {m x:List UInt8} {A:Nat} {S:List UInt8} {z:Int} (hF:Form l n m x A S z) {j:Nat} (hj:j < l.length) {p r:List UInt8} (e1:m=p++r) (e2:j=(sgn n).length+p.length) :
    (∃ r',r=l[j]::r')∨r=[]∧∃ x',x=l[j]::x':=by
  have hl:l=(sgn n++p)++(r++x):=by rw [hF.is,e1];simp [List.append_assoc]
  have hg:l[j]? =(r++x)[0]?:=by
    rw [hl,List.getElem?_append_right (by rw [List.length_append];omega)]
    congr 1
    rw [List.length_append]
    omega
  rw [List.getElem?_eq_getElem hj] at hg
  cases r with
  | nil =>
    right
    refine ⟨rfl,?_⟩
    cases x with
    | nil=>simp at hg
    | cons c x'=>simp at hg;exact ⟨x',by rw [hg]⟩
  | cons c r' =>
    left
    simp at hg
    exact ⟨r',by rw [hg]⟩
theorem kept_start {l:List UInt8} {n:Bool} {m x:List UInt8} {A:Nat} {S:List UInt8}:Kept l n m x A S (sgn n).length 0 0 0 0 false false :=
  ⟨⟨[],m,rfl,by simp,by simp [dg'],by simp [dg'],by simp,by simp [dg'],(fun h=>by cases h),(fun _=>by omega)⟩,rfl,rfl⟩
theorem kept_pt {l:List UInt8} {n:Bool} {m x:List UInt8} {A:Nat} {S:List UInt8} {z:Int} (hF:Form l n m x A S z) {j M N K:Nat} {P:Int} {a b:Bool} (h:Kept l n m x A S j M N K P a b) (hj:j < l.length) (hc:l[j].toNat=46) :
    a=false∧Kept l n m x A S (j+1) M N K (N:Int) true b:=by
  obtain ⟨p,r,e1,e2,e3,e0,e4,e5,e6,e7⟩:=h.pr
  have hc':l[j]=46:=UInt8.toNat_inj.1 hc
  rcases at_j hF hj e1 e2 with ⟨r',hr⟩ | ⟨_,x',hx⟩
  · rw [hc'] at hr
    have hd:=hF.dot p r' (by rw [e1,hr])
    have ha:a=false:=by rw [e4,decide_eq_false hd.1]
    refine ⟨ha,⟨⟨p++[46],r',by rw [e1,hr,List.append_assoc];rfl,by rw [List.length_append,e2,List.length_singleton];omega,?_,?_,?_,?_,fun _=>?_,fun k=>by cases k⟩,h.k,h.mant⟩⟩
    · rw [dg_app,dg_pt,List.append_nil];exact e3
    · rw [dg_app,dg_pt,List.append_nil];omega
    · rw [decide_eq_true (by simp)]
    · rw [dg_app,dg_pt,List.append_nil];exact e5
    · rw [fr_one p hd.1];simp
  · exfalso
    rw [hc'] at hx
    rcases hF.exp with ⟨k,_⟩ | ⟨ds,k,_⟩ | ⟨ds,k,_⟩ <;> rw [k] at hx <;> simp at hx
theorem kept_digit {l:List UInt8} {n:Bool} {m x:List UInt8} {A:Nat} {S:List UInt8} {z:Int} (hF:Form l n m x A S z) {j M N K:Nat} {P:Int} {a b:Bool} (h:Kept l n m x A S j M N K P a b) (hj:j < l.length) (h48:48≤l[j].toNat) (h57:l[j].toNat≤57) :
    (l[j].toNat=48→N=0→Kept l n m x A S (j+1) M N K (P - 1) a true)∧(¬ (l[j].toNat=48∧N=0) →
      (K < 19→Kept l n m x A S (j+1) (M*10+(l[j].toNat - 48)) (N+1) (K+1) P a true)∧(¬ K < 19→l[j].toNat=48∧Kept l n m x A S (j+1) M (N+1) K P a true)):=by
  obtain ⟨p,r,e1,e2,e3,e0,e4,e5,e6,e7⟩:=h.pr
  have hD:isD l[j]=true:=decide_eq_true ⟨h48,h57⟩
  rcases at_j hF hj e1 e2 with ⟨r',hr⟩ | ⟨_,x',hx⟩
  · generalize hcc:l[j]=c at *
    have hc46:c≠46:=fun k=>by rw [k] at h48;exact absurd h48 (by decide)
    have hdm:dg' m=dg' p++(c::dg' r'):=by
      rw [e1,hr,dg_app,show c::r'=[c]++r' from rfl,dg_app,dg_one hD];rfl
    have hdp:dg' (p++[c])=dg' p++[c]:=by rw [dg_app,dg_one hD]
    have hql:(dg' (p++[c])).length=(dg' p).length+1:=by rw [hdp,List.length_append,List.length_singleton]
    have hcat:(List.replicate A (48:UInt8)++S)[(dg' p).length]? =some c:=by
      rw [← hF.dig,hdm,List.getElem?_append_right (Nat.le_refl _),Nat.sub_self];rfl
    have ha':a=decide ((46:UInt8) ∈ p++[c]):=by
      rw [e4]
      congr 1
      simp [hc46.symm]
    have hb':true=decide (0 < (dg' (p++[c])).length):=by rw [decide_eq_true (by omega)]
    have hm':m=(p++[c])++r':=by rw [e1,hr,List.append_assoc];rfl
    have hj':j+1=(sgn n).length+(p++[c]).length:=by rw [List.length_append,List.length_singleton];omega
    have hfr:a=true→(fr (p++[c]):Int)=(fr p:Int)+1:=fun k=>by
      rw [fr_snoc p c (of_decide_eq_true (by rw [← e4];exact k))];rfl
    constructor
    · intro c48 hN0
      have hlt:(dg' p).length < A:=by
        rcases Nat.lt_or_ge (dg' p).length A with k | k
        · exact k
        · exfalso
          have hqA:(dg' p).length=A:=by omega
          rw [hqA,List.getElem?_append_right (by rw [List.length_replicate];omega),List.length_replicate,Nat.sub_self] at hcat
          cases S with
          | nil=>simp at hcat
          | cons s S' =>
            simp at hcat
            have:=hF.lead s S' rfl
            apply this
            rw [hcat]
            exact UInt8.toNat_inj.1 c48
      exact ⟨⟨p++[c],r',hm',hj',by omega,by omega,ha',hb',fun k=>by rw [hfr k,e6 k];omega,fun k=>by have:=e7 k;omega⟩,h.k,h.mant⟩
    · intro hnz
      have hge:A≤(dg' p).length:=by
        rcases Nat.lt_or_ge (dg' p).length A with k | k
        · exfalso
          rw [List.getElem?_append_left (by rw [List.length_replicate];exact k),List.getElem?_replicate,if_pos k] at hcat
          have:c=48:=(Option.some.inj hcat).symm
          exact hnz ⟨by rw [this];rfl,by omega⟩
        · exact k
      have hS:S[N]? =some c:=by
        rw [List.getElem?_append_right (by rw [List.length_replicate];exact hge),List.length_replicate] at hcat
        rw [e3];exact hcat
      have hNS:N < S.length:=by
        rcases Nat.lt_or_ge N S.length with k | k
        · exact k
        · rw [List.getElem?_eq_none k] at hS;cases hS
      have hpr:∃ p r,m=p++r∧j+1=(sgn n).length+p.length∧N+1=(dg' p).length - A∧(dg' p).length≤j+1∧a=decide ((46:UInt8) ∈ p)∧true=decide (0 < (dg' p).length)∧(a=true→P=((N+1:Nat):Int) - (fr p:Int))∧(a=false→-((j+1:Nat):Int)≤P∧P≤0) :=
        ⟨p++[c],r',hm',hj',by omega,by omega,ha',hb',fun k=>by rw [hfr k,e6 k];omega,fun k=>by have:=e7 k;omega⟩
      constructor
      · intro hK
        have hKN:K=N:=by have:=h.k;omega
        refine ⟨hpr,by omega,?_⟩
        rw [h.mant,hKN,List.take_add_one,hS,Option.toList_some,dvA_append,dvA_cons,dvA_nil]
        rfl
      · intro hK
        have hKN:K=19∧19≤N:=by have:=h.k;omega
        have hz:=hF.zer N hNS hKN.2
        have hc48:c=48:=by
          rw [List.getElem?_eq_getElem hNS,hz] at hS
          exact (Option.some.inj hS).symm
        exact ⟨by rw [hc48];rfl,⟨hpr,by omega,h.mant⟩⟩
  · exfalso
    rcases hF.exp with ⟨k,_⟩ | ⟨ds,k,_⟩ | ⟨ds,k,_⟩
    · rw [k] at hx;cases hx
    · rw [k] at hx
      have:=(List.cons.inj hx).1
      rw [← this] at h57
      exact absurd h57 (by decide)
    · rw [k] at hx
      have:=(List.cons.inj hx).1
      rw [← this] at h57
      exact absurd h57 (by decide)
def XKept (l ds:List UInt8) (k E:Nat):Prop:=∃ p r,ds=p++r∧k+r.length=l.length∧E=dvA 0 p
theorem xkept_next {l ds hd:List UInt8} (hl:l=hd++ds) (h3:ds.length≤3) (hD:∀ c ∈ ds,isD c=true) {k E:Nat} (h:XKept l ds k E) :
    E < 1000∧∀ hk:k < l.length,48≤l[k].toNat∧l[k].toNat≤57∧XKept l ds (k+1) (E*10+(l[k].toNat - 48)):=by
  obtain ⟨p,r,e1,e2,e3⟩:=h
  have hp:p.length≤3:=by rw [e1,List.length_append] at h3;omega
  have hpD:∀ c ∈ p,isD c=true:=fun c hc=>hD c (by rw [e1];exact List.mem_append_left _ hc)
  refine ⟨?_,fun hk=>?_⟩
  · have:=dvA_small p hpD
    have h10:10 ^ p.length≤10 ^ 3:=Nat.pow_le_pow_right (by decide) hp
    rw [e3]
    omega
  · cases r with
    | nil=>simp at e2;omega
    | cons c r' =>
      have hc:l[k]=c:=by
        have hg:l[k]? =some c:=by
          rw [hl,e1,← List.append_assoc,List.getElem?_append_right (by
            have:=congrArg List.length hl
            rw [e1] at this
            simp only [List.length_append,List.length_cons] at this e2 ⊢
            omega)]
          have:k - (hd++p).length=0:=by
            have:=congrArg List.length hl
            rw [e1] at this
            simp only [List.length_append,List.length_cons] at this e2 ⊢
            omega
          rw [this]
          rfl
        rw [List.getElem?_eq_getElem hk] at hg
        exact Option.some.inj hg
      have hcD:=isD_nat (hD c (by rw [e1];simp))
      rw [hc]
      refine ⟨hcD.1,hcD.2,p++[c],r',by rw [e1,List.append_assoc];rfl,by rw [List.length_cons] at e2;omega,?_⟩
      rw [dvA_append,dvA_cons,dvA_nil,e3]
      rfl
theorem xkept_start {l ds hd:List UInt8} (hl:l=hd++ds):XKept l ds hd.length 0:=⟨[],ds,rfl,by rw [hl,List.length_append],rfl⟩
theorem xkept_end {l ds:List UInt8} {E:Nat} (h:XKept l ds l.length E):E=dvA 0 ds:=by
  obtain ⟨p,r,e1,e2,e3⟩:=h
  have:r=[]:=List.length_eq_zero_iff.1 (by omega)
  rw [this,List.append_nil] at e1
  rw [e3,e1]
theorem read_form {l:List UInt8} {n:Bool} {m x:List UInt8} {A:Nat} {S:List UInt8} {z:Int} (hF:Form l n m x A S z) (w:World) :
    Calls Tryz.prog 182 #[.string ⟨l.toArray⟩] w fun e w'=>e=.returned (.tuple #[.int .u64 ((dvA 0 (S.take (min S.length 19)):Nat):Int),.int .i64 (if dvA 0 (S.take (min S.length 19))=0 then 0 else (S.length:Int) - (fr m:Int)+z - ((min S.length 19:Nat):Int)),.bool n,.bool false,.bool false,.int .i64 (l.length:Int),.bool true])∧w'=w:=by
  have hlen:=hF.len
  have hll:l.length=(sgn n).length+m.length+x.length:=by rw [hF.is,List.length_append,List.length_append]
  have hm1:1≤m.length:=by obtain ⟨c,r,e,_⟩:=hF.fst;rw [e,List.length_cons];omega
  have hs1:=sgn_len1 n
  obtain ⟨c0,m0,hm0,hc0⟩:=hF.fst
  -- the byte behind the digits
  have hbeh:∀ (h:(sgn n).length+m.length < l.length),∃ x',x=l[(sgn n).length+m.length]::x':=fun h=>by
    rcases at_j hF h (p:=m) (r:=[]) (by simp) rfl with ⟨r',hr⟩ | ⟨_,hx⟩
    · cases hr
    · exact hx
  have hdS:∀ c ∈ S,isD c=true:=fun c hc=>by
    have:c ∈ dg' m:=by rw [hF.dig];exact List.mem_append_right _ hc
    exact (List.mem_filter.1 this).2
  obtain ⟨dsx,hd,hds,hd3,hdD,hexp⟩:∃ ds hd:List UInt8,l=hd++ds∧ds.length≤3∧(∀ c ∈ ds,isD c=true)∧((x=[]∧z=0)∨1≤ds.length∧(x=101::ds∧hd=sgn n++m++[101]∧z=(dvA 0 ds:Int)∨x=101::45::ds∧hd=sgn n++m++[101,45]∧z=-(dvA 0 ds:Int))):=by
    rcases hF.exp with k | ⟨ds,k1,k2,k3,k4,k5⟩ | ⟨ds,k1,k2,k3,k4,k5⟩
    · exact ⟨[],l,by simp,by simp,by simp,Or.inl k⟩
    · exact ⟨ds,sgn n++m++[101],by rw [hF.is,k1];simp,k3,k4,Or.inr ⟨k2,Or.inl ⟨k1,rfl,k5⟩⟩⟩
    · exact ⟨ds,sgn n++m++[101,45],by rw [hF.is,k1];simp,k3,k4,Or.inr ⟨k2,Or.inr ⟨k1,rfl,k5⟩⟩⟩
  have hKb:∀ {j M N K:Nat} {P:Int} {a b:Bool},Kept l n m x A S j M N K P a b→j≤(sgn n).length+m.length∧M < 10 ^ K:=fun {j M N K P a b} h=>by
    obtain ⟨p,r,e1,e2,_⟩:=h.pr
    refine ⟨by have:=congrArg List.length e1;rw [List.length_append] at this;omega,?_⟩
    have h1:=dvA_small (S.take K) (fun c hc=>hdS c (List.mem_of_mem_take hc))
    have h2:(S.take K).length≤K:=List.length_take_le _ _
    have h3:10 ^ (S.take K).length≤10 ^ K:=Nat.pow_le_pow_right (by decide) h2
    rw [h.mant]
    omega
  have hendR:∀ {j M N K:Nat} {P:Int} {a b:Bool},Kept l n m x A S j M N K P a b→j=(sgn n).length+m.length→b=true∧∀ E:Int,E=z→M=dvA 0 (S.take (min S.length 19))∧xOut M N K P a E=(if M=0 then 0 else (S.length:Int) - (fr m:Int)+z - ((min S.length 19:Nat):Int)):=fun {j M N K P a b} h hj=>by
    obtain ⟨k1,k2,k3,k4,k5⟩:=kept_end hF h hj
    refine ⟨k1,fun E hE=>⟨k2,?_⟩⟩
    unfold xOut
    rw [k5,k3,hE]
  refine (read_gen l hlen n (sgn n).length (by omega) ?hsg (Kept l n m x A S) (XKept l dsx) (fun M e=>M=dvA 0 (S.take (min S.length 19))∧e=(if M=0 then 0 else (S.length:Int) - (fr m:Int)+z - ((min S.length 19:Nat):Int))) ?hex kept_start ?h1 ?h2 (fun j hj M N K P a b h hc=>kept_pt hF h hj hc) (fun j hj M N K P a b h hc h0=>(kept_digit hF h hj (by omega) (by omega)).1 hc h0) (fun j hj M N K P a b h c48 c57 hz=>(kept_digit hF h hj c48 c57).2 hz) ?h6 ?h7 (fun k E h=>(xkept_next hds hd3 hdD h).1) (fun k hk E h=>(xkept_next hds hd3 hdD h).2 hk) w).mono ?fin
  case fin =>
    rintro e w' ⟨⟨M,x',rfl,hM,hx'⟩,rfl⟩
    exact ⟨by rw [hx',hM],rfl⟩
  case hsg =>
    cases n
    · left
      refine ⟨rfl,rfl,?_⟩
      have h0:0 < l.length:=by omega
      rcases at_j hF h0 (p:=[]) (r:=m) rfl rfl with ⟨r',hr⟩ | ⟨hr,_⟩
      · have:l[0]=c0:=by rw [hm0] at hr;exact (List.cons.inj hr).1.symm
        rw [this]
        have:=isD_nat hc0
        omega
      · rw [hr] at hm1;simp at hm1
    · right
      refine ⟨rfl,rfl,?_⟩
      have:l[0]? =some 45:=by rw [hF.is];rfl
      rw [List.getElem?_eq_getElem (by omega)] at this
      rw [Option.some.inj this]
      rfl
  case hex =>
    intro h
    rcases at_j hF h (p:=[c0]) (r:=m0) (by rw [hm0];rfl) rfl with ⟨r',hr⟩ | ⟨_,x',hx⟩
    · rcases hF.chr l[(sgn n).length+1] (by rw [hm0,hr];simp) with k | k
      · have:=isD_nat k;omega
      · rw [k];left;decide
    · rcases hexp with ⟨k,_⟩ | ⟨_,⟨k,_⟩ | ⟨k,_⟩⟩
      · rw [k] at hx;cases hx
      · rw [k] at hx;right;rw [← (List.cons.inj hx).1];rfl
      · rw [k] at hx;right;rw [← (List.cons.inj hx).1];rfl
  case h1 =>
    intro j M N K P a b h
    obtain ⟨q1,q2⟩:=hKb h
    have hk:=h.k
    obtain ⟨p,r,e1,e2,e3,e0,_,_,e6,e7⟩:=h.pr
    have hfr:=fr_le p
    have h19:10 ^ K≤10 ^ 19:=Nat.pow_le_pow_right (by decide) (by omega)
    refine ⟨by omega,by omega,by omega,fun hK=>?_,?_⟩
    · have h18:10 ^ K≤10 ^ 18:=Nat.pow_le_pow_right (by decide) (by omega)
      omega
    · cases a
      · have:=e7 rfl;omega
      · have:=e6 rfl;omega
  case h2 =>
    intro j hj M N K P a b h
    obtain ⟨p,r,e1,e2,_⟩:=h.pr
    rcases at_j hF hj e1 e2 with ⟨r',hr⟩ | ⟨_,x',hx⟩
    · rcases hF.chr l[j] (by rw [e1,hr];simp) with k | k
      · right;left;exact isD_nat k
      · left;rw [k];rfl
    · right;right
      rcases hexp with ⟨k,_⟩ | ⟨_,⟨k,_⟩ | ⟨k,_⟩⟩
      · rw [k] at hx;cases hx
      · rw [k] at hx;rw [← (List.cons.inj hx).1];rfl
      · rw [k] at hx;rw [← (List.cons.inj hx).1];rfl
  case h6 =>
    intro M N K P a b h
    obtain ⟨q1,_⟩:=hKb h
    have hx0:x.length=0:=by omega
    obtain ⟨k1,k2⟩:=hendR h (by omega)
    have hz:(0:Int)=z:=by
      rcases hexp with ⟨_,k⟩ | ⟨_,⟨k,_⟩ | ⟨k,_⟩⟩
      · exact k.symm
      · rw [k] at hx0;simp at hx0
      · rw [k] at hx0;simp at hx0
    exact ⟨k1,k2 0 hz⟩
  case h7 =>
    intro j hj M N K P a b h hc
    have hc':l[j]=101:=UInt8.toNat_inj.1 hc
    have hpr:=h.pr
    obtain ⟨p,r,e1,e2,_⟩:=hpr
    have hjm:j=(sgn n).length+m.length:=by
      rcases at_j hF hj e1 e2 with ⟨r',hr⟩ | ⟨hr,_⟩
      · exfalso
        rcases hF.chr l[j] (by rw [e1,hr];simp) with k | k
        · have:=isD_nat k;omega
        · rw [k] at hc';exact absurd hc' (by decide)
      · rw [hr,List.append_nil] at e1
        rw [e1,e2]
    obtain ⟨k1,k2⟩:=hendR h hjm
    refine ⟨k1,?_⟩
    rcases hexp with ⟨k,_⟩ | ⟨hd1,⟨k,khd,kz⟩ | ⟨k,khd,kz⟩⟩
    · rw [k] at hll;simp at hll;omega
    · have hxl:x.length=1+dsx.length:=by rw [k,List.length_cons];omega
      have hh:hd.length=j+1:=by rw [khd];simp;omega
      refine ⟨by omega,Or.inr ?_⟩
      have hst:=xkept_start hds
      rw [hh] at hst
      obtain ⟨v1,v2,_⟩:=(xkept_next hds hd3 hdD hst).2 (by omega)
      exact ⟨v1,v2,hst,fun E hE=>by
        have:=xkept_end hE
        exact k2 _ (by rw [kz,this])⟩
    · have hxl:x.length=2+dsx.length:=by rw [k,List.length_cons,List.length_cons];omega
      have hh:hd.length=j+2:=by rw [khd];simp;omega
      refine ⟨by omega,Or.inl ?_⟩
      have hst:=xkept_start hds
      rw [hh] at hst
      have h45:l[j+1]? =some 45:=by
        rw [hF.is,k,List.getElem?_append_right (by rw [List.length_append];omega),List.length_append,show j+1 - ((sgn n).length+m.length)=1 from by omega]
        rfl
      rw [List.getElem?_eq_getElem (by omega)] at h45
      exact ⟨by rw [Option.some.inj h45];rfl,⟨by omega,hst⟩,fun E hE=>by
        have:=xkept_end hE
        exact k2 _ (by rw [kz,this])⟩
theorem dot_one (q1 q2:List UInt8) (h1:∀ c ∈ q1,isD c=true) (h2:∀ c ∈ q2,isD c=true) (p r:List UInt8) (h:q1++46::q2=p++46::r):(46:UInt8) ∉ p∧(46:UInt8) ∉ r:=by
  have n1:(46:UInt8) ∉ q1:=fun k=>absurd (h1 _ k) (by decide)
  have n2:(46:UInt8) ∉ q2:=fun k=>absurd (h2 _ k) (by decide)
  have e:=congrArg (List.count 46) h
  rw [List.count_append,List.count_append,List.count_cons_self,List.count_cons_self,List.count_eq_zero_of_not_mem n1,List.count_eq_zero_of_not_mem n2] at e
  exact ⟨List.count_eq_zero.1 (by omega),List.count_eq_zero.1 (by omega)⟩
theorem dot_none (q:List UInt8) (h:∀ c ∈ q,isD c=true) (p r:List UInt8) (e:q=p++46::r):(46:UInt8) ∉ p∧(46:UInt8) ∉ r :=
  absurd (h 46 (by rw [e];simp)) (by decide)
theorem dg_mid (q1 q2:List UInt8) (h1:∀ c ∈ q1,isD c=true) (h2:∀ c ∈ q2,isD c=true):dg' (q1++46::q2)=q1++q2:=by
  rw [dg_app,dg_all h1]
  congr 1
  have e3:dg' (46::q2)=dg' q2:=List.filter_cons_of_neg (by decide)
  rw [e3,dg_all h2]
theorem fr_mid (q1 q2:List UInt8) (h1:∀ c ∈ q1,isD c=true):fr (q1++46::q2)=q2.length:=fr_pt (fun c hc e=>absurd (h1 c hc) (by rw [e];decide))
theorem lead_tD (u c:Nat) (hu:1≤u):∀ d r,tD u++List.replicate c 48=d::r→d≠48:=by
  intro d r h
  have hl:0 < (Lib.decDigits u).length:=by rw [Lib.decDigits_length];exact Lib.nDigits_pos u
  have hf:=first_digit u hu hl
  rw [getD_tD u hu,List.cons_append] at h
  have:=(List.cons.inj h).1
  rw [← this,List.getD_eq_getElem?_getD,List.getElem?_eq_getElem hl]
  exact hf
theorem zer_tD (u c:Nat) (hu:1≤u) (h17:trimLen u≤17):∀ i (h:i < (tD u++List.replicate c 48).length),19≤i→(tD u++List.replicate c (48:UInt8))[i]=48:=by
  intro i h hi
  have t1:=(tD_facts u hu).1
  rw [List.getElem_append_right (by omega),List.getElem_replicate]
def Reads (l:List UInt8) (n:Bool) (u:Nat) (dp:Int):Prop :=
  ∃ m x A c z,Form l n m x A (tD u++List.replicate c 48) z∧((trimLen u+c:Nat):Int) - (fr m:Int)+z=dp∧(c=0∨dp=((trimLen u+c:Nat):Int))
theorem exp_itoa (v:Int) (h0:-400≤v) (h1:v≤400):(∃ ds,(101:UInt8)::Lib.itoa v=101::ds∧1≤ds.length∧ds.length≤3∧(∀ c ∈ ds,isD c=true)∧v=(dvA 0 ds:Int))∨(∃ ds,(101:UInt8)::Lib.itoa v=101::45::ds∧1≤ds.length∧ds.length≤3∧(∀ c ∈ ds,isD c=true)∧v=-(dvA 0 ds:Int)):=by
  unfold Lib.itoa
  split
  · right
    refine ⟨_,rfl,?_,?_,(dec_val _).2,?_⟩
    · rw [Lib.decDigits_length];exact Lib.nDigits_pos _
    · rw [Lib.decDigits_length];exact n_le (by decide) (by omega)
    · rw [(dec_val _).1];omega
  · left
    refine ⟨_,rfl,?_,?_,(dec_val _).2,?_⟩
    · rw [Lib.decDigits_length];exact Lib.nDigits_pos _
    · rw [Lib.decDigits_length];exact n_le (by decide) (by omega)
    · rw [(dec_val _).1];omega
theorem reads_e (n:Bool) (u:Nat) (dp:Int) (hu:1≤u) (h17:trimLen u≤17) (h0:-390≤dp) (h1:dp≤390):Reads (eHead n u (trimLen u)++101::Lib.itoa (dp - 1)) n u dp:=by
  have hlen:=(shape_e n u dp hu h17 h0 h1).len
  obtain ⟨t1,t2,t3,t4,t5⟩:=tD_facts u hu
  have tg:=getD_tD u hu
  have hx:=exp_itoa (dp - 1) (by omega) (by omega)
  unfold eHead at hlen ⊢
  by_cases k1:trimLen u=1
  · rw [if_pos k1] at hlen ⊢
    have e:tD u=[(Lib.decDigits u).getD 0 0]:=by
      rw [tg]
      congr 1
      exact List.eq_nil_of_length_eq_zero (by rw [List.length_drop,t1,k1])
    rw [← e] at hlen ⊢
    refine ⟨tD u,101::Lib.itoa (dp - 1),0,0,dp - 1,⟨rfl,hlen,⟨_,_,e,t4 _ (by rw [e];simp)⟩,fun c hc=>Or.inl (t4 c hc),fun p r h=>dot_none _ t4 p r h,by rw [dg_all t4];simp,lead_tD u 0 hu,zer_tD u 0 hu h17,Or.inr hx⟩,?_,Or.inl rfl⟩
    rw [fr_none _ (fun k=>absurd (t4 _ k) (by decide)),k1]
    omega
  · rw [if_neg k1] at hlen ⊢
    have hd:∀ c ∈ (tD u).drop 1,isD c=true:=fun c hc=>t4 c (List.mem_of_mem_drop hc)
    have hh:∀ c ∈ [(Lib.decDigits u).getD 0 0],isD c=true:=fun c hc=>t4 c (by rw [tg];rw [List.mem_singleton.1 hc];simp)
    have e:sgn n++[(Lib.decDigits u).getD 0 0,46]++((Lib.decDigits u).take (trimLen u)).drop 1=sgn n++([(Lib.decDigits u).getD 0 0]++46::(tD u).drop 1):=by
      unfold tD;simp
    rw [e] at hlen ⊢
    refine ⟨[(Lib.decDigits u).getD 0 0]++46::(tD u).drop 1,101::Lib.itoa (dp - 1),0,0,dp - 1,⟨rfl,hlen,⟨_,_,rfl,hh _ (by simp)⟩,fun c hc=>?_,fun p r h=>dot_one _ _ hh hd p r h,?_,lead_tD u 0 hu,zer_tD u 0 hu h17,Or.inr hx⟩,?_,Or.inl rfl⟩
    · rcases List.mem_append.1 hc with k | k
      · exact Or.inl (hh c k)
      · rcases List.mem_cons.1 k with k | k
        · exact Or.inr k
        · exact Or.inl (hd c k)
    · rw [dg_mid _ _ hh hd]
      simp only [List.replicate_zero,List.nil_append,List.append_nil]
      exact tg.symm
    · rw [fr_mid _ _ hh,List.length_drop,t1];omega
theorem reads_f (n:Bool) (u:Nat) (dp:Int) (hu:1≤u) (h17:trimLen u≤17) (h0:-5≤dp) (h1:dp≤21):Reads (fB n u (trimLen u) dp) n u dp:=by
  have hlen:=(shape_f n u dp hu h17 h0 h1).len
  obtain ⟨t1,t2,t3,t4,t5⟩:=tD_facts u hu
  unfold fB at hlen ⊢
  by_cases c1:dp≤0
  · rw [if_pos c1] at hlen ⊢
    have hz:∀ c ∈ List.replicate (-dp).toNat 48++tD u,isD c=true:=fun c hc=>by
      rcases List.mem_append.1 hc with k | k
      · exact zeros_d _ c k
      · exact t4 c k
    have hh:∀ c ∈ [(48:UInt8)],isD c=true:=by decide
    have e:sgn n++[48,46]++List.replicate (-dp).toNat 48++(Lib.decDigits u).take (trimLen u)=sgn n++([48]++46::(List.replicate (-dp).toNat 48++tD u))++[]:=by unfold tD;simp
    rw [e] at hlen ⊢
    refine ⟨[48]++46::(List.replicate (-dp).toNat 48++tD u),[],(-dp).toNat+1,0,0,⟨rfl,hlen,⟨_,_,rfl,by decide⟩,fun c hc=>?_,fun p r h=>dot_one _ _ hh hz p r h,?_,lead_tD u 0 hu,zer_tD u 0 hu h17,Or.inl ⟨rfl,rfl⟩⟩,?_,Or.inl rfl⟩
    · rcases List.mem_append.1 hc with k | k
      · exact Or.inl (hh c k)
      · rcases List.mem_cons.1 k with k | k
        · exact Or.inr k
        · exact Or.inl (hz c k)
    · rw [dg_mid _ _ hh hz,List.replicate_succ]
      simp
    · rw [fr_mid _ _ hh,List.length_append,List.length_replicate,t1];omega
  · rw [if_neg c1] at hlen ⊢
    by_cases c2:(trimLen u:Int)≤dp
    · rw [if_pos c2] at hlen ⊢
      have hz:∀ c ∈ tD u++List.replicate (dp.toNat - trimLen u) 48,isD c=true:=fun c hc=>by
        rcases List.mem_append.1 hc with k | k
        · exact t4 c k
        · exact zeros_d _ c k
      have e:sgn n++(Lib.decDigits u).take (trimLen u)++List.replicate (dp.toNat - trimLen u) 48=sgn n++(tD u++List.replicate (dp.toNat - trimLen u) 48)++[]:=by unfold tD;simp
      rw [e] at hlen ⊢
      refine ⟨tD u++List.replicate (dp.toNat - trimLen u) 48,[],0,dp.toNat - trimLen u,0,⟨rfl,hlen,?_,fun c hc=>Or.inl (hz c hc),fun p r h=>dot_none _ hz p r h,by rw [dg_all hz];simp,lead_tD u _ hu,zer_tD u _ hu h17,Or.inl ⟨rfl,rfl⟩⟩,?_,Or.inr (by omega)⟩
      · have:=getD_tD u hu
        refine ⟨_,_,by rw [this,List.cons_append],hz _ (by rw [this];simp)⟩
      · rw [fr_none _ (fun k=>absurd (hz _ k) (by decide))];omega
    · rw [if_neg c2] at hlen ⊢
      have ha:∀ c ∈ (tD u).take dp.toNat,isD c=true:=fun c hc=>t4 c (List.mem_of_mem_take hc)
      have hd:∀ c ∈ (tD u).drop dp.toNat,isD c=true:=fun c hc=>t4 c (List.mem_of_mem_drop hc)
      have e0:(Lib.decDigits u).take dp.toNat=(tD u).take dp.toNat:=by unfold tD;rw [List.take_take];congr 1;omega
      have e:sgn n++(Lib.decDigits u).take dp.toNat++[46]++((Lib.decDigits u).take (trimLen u)).drop dp.toNat=sgn n++((tD u).take dp.toNat++46::(tD u).drop dp.toNat)++[]:=by rw [e0];unfold tD;simp
      rw [e] at hlen ⊢
      refine ⟨(tD u).take dp.toNat++46::(tD u).drop dp.toNat,[],0,0,0,⟨rfl,hlen,?_,fun c hc=>?_,fun p r h=>dot_one _ _ ha hd p r h,?_,lead_tD u 0 hu,zer_tD u 0 hu h17,Or.inl ⟨rfl,rfl⟩⟩,?_,Or.inl rfl⟩
      · cases h:(tD u).take dp.toNat with
        | nil =>
          exfalso
          have:=congrArg List.length h
          rw [List.length_take,t1] at this
          simp at this
          omega
        | cons c r=>exact ⟨c,r++46::(tD u).drop dp.toNat,rfl,ha c (by rw [h];simp)⟩
      · rcases List.mem_append.1 hc with k | k
        · exact Or.inl (ha c k)
        · rcases List.mem_cons.1 k with k | k
          · exact Or.inr k
          · exact Or.inl (hd c k)
      · rw [dg_mid _ _ ha hd,List.take_append_drop];simp
      · rw [fr_mid _ _ ha,List.length_drop,t1];omega
theorem reads_x (x:Nat) (h0:x % 9223372036854775808≠0) (h1:x % 9223372036854775808 < 9218868437227405312):Reads (pText x) (decide (9223372036854775808≤x)) (sd x).1 (pt x):=by
  obtain ⟨s1,s2,s3,s4⟩:=sd_bounds x h0 h1
  obtain ⟨p0,p1⟩:=pt_bounds x h0 h1
  have h17:=trim_17 x h0 h1
  unfold pText
  cases hE:hasE (x % 9223372036854775808)
  · obtain ⟨m0,m1⟩:=pt_mid x h0 h1 hE
    rw [if_neg (by decide)]
    unfold fText
    rw [if_neg h0,if_neg (by omega),if_neg (by omega)]
    exact reads_f _ _ _ s1 h17 m0 m1
  · rw [if_pos rfl]
    exact reads_e _ _ _ s1 h17 p0 p1
end Go.Proofs.YtifapjammoahgaaGreatDoor.Rl
namespace Go.Proofs.YtifapjammoahgaaGreatDoor.Rl
open Soft
structure Got (x d:Nat) (p:Int):Prop where
  pos:1≤d
  top:d < 18446744073709551616
  kind:d < 144115188075855872∨0≤p∧p≤27
  low:-345≤p
  high:p≤310
  within:Within (V d 0 p) (mOf (x % 9223372036854775808)) (xOf (x % 9223372036854775808))
theorem flt_of (a:Nat) (h0:1≤a) (h1:a < 9218868437227405312):Flt (mOf a) (xOf a)∧(xOf a+1074).toNat*4503599627370496+mOf a=a:=by
  unfold mOf xOf
  by_cases h:a < 4503599627370496
  · rw [if_pos h,if_pos h]
    exact ⟨⟨h0,by omega,by omega,by omega,fun _=>rfl⟩,by omega⟩
  · rw [if_neg h,if_neg h]
    refine ⟨⟨by omega,by omega,by omega,by omega,fun k=>by omega⟩,by omega⟩
theorem ten_big:V 1 1025 0 < V 1 0 311:=by decide +kernel
theorem ten_low:V 100000000000000000 0 (-346) < V 1 (-1075) 0:=by decide +kernel
theorem V_p_mono (x:Nat) (e p q:Int) (h:p≤q) (hp:-400≤p):V x e p≤V x e q:=by
  have:=V_tens x (q - p).toNat e p hp
  rw [show p+(((q - p).toNat:Nat):Int)=q from by omega] at this
  rw [← this]
  exact (V_mono _ _).2 (Nat.le_mul_of_pos_right _ (Nat.pow_pos (by decide)))
theorem V_e_mono (x:Nat) (e f p:Int) (h:e≤f) (he:-1200≤e):V x e p≤V x f p:=by
  have:=V_two x (f - e).toNat e p he
  rw [show e+(((f - e).toNat:Nat):Int)=f from by omega] at this
  rw [← this]
  exact (V_mono _ _).2 (Nat.le_mul_of_pos_right _ (Nat.pow_pos (by decide)))
theorem got_of (x:Nat) (h0:x % 9223372036854775808≠0) (h1:x % 9223372036854775808 < 9218868437227405312) (c:Nat) (dp:Int) (hdp:dp=pt x) (hc:c=0∨dp=((trimLen (sd x).1+c:Nat):Int)) (hlen:trimLen (sd x).1+c≤25) :
    Got x (dvA 0 ((tD (sd x).1++List.replicate c 48).take (min (trimLen (sd x).1+c) 19))) (dp - ((min (trimLen (sd x).1+c) 19:Nat):Int)):=by
  obtain ⟨s1,s2,s3,s4⟩:=sd_bounds x h0 h1
  have h17:=trim_17 x h0 h1
  have hsd:=sd_in (x % 9223372036854775808) (by omega) h1
  rw [← sd_mod x] at hsd
  unfold pt at hdp
  generalize (sd x).1=u at *
  generalize (sd x).2=e at *
  obtain ⟨t1,t2,t3,t4,t5⟩:=tD_facts u s1
  obtain ⟨K,hK⟩:∃ K,K=min (trimLen u+c) 19:=⟨_,rfl⟩
  rw [← hK]
  obtain ⟨S,hS⟩:∃ S,S=tD u++List.replicate c (48:UInt8):=⟨_,rfl⟩
  rw [← hS]
  have hSl:S.length=trimLen u+c:=by rw [hS,List.length_append,List.length_replicate,t1]
  have hSD:∀ d ∈ S,isD d=true:=fun d hd=>by
    rw [hS] at hd
    rcases List.mem_append.1 hd with k | k
    · exact t4 d k
    · exact zeros_d _ d k
  -- the digits that are dropped are zeros
  have hdrop:S.drop K=List.replicate (trimLen u+c - K) 48:=by
    rcases Nat.le_total (trimLen u+c) 19 with k | k
    · rw [List.drop_eq_nil_of_le (by omega),show trimLen u+c - K=0 from by omega];rfl
    · rw [hS,List.drop_append,List.drop_eq_nil_of_le (by omega),List.nil_append,List.drop_replicate,t1]
      congr 1
      omega
  obtain ⟨d,hd⟩:∃ d,d=dvA 0 (S.take K):=⟨_,rfl⟩
  rw [← hd]
  have hval:d*10 ^ (trimLen u+c - K)=dvA 0 (tD u)*10 ^ c:=by
    have e1:dvA 0 S=d*10 ^ (trimLen u+c - K):=by
      rw [← List.take_append_drop K S,dvA_append,hdrop,dvA_zeros,← hd]
    have e2:dvA 0 S=dvA 0 (tD u)*10 ^ c:=by rw [hS,dvA_append,dvA_zeros]
    rw [← e1,e2]
  have htop:d < 10 ^ K:=by
    have a1:=dvA_small (S.take K) (fun d hd=>hSD d (List.mem_of_mem_take hd))
    have a2:10 ^ (S.take K).length≤10 ^ K:=Nat.pow_le_pow_right (by decide) (List.length_take_le _ _)
    rw [hd]
    omega
  have hK19:10 ^ K≤10 ^ 19:=Nat.pow_le_pow_right (by decide) (by omega)
  have htd:1≤dvA 0 (tD u):=by
    rcases Nat.eq_zero_or_pos (dvA 0 (tD u)) with k | k
    · rw [k,Nat.zero_mul] at t5;omega
    · exact k
  have hpos:1≤d:=by
    rcases Nat.eq_zero_or_pos d with k | k
    · rw [k,Nat.zero_mul] at hval
      have:0 < dvA 0 (tD u)*10 ^ c:=Nat.mul_pos htd (Nat.pow_pos (by decide))
      omega
    · exact k
  -- worth the same
  have hV:V d 0 (dp - (K:Int))=V u 0 e:=by
    have e1:=V_tens d (trimLen u+c - K) 0 (dp - ((trimLen u+c:Nat):Int)) (by omega)
    rw [show dp - ((trimLen u+c:Nat):Int)+((trimLen u+c - K:Nat):Int)=dp - (K:Int) from by omega,hval] at e1
    have e2:=V_tens (dvA 0 (tD u)) c 0 (dp - ((trimLen u+c:Nat):Int)) (by omega)
    rw [show dp - ((trimLen u+c:Nat):Int)+(c:Int)=dp - (trimLen u:Int) from by omega] at e2
    have e3:=V_tens (dvA 0 (tD u)) (Lib.nDigits u - trimLen u) 0 e (by omega)
    rw [t5,show e+((Lib.nDigits u - trimLen u:Nat):Int)=dp - (trimLen u:Int) from by omega] at e3
    rw [← e1,e2,e3]
  have hW:Within (V d 0 (dp - (K:Int))) (mOf (x % 9223372036854775808)) (xOf (x % 9223372036854775808)):=by rw [hV];exact hsd
  have hkind:d < 144115188075855872∨0≤dp - (K:Int)∧dp - (K:Int)≤27:=by
    rcases hc with k | k
    · left
      have:10 ^ K≤10 ^ 17:=Nat.pow_le_pow_right (by decide) (by omega)
      omega
    · right
      omega
  obtain ⟨fl,_⟩:=flt_of (x % 9223372036854775808) (by omega) h1
  obtain ⟨hM0,hM1,hE0,hE1,_⟩:=fl
  refine ⟨hpos,by omega,hkind,?_,?_,hW⟩
  · rcases Int.lt_or_le (dp - (K:Int)) (-345) with k | k
    · exfalso
      have hd17:d≤100000000000000000:=by
        rcases hc with q | q
        · have:10 ^ K≤10 ^ 17:=Nat.pow_le_pow_right (by decide) (by omega)
          omega
        · omega
      have a1:V d 0 (dp - (K:Int))≤V 100000000000000000 0 (dp - (K:Int)):=(V_mono _ _).2 hd17
      have a2:V 100000000000000000 0 (dp - (K:Int))≤V 100000000000000000 0 (-346):=V_p_mono _ _ _ _ (by omega) (by omega)
      have a3:=hW.1
      have a4:V 1 (-1075) 0≤V (2*mOf (x % 9223372036854775808) - 1) (-1075) 0:=(V_mono _ _).2 (by omega)
      have a5:=V_e_mono (2*mOf (x % 9223372036854775808) - 1) (-1075) (xOf (x % 9223372036854775808) - 1) 0 (by omega) (by decide)
      have:=ten_low
      omega
    · exact k
  · rcases Int.lt_or_le 310 (dp - (K:Int)) with k | k
    · exfalso
      have a1:V 1 0 311≤V 1 0 (dp - (K:Int)):=V_p_mono _ _ _ _ (by omega) (by decide)
      have a2:V 1 0 (dp - (K:Int))≤V d 0 (dp - (K:Int)):=(V_mono _ _).2 hpos
      have a3:=hW.2.1
      have a4:=V_lt_exp (k:=0) (j:=0) (e:=1025) (e':=1025) (p:=0) (by decide) (by decide) (x:=1) (y:=0) (by decide) (by decide)
      have a5:V (2*mOf (x % 9223372036854775808)+1) (xOf (x % 9223372036854775808) - 1) 0≤V (1*2 ^ 55) (xOf (x % 9223372036854775808) - 1) 0:=(V_mono _ _).2 (by omega)
      rw [V_two _ _ _ _ (by omega)] at a5
      have a6:=V_e_mono 1 (xOf (x % 9223372036854775808) - 1+((55:Nat):Int)) 1025 0 (by omega) (by omega)
      have:=ten_big
      omega
    · exact k
theorem read_x (x:Nat) (h0:x % 9223372036854775808≠0) (h1:x % 9223372036854775808 < 9218868437227405312):∃ d p,Got x d p∧∀ w:World,
    Calls Tryz.prog 182 #[.string ⟨(pText x).toArray⟩] w fun e w'=>e=.returned (.tuple #[.int .u64 (d:Int),.int .i64 p,.bool (decide (9223372036854775808≤x)),.bool false,.bool false,.int .i64 ((pText x).length:Int),.bool true])∧w'=w:=by
  obtain ⟨m,xx,A,c,z,hF,hdp,hc⟩:=reads_x x h0 h1
  have t1:=(tD_facts (sd x).1 (sd_bounds x h0 h1).1).1
  have hSl:(tD (sd x).1++List.replicate c (48:UInt8)).length=trimLen (sd x).1+c:=by rw [List.length_append,List.length_replicate,t1]
  have hl25:trimLen (sd x).1+c≤25:=by
    have a1:=hF.len
    have a2:=congrArg List.length hF.is
    have a3:=congrArg List.length hF.dig
    have a4:=dg_len m
    simp only [List.length_append,List.length_replicate] at a2 a3
    omega
  have hG:=got_of x h0 h1 c (pt x) rfl hc hl25
  refine ⟨_,_,hG,fun w=>(read_form hF w).mono fun e w' h=>?_⟩
  obtain ⟨rfl,rfl⟩:=h
  refine ⟨?_,rfl⟩
  rw [hSl]
  have hp:=hG.pos
  generalize dvA 0 ((tD (sd x).1++List.replicate c 48).take (min (trimLen (sd x).1+c) 19))=d at *
  rw [if_neg (by omega),hdp]
end Go.Proofs.YtifapjammoahgaaGreatDoor.Rl
/- SMALL THINGS OF THE READING, AND THE DOOR THAT KEEPS THE WORLD's SHAPE. Own work of the verifier. -/
namespace Go.Proofs.YtifapjammoahgaaGreatDoor.Rl
open Go.RowKit Go.Sort Soft
theorem tail_bytes (c:UInt8) (r:List UInt8):(ByteArray.mk (c::r).toArray).extract 1 (r.length+1)=⟨r.toArray⟩:=by
  apply ByteArray.ext
  rw [ByteArray.data_extract]
  simp
theorem inf_pos (w:World):Calls Tryz.prog 195 #[.int .i64 1] w fun e w'=>e=.returned (.float .f64 9218868437227405312)∧w'=w:=by
  go_enter Tryz.func195,Tryz.ntmps195
  go_wp2_with (first | simp only [f64from] | fail)
  go_ret
  exact ⟨rfl,rfl⟩
theorem inf_neg (w:World):Calls Tryz.prog 195 #[.int .i64 (-1)] w fun e w'=>e=.returned (.float .f64 18442240474082181120)∧w'=w:=by
  go_enter Tryz.func195,Tryz.ntmps195
  go_wp2_with (first | simp only [f64from] | fail)
  go_ret
  exact ⟨rfl,rfl⟩
theorem nan_any (w:World):Calls Tryz.prog 196 #[] w fun e w'=>(∃ u,e=.returned (.float .f64 u)∧9218868437227405312 < u∧u < 9223372036854775808)∧w'=w:=by
  go_enter Tryz.func196,Tryz.ntmps196
  go_wp2_with (first | simp only [f64from] | fail)
  go_ret
  exact ⟨⟨_,rfl,by decide,by decide⟩,rfl⟩
end Go.Proofs.YtifapjammoahgaaGreatDoor.Rl
