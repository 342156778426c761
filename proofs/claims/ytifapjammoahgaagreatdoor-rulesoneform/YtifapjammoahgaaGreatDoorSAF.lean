/- THE NUMBER THEORY OF THE TABLE OF POWERS OF TEN: its rows are the powers, rounded up; and no number of 58 bits times a row comes near to a multiple of 2^127 but where it is one. For each row a witness: two neighbouring fractions, on both sides of it, whose denominators together pass 2^58. Own work of the verifier. -/
import Derived.Test.YtifapjammoahgaaGreatDoorSAA
import Derived.Test.YtifapjammoahgaaGreatDoorSAC
import Derived.Test.YtifapjammoahgaaGreatDoorSAD
set_option maxRecDepth 100000
set_option maxHeartbeats 1000000
namespace Go.Proofs.YtifapjammoahgaaGreatDoor.Rl
def pmOf (i:Nat):Nat:=tabHi i*18446744073709551616 - tabLo i
def pw (a b:Nat):Nat:=a ^ b
theorem pw_pos {a:Nat} (b:Nat) (h:0 < a):0 < pw a b:=Nat.pow_pos h
theorem pw_add (a b c:Nat):pw a (b+c)=pw a b*pw a c:=Nat.pow_add a b c
def unitS:Nat:=pw 10 400*pw 2 1200
theorem unitS_pos:0 < unitS:=Nat.mul_pos (pw_pos _ (by decide)) (pw_pos _ (by decide))
def eOf (i:Nat):Nat:=pw 10 (i+52)*pw 2 (1327 - l2 ((i:Int) - 348)).toNat
def nbr (A:Nat):Nat→Nat→Nat→Nat→Nat→Nat × Nat × Nat × Nat
  | 0,a,b,c,d=>(a,b,c,d)
  | n+1,a,b,c,d =>
    if 288230376151711744≤b+d then (a,b,c,d) else
    have k:=if d=0 then (A*b - a*2 ^ 127) / (c*2 ^ 127 - A*d) else min ((A*b - a*2 ^ 127) / (c*2 ^ 127 - A*d)) ((288230376151711744 - b - d+d - 1) / d)
    if 288230376151711744≤b+k*d+d then (a+k*c,b+k*d,c,d) else
    have x:=A*(b+k*d) - (a+k*c)*2 ^ 127
    have j:=if x=0 then (288230376151711744 - (b+k*d) - d+(b+k*d) - 1) / (b+k*d) else min ((c*2 ^ 127 - A*d - 1) / x) ((288230376151711744 - (b+k*d) - d+(b+k*d) - 1) / (b+k*d))
    nbr A n (a+k*c) (b+k*d) (c+j*(a+k*c)) (d+j*(b+k*d))
def okC (i:Nat) (r:Nat × Nat × Nat × Nat):Bool :=
  decide (r.2.1*r.2.2.1=r.1*r.2.2.2+1) && decide (288230376151711744≤r.2.1+r.2.2.2) && decide (r.1*2 ^ 127≤pmOf i*r.2.1) && decide (pmOf i*r.2.2.2+1152921504606846976 < r.2.2.1*2 ^ 127) &&
  (decide (r.1*2 ^ 127+1152921504606846976 < pmOf i*r.2.1) || decide (r.2.1*eOf i=r.1*2 ^ 127*unitS)) && decide (eOf i≤pmOf i*unitS) && decide (pmOf i*unitS < eOf i+unitS)
theorem certs_ok:(List.range 696).all (fun i=>okC i (nbr (pmOf i) 40 0 1 1 0))=true:=by decide +kernel
theorem cert_at (i:Nat) (hi:i < 696):∃ a b c d,b*c=a*d+1∧288230376151711744≤b+d∧a*2 ^ 127≤pmOf i*b∧pmOf i*d+1152921504606846976 < c*2 ^ 127 ∧
    (a*2 ^ 127+1152921504606846976 < pmOf i*b∨b*eOf i=a*2 ^ 127*unitS)∧eOf i≤pmOf i*unitS∧pmOf i*unitS < eOf i+unitS:=by
  have:=List.all_eq_true.1 certs_ok i (List.mem_range.2 hi)
  simp only [okC,Bool.and_eq_true,Bool.or_eq_true,decide_eq_true_eq] at this
  obtain ⟨⟨⟨⟨⟨⟨h1,h2⟩,h3⟩,h4⟩,h5⟩,h6⟩,h7⟩:=this
  exact ⟨_,_,_,_,h1,h2,h3,h4,h5,h6,h7⟩
theorem farey (A B a b c d X Y:Nat) (h1:b*c=a*d+1) (hX0:1≤X) (hX:X < b+d) (hlo:a*B≤A*b) (hhi:A*d < c*B) :
    (∃ i,X=i*b∧Y=i*a)∨(Y*B+(A*b - a*B)+(c*B - A*d)≤X*A)∨(X*A+(c*B - A*d)≤Y*B):=by
  have z1:(b:Int)*c=a*d+1:=by exact_mod_cast h1
  have zlo:(a:Int)*B≤A*b:=by exact_mod_cast hlo
  have zhi:(A:Int)*d < c*B:=by exact_mod_cast hhi
  obtain ⟨i,hi⟩:∃ i:Int,i=X*c - Y*d:=⟨_,rfl⟩
  obtain ⟨j,hj⟩:∃ j:Int,j=Y*b - X*a:=⟨_,rfl⟩
  have e1:(X:Int)=i*b+j*d:=by subst hi hj;grind
  have e2:(Y:Int)=i*a+j*c:=by subst hi hj;grind
  have e3:(X:Int)*A - Y*B=i*(A*b - a*B) - j*(c*B - A*d):=by subst hi hj;grind
  have zX0:(1:Int)≤X:=by omega
  have zX:(X:Int) < b+d:=by omega
  clear hi hj
  rcases Int.lt_trichotomy j 0 with hneg | h0 | hpos
  · have hi1:1≤i:=by
      rcases Int.lt_or_le 0 i with h | h
      · omega
      · have p1:i*(b:Int)≤0:=Int.mul_nonpos_of_nonpos_of_nonneg h (by omega)
        have p2:j*(d:Int)≤0:=Int.mul_nonpos_of_nonpos_of_nonneg (by omega) (by omega)
        omega
    have q1:1*((A:Int)*b - a*B)≤i*(A*b - a*B):=Int.mul_le_mul_of_nonneg_right hi1 (by omega)
    have q2:j*((c:Int)*B - A*d)≤(-1)*(c*B - A*d):=Int.mul_le_mul_of_nonneg_right (by omega) (by omega)
    refine Or.inr (Or.inl ?_)
    have:(Y*B+(A*b - a*B)+(c*B - A*d):Nat)≤((X*A:Nat):Int):=by
      push_cast [Int.ofNat_sub hlo,Int.ofNat_sub (Nat.le_of_lt hhi)]
      omega
    exact_mod_cast this
  · subst h0
    have hi0:0≤i:=by
      rcases Int.lt_or_le i 0 with h | h
      · have p1:i*(b:Int)≤0:=Int.mul_nonpos_of_nonpos_of_nonneg (by omega) (by omega)
        omega
      · exact h
    obtain ⟨n,rfl⟩:=Int.eq_ofNat_of_zero_le hi0
    refine Or.inl ⟨n,?_,?_⟩
    · have:(X:Int)=((n*b:Nat):Int):=by push_cast;omega
      exact_mod_cast this
    · have:(Y:Int)=((n*a:Nat):Int):=by push_cast;omega
      exact_mod_cast this
  · have hi1:i≤0:=by
      rcases Int.lt_or_le 0 i with h | h
      · have p1:1*(b:Int)≤i*b:=Int.mul_le_mul_of_nonneg_right (by omega) (by omega)
        have p2:1*(d:Int)≤j*d:=Int.mul_le_mul_of_nonneg_right (by omega) (by omega)
        omega
      · exact h
    have q1:i*((A:Int)*b - a*B)≤0:=Int.mul_nonpos_of_nonpos_of_nonneg hi1 (by omega)
    have q2:1*((c:Int)*B - A*d)≤j*(c*B - A*d):=Int.mul_le_mul_of_nonneg_right (by omega) (by omega)
    refine Or.inr (Or.inr ?_)
    have:(X*A+(c*B - A*d):Nat)≤((Y*B:Nat):Int):=by
      push_cast [Int.ofNat_sub (Nat.le_of_lt hhi)]
      omega
    exact_mod_cast this
theorem near_tri (i X y s:Nat) (hi:i < 696) (hX0:1≤X) (hX:X < 288230376151711744) (hs:5≤s) :
    (64*X*eOf i=y*2 ^ (128+s)*unitS∧y*2 ^ (128+s)≤64*X*pmOf i∧64*X*pmOf i < y*2 ^ (128+s)+18446744073709551616) ∨
      y*2 ^ (128+s)+73786976294838206464 < 64*X*pmOf i∨64*X*pmOf i+73786976294838206464 < y*2 ^ (128+s):=by
  obtain ⟨a,b,c,d,h1,h2,h3,h4,h5,h6,h7⟩:=cert_at i hi
  have eQ:y*2 ^ (128+s)=64*(y*2 ^ (s - 5)*2 ^ 127):=by
    rw [show 128+s=(s - 5)+127+6 from by omega,Nat.pow_add,Nat.pow_add]
    generalize 2 ^ (s - 5)=k
    generalize 2 ^ 127=B
    rw [show (2:Nat) ^ 6=64 from by decide]
    grind
  rw [eQ]
  generalize hY:y*2 ^ (s - 5)=Y
  clear eQ hY
  have hS:=unitS_pos
  generalize unitS=S at *
  generalize eOf i=E at *
  generalize pmOf i=A at *
  have hB:0 < 2 ^ 127:=Nat.pow_pos (by decide)
  generalize 2 ^ 127=B at *
  have hf:=farey A B a b c d X Y h1 hX0 (by omega) h3 (by omega)
  have m1:64*X*A=64*(X*A):=by rw [Nat.mul_assoc]
  have m2:64*X*E=64*(X*E):=by rw [Nat.mul_assoc]
  rw [m1,m2]
  rcases hf with ⟨k,rfl,rfl⟩ | hf | hf
  · have hk:1≤k:=by
      rcases Nat.eq_zero_or_pos k with h | h
      · subst h;omega
      · exact h
    rcases h5 with h5 | h5
    · refine Or.inr (Or.inl ?_)
      have:=Nat.mul_le_mul_left k (Nat.succ_le_of_lt h5)
      have e1:k*(A*b)=k*b*A:=by grind
      have e2:k*(a*B+1152921504606846976+1)=k*a*B+k*1152921504606846977:=by grind
      have e3:1*1152921504606846977≤k*1152921504606846977:=Nat.mul_le_mul_right _ hk
      rw [show (a*B+1152921504606846976).succ=a*B+1152921504606846976+1 from rfl,e2,e1] at this
      omega
    · refine Or.inl ?_
      have e0:k*b*E=k*a*B*S:=by
        have:k*(b*E)=k*(a*B*S):=by rw [h5]
        grind
      have e1:k*b*E≤k*b*(A*S):=Nat.mul_le_mul_left _ h6
      have e2:k*b*(A*S)+1≤k*b*(E+S):=Nat.mul_lt_mul_of_pos_left h7 (by omega)
      have e3:k*b*(A*S)=k*b*A*S:=by rw [Nat.mul_assoc (k*b) A S]
      have e4:k*b*(E+S)=k*b*E+k*b*S:=Nat.mul_add _ _ _
      refine ⟨by rw [e0];grind,?_,?_⟩
      · have:k*a*B*S≤k*b*A*S:=by omega
        have:=Nat.le_of_mul_le_mul_right this hS
        omega
      · have:k*b*A*S < (k*a*B+k*b)*S:=by rw [Nat.add_mul];omega
        have:=Nat.lt_of_mul_lt_mul_right this
        omega
  · refine Or.inr (Or.inl ?_)
    omega
  · refine Or.inr (Or.inr ?_)
    omega
theorem or_bit (y:Nat):y ||| 1=y / 2*2+1:=by
  apply Nat.eq_of_testBit_eq
  intro i
  rw [Nat.testBit_or]
  cases i with
  | zero=>simp [Nat.testBit_zero]
  | succ i =>
    rw [Nat.testBit_succ,Nat.testBit_succ,Nat.testBit_succ,show (y / 2*2+1) / 2=y / 2 from by omega,show 1 / 2=0 from rfl]
    simp
def Un (u T G:Nat):Prop:=∀ n,(2*n≤u ↔ 2*n*G≤T)∧(u≤2*n ↔ T≤2*n*G)
theorem un_between (y T G:Nat) (h0:y*G < T) (h1:T < (y+1)*G):Un (y ||| 1) T G:=by
  intro n
  rw [or_bit]
  have key:∀ k,k≤y→k*G < T:=fun k hk=>Nat.lt_of_le_of_lt (Nat.mul_le_mul_right _ hk) h0
  have key2:∀ k,y+1≤k→T < k*G:=fun k hk=>Nat.lt_of_lt_of_le h1 (Nat.mul_le_mul_right _ hk)
  constructor
  · constructor
    · intro h
      exact Nat.le_of_lt (key _ (by omega))
    · intro h
      rcases Nat.lt_or_ge y (2*n) with h' | h'
      · have:=key2 _ h'
        omega
      · omega
  · constructor
    · intro h
      exact Nat.le_of_lt (key2 _ (by omega))
    · intro h
      rcases Nat.lt_or_ge y (2*n) with h' | h'
      · omega
      · have:=key _ h'
        omega
theorem un_exact (y T G:Nat) (hG:0 < G) (h:T=y*G):Un y T G:=by
  intro n
  subst h
  exact ⟨⟨fun h=>Nat.mul_le_mul_right _ h,fun h=>Nat.le_of_mul_le_mul_right h hG⟩,⟨fun h=>Nat.mul_le_mul_right _ h,fun h=>Nat.le_of_mul_le_mul_right h hG⟩⟩
theorem usc_un (i X s:Nat) (hi:i < 696) (hX0:1≤X) (hX:X < 288230376151711744) (hs0:5≤s) :
    Un (usc (64*X) (tabHi i) (tabLo i) s) (64*X*eOf i) (2 ^ (128+s)*unitS):=by
  obtain ⟨f1,f2⟩:=tab_fit i hi
  have f3:=tab_top i hi
  obtain ⟨_,_,_,_,_,_,_,_,_,g1,g2⟩:=cert_at i hi
  have tri:=fun y=>near_tri i X y s hi hX0 hX hs0
  have hpm:pmOf i=tabHi i*18446744073709551616 - tabLo i:=rfl
  have hS:=unitS_pos
  have hxx:64*X < 18446744073709551616:=by omega
  have hx1:1≤64*X:=by omega
  unfold usc
  generalize tabHi i=hi' at *
  generalize tabLo i=lo at *
  generalize unitS=S at *
  generalize eOf i=E at *
  generalize pmOf i=A at *
  generalize 64*X=x at *
  have hxh:x*hi'=x*hi' / 18446744073709551616*18446744073709551616+x*hi' % 18446744073709551616:=by omega
  have hxl:x*lo=x*lo / 18446744073709551616*18446744073709551616+x*lo % 18446744073709551616:=by omega
  have hM:x*hi' % 18446744073709551616 < 18446744073709551616:=Nat.mod_lt _ (by decide)
  have hr:x*lo % 18446744073709551616 < 18446744073709551616:=Nat.mod_lt _ (by decide)
  have hlm:x*lo≤18446744073709551615*18446744073709551615:=Nat.mul_le_mul (by omega) (by omega)
  have hH:x*hi' / 18446744073709551616 < 18446744073709551616:=Nat.div_lt_of_lt_mul (Nat.mul_lt_mul'' hxx f1)
  have hxA:x*A=x*hi'*18446744073709551616 - x*lo:=by rw [hpm,Nat.mul_sub,← Nat.mul_assoc]
  have hge:x*lo≤x*hi'*18446744073709551616:=by
    have:lo≤hi'*18446744073709551616:=by omega
    have:=Nat.mul_le_mul_left x this
    rwa [← Nat.mul_assoc] at this
  -- from the row to the power itself
  have up:∀ z,x*A < z→x*E < z*S:=fun z hz=>by
    have e1:x*E≤x*(A*S):=Nat.mul_le_mul_left _ g1
    have e2:x*A*S < z*S:=Nat.mul_lt_mul_of_pos_right hz hS
    rw [← Nat.mul_assoc] at e1
    omega
  have dn:∀ z,z+x < x*A→z*S < x*E:=fun z hz=>by
    have e2:x*(A*S)+1≤x*(E+S):=Nat.mul_lt_mul_of_pos_left g2 hx1
    have e3:(z+x)*S < x*A*S:=Nat.mul_lt_mul_of_pos_right hz hS
    rw [Nat.mul_add,← Nat.mul_assoc] at e2
    rw [Nat.add_mul] at e3
    omega
  clear hpm g1 g2
  generalize x*lo / 18446744073709551616=C at *
  generalize x*lo % 18446744073709551616=r at *
  generalize x*hi' / 18446744073709551616=H at *
  generalize x*hi' % 18446744073709551616=M at *
  generalize x*hi'=xh at *
  generalize x*lo=xl at *
  have hP:2 ^ (128+s)=2 ^ s*340282366920938463463374607431768211456:=by rw [Nat.pow_add,Nat.mul_comm]
  have hp5:32≤2 ^ s:=by have:2 ^ 5≤2 ^ s:=Nat.pow_le_pow_right (by decide) hs0;omega
  simp only [hP] at tri
  rw [hP]
  have hdm:H / 2 ^ s*2 ^ s≤H:=Nat.div_mul_le_self _ _
  have hdu:H < H / 2 ^ s*2 ^ s+2 ^ s:=by have:=Nat.lt_div_mul_add (a:=H) (b:=2 ^ s) (by omega);omega
  generalize hP':2 ^ s=P at *
  -- strictly between two multiples
  have btw:∀ y,y*(P*340282366920938463463374607431768211456)+18446744073709551616 < x*A+0→x*A < (y+1)*(P*340282366920938463463374607431768211456)→Un (y ||| 1) (x*E) (P*340282366920938463463374607431768211456*S):=by
    intro y a1 a2
    refine un_between _ _ _ ?_ ?_
    · rw [← Nat.mul_assoc];exact dn _ (by omega)
    · rw [← Nat.mul_assoc];exact up _ a2
  by_cases hE:H / P*P=H
  · rw [if_pos hE]
    obtain ⟨y,hy⟩:∃ y,y=H / P:=⟨_,rfl⟩
    have hyH:y*P=H:=by rw [hy];exact hE
    have q1:y*(P*340282366920938463463374607431768211456)=H*340282366920938463463374607431768211456:=by rw [← Nat.mul_assoc,hyH]
    have q2:(y+1)*(P*340282366920938463463374607431768211456)=H*340282366920938463463374607431768211456+P*340282366920938463463374607431768211456:=by rw [Nat.add_mul,q1,Nat.one_mul]
    by_cases hMC:M < C
    · have hH1:1≤H:=by omega
      have hy1:1≤y:=by
        rcases Nat.eq_zero_or_pos y with h | h
        · subst h;omega
        · exact h
      rw [show b2n (decide (M < C))=1 from by rw [decide_eq_true hMC];rfl,show b2n (decide (1 < (M+18446744073709551616 - C) % 18446744073709551616))=1 from by rw [decide_eq_true (by omega)];rfl,
        show (H+18446744073709551616 - 1) % 18446744073709551616=H - 1 from by omega]
      have q0:(y - 1)*(P*340282366920938463463374607431768211456)+P*340282366920938463463374607431768211456=H*340282366920938463463374607431768211456:=by
        rw [← q1]
        obtain ⟨z,rfl⟩:∃ z,y=z+1:=⟨y - 1,by omega⟩
        rw [Nat.add_sub_cancel,Nat.add_mul,Nat.one_mul]
      have hd:(H - 1) / P=y - 1:=by
        obtain ⟨z,rfl⟩:∃ z,y=z+1:=⟨y - 1,by omega⟩
        rw [Nat.add_mul,Nat.one_mul] at hyH
        rw [Nat.div_eq_iff (by omega),Nat.add_sub_cancel]
        omega
      rw [hd]
      refine btw _ (by omega) ?_
      rw [show y - 1+1=y from by omega,q1]
      omega
    · rw [show b2n (decide (M < C))=0 from by rw [decide_eq_false hMC];rfl,show (M+18446744073709551616 - C) % 18446744073709551616=M - C from by omega,show (H+18446744073709551616 - 0) % 18446744073709551616=H from by omega,← hy]
      rcases tri y with ⟨t1,t2,t3⟩ | t | t
      · rw [show b2n (decide (1 < M - C))=0 from by rw [decide_eq_false (by omega)];rfl,Nat.or_zero]
        exact un_exact _ _ _ (Nat.mul_pos (Nat.mul_pos (by omega) (by decide)) hS) (by rw [t1,Nat.mul_assoc])
      · rw [show b2n (decide (1 < M - C))=1 from by rw [decide_eq_true (by omega)];rfl]
        refine btw _ (by omega) ?_
        rw [q2]
        omega
      · omega
  · rw [if_neg hE]
    obtain ⟨y,hy⟩:∃ y,y=H / P:=⟨_,rfl⟩
    rw [← hy] at hdm hdu hE ⊢
    obtain ⟨h,hh⟩:∃ h,H=y*P+h:=⟨H - y*P,by omega⟩
    have q1:y*(P*340282366920938463463374607431768211456)=y*P*340282366920938463463374607431768211456:=by rw [← Nat.mul_assoc]
    have q2:(y+1)*(P*340282366920938463463374607431768211456)=y*P*340282366920938463463374607431768211456+P*340282366920938463463374607431768211456:=by rw [Nat.add_mul,q1,Nat.one_mul]
    generalize y*P=yP at *
    exact btw _ (by omega) (by rw [q2];omega)
theorem small_rows:(List.range 28).all (fun k=>decide (tabLo (348+k)=0) && decide (tabHi (348+k) % 2=0) && decide (eOf (348+k)=tabHi (348+k)*18446744073709551616*unitS))=true:=by decide +kernel
theorem usc_un0 (i x s:Nat) (hi0:348≤i) (hi1:i < 376) (_hx0:1≤x) (hx:x < 18446744073709551616) (hs0:5≤s) :
    Un (usc x (tabHi i) (tabLo i) s) (x*eOf i) (2 ^ (128+s)*unitS):=by
  have hr:=List.all_eq_true.1 small_rows (i - 348) (List.mem_range.2 (by omega))
  rw [show 348+(i - 348)=i from by omega] at hr
  simp only [Bool.and_eq_true,decide_eq_true_eq] at hr
  obtain ⟨⟨r1,r2⟩,r3⟩:=hr
  have f1:=(tab_fit i (by omega)).1
  have hS:=unitS_pos
  rw [r1,r3]
  unfold usc
  rw [Nat.mul_zero,Nat.zero_div]
  generalize tabHi i=hi at *
  generalize unitS=S at *
  have hE:x*(hi*18446744073709551616*S)=x*hi*18446744073709551616*S:=by grind
  rw [hE]
  have hxh:x*hi=x*hi / 18446744073709551616*18446744073709551616+x*hi % 18446744073709551616:=by omega
  have hM:x*hi % 18446744073709551616 < 18446744073709551616:=Nat.mod_lt _ (by decide)
  have hM2:x*hi % 18446744073709551616 % 2=0:=by
    have:x*hi % 2=0:=by rw [Nat.mul_mod,r2,Nat.mul_zero]
    omega
  have hH:x*hi / 18446744073709551616 < 18446744073709551616:=Nat.div_lt_of_lt_mul (Nat.mul_lt_mul'' hx f1)
  generalize x*hi / 18446744073709551616=H at *
  generalize x*hi % 18446744073709551616=M at *
  generalize x*hi=xh at *
  have hP:2 ^ (128+s)=2 ^ s*340282366920938463463374607431768211456:=by rw [Nat.pow_add,Nat.mul_comm]
  have hp5:32≤2 ^ s:=by have:2 ^ 5≤2 ^ s:=Nat.pow_le_pow_right (by decide) hs0;omega
  rw [hP]
  have hdm:H / 2 ^ s*2 ^ s≤H:=Nat.div_mul_le_self _ _
  have hdu:H < H / 2 ^ s*2 ^ s+2 ^ s:=by have:=Nat.lt_div_mul_add (a:=H) (b:=2 ^ s) (by omega);omega
  generalize hP':2 ^ s=P at *
  have btw:∀ y,y*(P*340282366920938463463374607431768211456) < xh*18446744073709551616→xh*18446744073709551616 < (y+1)*(P*340282366920938463463374607431768211456)→Un (y ||| 1) (xh*18446744073709551616*S) (P*340282366920938463463374607431768211456*S):=by
    intro y a1 a2
    refine un_between _ _ _ ?_ ?_
    · rw [← Nat.mul_assoc];exact Nat.mul_lt_mul_of_pos_right a1 hS
    · rw [← Nat.mul_assoc];exact Nat.mul_lt_mul_of_pos_right a2 hS
  obtain ⟨y,hy⟩:∃ y,y=H / P:=⟨_,rfl⟩
  rw [← hy] at hdm hdu ⊢
  have q1:y*(P*340282366920938463463374607431768211456)=y*P*340282366920938463463374607431768211456:=by rw [← Nat.mul_assoc]
  have q2:(y+1)*(P*340282366920938463463374607431768211456)=y*P*340282366920938463463374607431768211456+P*340282366920938463463374607431768211456:=by rw [Nat.add_mul,q1,Nat.one_mul]
  by_cases hE':y*P=H
  · rw [if_pos hE',show b2n (decide (M < 0))=0 from by rw [decide_eq_false (by omega)];rfl,show (H+18446744073709551616 - 0) % 18446744073709551616=H from by omega,show (M+18446744073709551616 - 0) % 18446744073709551616=M from by omega,← hy]
    rcases Nat.eq_zero_or_pos M with h0 | h0
    · rw [show b2n (decide (1 < M))=0 from by rw [decide_eq_false (by omega)];rfl,Nat.or_zero]
      have hxy:xh*18446744073709551616=y*(P*340282366920938463463374607431768211456):=by
        rw [q1]
        generalize y*P=yP at *
        omega
      exact un_exact _ _ _ (Nat.mul_pos (Nat.mul_pos (by omega) (by decide)) hS) (by rw [hxy,Nat.mul_assoc])
    · rw [show b2n (decide (1 < M))=1 from by rw [decide_eq_true (by omega)];rfl]
      generalize y*P=yP at *
      exact btw _ (by rw [q1];omega) (by rw [q2];omega)
  · rw [if_neg hE']
    generalize y*P=yP at *
    exact btw _ (by rw [q1];omega) (by rw [q2];omega)
def V (x:Nat) (e p:Int):Nat:=x*pw 2 (e+1200).toNat*pw 10 (p+400).toNat
theorem V_up (x:Nat) (e p:Int) (k j:Nat) (he:-1200≤e) (hp:-400≤p):V x (e+k) (p+j)=V x e p*(pw 2 k*pw 10 j):=by
  unfold V
  rw [show (e+(k:Int)+1200).toNat=(e+1200).toNat+k from by omega,show (p+(j:Int)+400).toNat=(p+400).toNat+j from by omega,pw_add,pw_add]
  generalize pw 2 (e+1200).toNat=a
  generalize pw 10 (p+400).toNat=b
  grind
theorem V_le_up (x y:Nat) (e p e' p':Int) (k j:Nat) (he:-1200≤e) (hp:-400≤p) (he':-1200≤e') (hp':-400≤p'):V x (e+k) (p+j)≤V y (e'+k) (p'+j) ↔ V x e p≤V y e' p':=by
  rw [V_up x e p k j he hp,V_up y e' p' k j he' hp']
  exact Nat.mul_le_mul_right_iff (Nat.mul_pos (pw_pos _ (by decide)) (pw_pos _ (by decide)))
theorem V_le_mv (x y:Nat) (e p e' p':Int) (k j:Int) (he:-1200≤e) (hp:-400≤p) (he':-1200≤e') (hp':-400≤p') (h1:-1200≤e+k) (h2:-400≤p+j) (h3:-1200≤e'+k) (h4:-400≤p'+j) :
    V x (e+k) (p+j)≤V y (e'+k) (p'+j) ↔ V x e p≤V y e' p':=by
  obtain ⟨a,b,hk⟩:∃ a b:Nat,k=(a:Int) - b∧(a=0∨b=0):=⟨k.toNat,(-k).toNat,by omega,by omega⟩
  obtain ⟨c,d,hj⟩:∃ c d:Nat,j=(c:Int) - d∧(c=0∨d=0):=⟨j.toNat,(-j).toNat,by omega,by omega⟩
  have l:=V_le_up x y (e+k) (p+j) (e'+k) (p'+j) b d h1 h2 h3 h4
  have r:=V_le_up x y e p e' p' a c he hp he' hp'
  rw [show e+k+(b:Int)=e+a from by omega,show p+j+(d:Int)=p+c from by omega,show e'+k+(b:Int)=e'+a from by omega,show p'+j+(d:Int)=p'+c from by omega] at l
  exact l.symm.trans r
theorem V_two (x k:Nat) (e p:Int) (he:-1200≤e):V (x*2 ^ k) e p=V x (e+k) p:=by
  unfold V
  rw [show (e+(k:Int)+1200).toNat=(e+1200).toNat+k from by omega,pw_add]
  generalize pw 2 (e+1200).toNat=a
  generalize pw 10 (p+400).toNat=b
  show x*2 ^ k*a*b=x*(a*2 ^ k)*b
  grind
theorem V_ten (x:Nat) (e p:Int) (hp:-400≤p):V (x*10) e p=V x e (p+1):=by
  unfold V
  rw [show (p+1+400).toNat=(p+400).toNat+1 from by omega,pw_add]
  generalize pw 2 (e+1200).toNat=a
  generalize pw 10 (p+400).toNat=b
  show x*10*a*b=x*a*(b*10 ^ 1)
  grind
theorem V_mono {x y:Nat} (e p:Int):V x e p≤V y e p ↔ x≤y:=by
  unfold V
  rw [Nat.mul_assoc,Nat.mul_assoc]
  exact Nat.mul_le_mul_right_iff (Nat.mul_pos (pw_pos _ (by decide)) (pw_pos _ (by decide)))
theorem scl_of (x:Nat) (e p:Int) (hun:∀ s:Nat,5≤s→Un (usc (x) (tabHi (p+348).toNat) (tabLo (p+348).toNat) s) (x*eOf (p+348).toNat) (2 ^ (128+s)*unitS)) (hs0:5≤-(e+l2 p+3)) (hs1:-(e+l2 p+3)≤63) (hp0:-348≤p) (hp1:p≤347) (he:-1200≤e) (n:Nat) :
    (2*n≤scl (x) e p ↔ V (2*n) (-2) 0≤V (x) e p)∧(scl (x) e p≤2*n ↔ V (x) e p≤V (2*n) (-2) 0):=by
  obtain ⟨i,hi⟩:∃ i:Nat,p=(i:Int) - 348:=⟨(p+348).toNat,by omega⟩
  obtain ⟨s,hs⟩:∃ s:Nat,-(e+l2 p+3)=(s:Int):=⟨(-(e+l2 p+3)).toNat,by omega⟩
  have hl0:-1200≤l2 p:=by unfold l2;omega
  have hl1:l2 p≤1200:=by unfold l2;omega
  have key:=hun s (by omega) n
  rw [show (p+348).toNat=i from by omega] at key
  have e1:scl (x) e p=usc (x) (tabHi i) (tabLo i) s:=by
    unfold scl
    rw [hs,show (p+348).toNat=i from by omega,show ((s:Int) % 64).toNat=s from by omega]
  rw [e1]
  obtain ⟨k,hk⟩:∃ k:Nat,k=s+130:=⟨_,rfl⟩
  have e2:V (x) e p*pw 2 k=x*eOf i:=by
    unfold V eOf
    rw [show (p+400).toNat=i+52 from by omega,show (1327 - l2 ((i:Int) - 348)).toNat=(e+1200).toNat+k from by rw [← hi];omega,pw_add 2]
    generalize pw 2 (e+1200).toNat=a
    generalize pw 10 (i+52)=b
    generalize pw 2 k=c
    clear hun key
    grind
  have e3:V (2*n) (-2) 0*pw 2 k=2*n*(2 ^ (128+s)*unitS):=by
    unfold V unitS
    rw [show ((-2:Int)+1200).toNat=1198 from by decide,show ((0:Int)+400).toNat=400 from by decide,hk]
    have:pw 2 1198*pw 2 (s+130)=2 ^ (128+s)*pw 2 1200:=by
      rw [← pw_add]
      show _=pw 2 (128+s)*pw 2 1200
      rw [← pw_add]
      congr 1
      omega
    generalize pw 10 400=b
    generalize 2 ^ (128+s)=q at *
    generalize pw 2 (s+130)=c at *
    generalize pw 2 1198=f at *
    generalize pw 2 1200=g at *
    clear hun key
    grind
  have hc:0 < pw 2 k:=pw_pos _ (by decide)
  rw [← e2,← e3,Nat.mul_le_mul_right_iff hc,Nat.mul_le_mul_right_iff hc] at key
  exact key
theorem scl_un (X:Nat) (e p:Int) (hX0:1≤X) (hX:X < 288230376151711744) (hs0:5≤-(e+l2 p+3)) (hs1:-(e+l2 p+3)≤63) (hp0:-348≤p) (hp1:p≤347) (he:-1200≤e) (n:Nat) :
    (2*n≤scl (64*X) e p ↔ V (2*n) (-2) 0≤V (64*X) e p)∧(scl (64*X) e p≤2*n ↔ V (64*X) e p≤V (2*n) (-2) 0) :=
  scl_of (64*X) e p (fun s hs=>usc_un _ X s (by omega) hX0 hX hs) hs0 hs1 hp0 hp1 he n
theorem scl_un0 (x:Nat) (e p:Int) (hx0:1≤x) (hx:x < 18446744073709551616) (hs0:5≤-(e+l2 p+3)) (hs1:-(e+l2 p+3)≤63) (hp0:0≤p) (hp1:p≤27) (he:-1200≤e) (n:Nat) :
    (2*n≤scl x e p ↔ V (2*n) (-2) 0≤V x e p)∧(scl x e p≤2*n ↔ V x e p≤V (2*n) (-2) 0) :=
  scl_of x e p (fun s hs=>usc_un0 _ x s (by omega) (by omega) hx0 hx hs) hs0 hs1 (by omega) (by omega) he n
theorem low_in (X u odd:Nat) (e p:Int) (hX0:1≤X) (hX:X < 288230376151711744) (hs0:5≤-(e+l2 p+3)) (hs1:-(e+l2 p+3)≤63) (hp0:-348≤p) (hp1:p≤347) (he:-1200≤e) (ho:odd≤1)
    (hu:scl (64*X) e p < 18446744073709551600) (h:dLow (scl (64*X) e p) odd≤u):V (64*X) e 0≤V u 0 (-p)∧(odd=1→¬ V u 0 (-p)≤V (64*X) e 0):=by
  rw [dLow_small _ _ hu ho] at h
  have k:=scl_un X e p hX0 hX hs0 hs1 hp0 hp1 he (2*u)
  have m1:=V_le_mv (64*X) u e p 0 0 0 (-p) he (by omega) (by decide) (by decide) (by omega) (by omega) (by decide) (by omega)
  have m2:=V_le_mv u (64*X) 0 0 e p 0 (-p) (by decide) (by decide) he (by omega) (by decide) (by omega) (by omega) (by omega)
  rw [show e+0=e from by omega,show p+-p=0 from by omega,show (0:Int)+0=0 from by decide,show (0:Int)+-p=-p from by omega] at m1 m2
  have q:V (2*(2*u)) (-2) 0=V u 0 0:=by
    have:=V_two u 2 (-2) 0 (by decide)
    rw [show u*2 ^ 2=2*(2*u) from by omega] at this
    exact this
  rw [q] at k
  refine ⟨m1.2 (k.2.1 (by omega)),fun h1 hh=>?_⟩
  have:=k.1.2 (m2.1 hh)
  omega
theorem high_in (X u odd:Nat) (e p:Int) (hX0:1≤X) (hX:X < 288230376151711744) (hs0:5≤-(e+l2 p+3)) (hs1:-(e+l2 p+3)≤63) (hp0:-348≤p) (hp1:p≤347) (he:-1200≤e) (ho:odd≤1)
    (hu:scl (64*X) e p < 18446744073709551600) (hu1:1≤scl (64*X) e p) (h:u≤dHigh (scl (64*X) e p) odd):V u 0 (-p)≤V (64*X) e 0∧(odd=1→¬ V (64*X) e 0≤V u 0 (-p)):=by
  rw [dHigh_small _ _ hu hu1 ho] at h
  have k:=scl_un X e p hX0 hX hs0 hs1 hp0 hp1 he (2*u)
  have m1:=V_le_mv (64*X) u e p 0 0 0 (-p) he (by omega) (by decide) (by decide) (by omega) (by omega) (by decide) (by omega)
  have m2:=V_le_mv u (64*X) 0 0 e p 0 (-p) (by decide) (by decide) he (by omega) (by decide) (by omega) (by omega) (by omega)
  rw [show e+0=e from by omega,show p+-p=0 from by omega,show (0:Int)+0=0 from by decide,show (0:Int)+-p=-p from by omega] at m1 m2
  have q:V (2*(2*u)) (-2) 0=V u 0 0:=by
    have:=V_two u 2 (-2) 0 (by decide)
    rw [show u*2 ^ 2=2*(2*u) from by omega] at this
    exact this
  rw [q] at k
  refine ⟨m2.2 (k.1.1 (by omega)),fun h1 hh=>?_⟩
  have:=k.2.2 (m1.1 hh)
  omega
theorem units_V (r:Nat × Int) (p:Int) (hp0:-400≤-p) (hr:r.2=-p∨r.2=-p+1):V (inUnits r p) 0 (-p)=V r.1 0 r.2:=by
  unfold inUnits
  rcases hr with h | h
  · rw [if_pos h,h]
  · rw [if_neg (by omega),h,V_ten _ _ _ hp0]
def Within (w M:Nat) (E:Int):Prop :=
  V (2*M - 1) (E - 1) 0≤w∧w≤V (2*M+1) (E - 1) 0∧(M % 2=1→¬ w≤V (2*M - 1) (E - 1) 0∧¬ V (2*M+1) (E - 1) 0≤w)∧(M=4503599627370496→-1074 < E→V (4*M - 1) (E - 2) 0≤w)
theorem pick_within (M z odd:Nat) (e p:Int) (hM0:1≤M) (hz:7≤z) (hodd:odd=M % 2) (hx0:4611686018427387904≤M*2 ^ z - 2 ^ (z - 1)) (hx:M*2 ^ z+2 ^ (z - 1) < 18446744073709551616) (hE:okE e p=true)
    (hs0:5≤-(e+l2 p+3)) (hs1:-(e+l2 p+3)≤63) (he:-1200≤e) (hM:M=4503599627370496→e+(z:Int)≤-1074)
    (h:dLow (scl (M*2 ^ z - 2 ^ (z - 1)) e p) odd≤inUnits (pick (M*2 ^ z) (M*2 ^ z - 2 ^ (z - 1)) (M*2 ^ z+2 ^ (z - 1)) odd e p) p∧inUnits (pick (M*2 ^ z) (M*2 ^ z - 2 ^ (z - 1)) (M*2 ^ z+2 ^ (z - 1)) odd e p) p≤dHigh (scl (M*2 ^ z+2 ^ (z - 1)) e p) odd) :
    Within (V (pick (M*2 ^ z) (M*2 ^ z - 2 ^ (z - 1)) (M*2 ^ z+2 ^ (z - 1)) odd e p).1 0 (pick (M*2 ^ z) (M*2 ^ z - 2 ^ (z - 1)) (M*2 ^ z+2 ^ (z - 1)) odd e p).2) M (e+z):=by
  have hE':=hE
  unfold okE at hE'
  simp only [Bool.and_eq_true,decide_eq_true_eq] at hE'
  obtain ⟨⟨⟨_,_⟩,hp0⟩,hp1⟩:=hE'
  have hg:0 < 2 ^ (z - 1):=Nat.pow_pos (by decide)
  have u1:=scl_between _ e p hx0 (by omega) hE
  have u3:=scl_between (M*2 ^ z+2 ^ (z - 1)) e p (by omega) hx hE
  rw [← units_V _ p (by omega) (pick_two _ _ _ _ e p)]
  generalize inUnits (pick (M*2 ^ z) (M*2 ^ z - 2 ^ (z - 1)) (M*2 ^ z+2 ^ (z - 1)) odd e p) p=u at *
  have hz1:2 ^ z=64*(2*2 ^ (z - 7)):=by
    rw [show 64*(2*2 ^ (z - 7))=2 ^ (z - 7)*2 ^ 7 from by omega,← Nat.pow_add]
    congr 1
    omega
  have hz2:2 ^ (z - 1)=64*2 ^ (z - 7):=by
    rw [show 64*2 ^ (z - 7)=2 ^ (z - 7)*2 ^ 6 from by omega,← Nat.pow_add]
    congr 1
    omega
  have hT:0 < 2 ^ (z - 7):=Nat.pow_pos (by decide)
  have f1:M*2 ^ z - 2 ^ (z - 1)=(2*M - 1)*2 ^ (z - 1):=by
    rw [hz1,hz2]
    generalize 2 ^ (z - 7)=T
    rw [Nat.sub_mul,Nat.one_mul]
    congr 1
    grind
  have f2:M*2 ^ z+2 ^ (z - 1)=(2*M+1)*2 ^ (z - 1):=by
    rw [hz1,hz2]
    generalize 2 ^ (z - 7)=T
    grind
  have g1:(2*M - 1)*2 ^ (z - 1)=64*((2*M - 1)*2 ^ (z - 7)):=by rw [hz2];grind
  have g2:(2*M+1)*2 ^ (z - 1)=64*((2*M+1)*2 ^ (z - 7)):=by rw [hz2];grind
  have p1:1*1≤(2*M - 1)*2 ^ (z - 7):=Nat.mul_le_mul (by omega) hT
  have p2:1*1≤(2*M+1)*2 ^ (z - 7):=Nat.mul_le_mul (by omega) hT
  rw [f1,g1] at h hx0 u1
  rw [f2,g2] at h hx u3
  have a:=low_in _ u odd e p (by omega) (by omega) hs0 hs1 hp0 hp1 he (by omega) (by omega) h.1
  have b:=high_in _ u odd e p (by omega) (by omega) hs0 hs1 hp0 hp1 he (by omega) (by omega) (by omega) h.2
  rw [← g1,V_two _ _ _ _ he,show e+((z - 1:Nat):Int)=e+(z:Int) - 1 from by omega] at a
  rw [← g2,V_two _ _ _ _ he,show e+((z - 1:Nat):Int)=e+(z:Int) - 1 from by omega] at b
  exact ⟨a.1,b.1,fun ho=>⟨a.2 (by omega),b.2 (by omega)⟩,fun hM' h'=>absurd (hM hM') (by omega)⟩
def twoB (i:Nat):Bool:=decide (V 1 (l2 ((i:Int) - 348)) 0≤V 1 0 ((i:Int) - 348)) && decide (V 2048 0 ((i:Int) - 348)≤V 2047 (l2 ((i:Int) - 348)+1) 0)
theorem twoB_ok:(List.range 696).all twoB=true:=by decide +kernel
theorem ten_two (p:Int) (h0:-348≤p) (h1:p≤347):V 1 (l2 p) 0≤V 1 0 p∧V 2048 0 p≤V 2047 (l2 p+1) 0:=by
  have:=List.all_eq_true.1 twoB_ok (p+348).toNat (List.mem_range.2 (by omega))
  unfold twoB at this
  rw [show (((p+348).toNat:Nat):Int) - 348=p from by omega,Bool.and_eq_true,decide_eq_true_eq,decide_eq_true_eq] at this
  exact this
theorem V_mul (x y:Nat) (e p:Int):V (x*y) e p=x*V y e p:=by
  unfold V
  rw [Nat.mul_assoc x y,Nat.mul_assoc x]
theorem V_lt_exp {e e' p:Int} (he:-1200≤e) (he':-1200≤e') {x y:Nat} {k j:Nat} (hx:2 ^ k≤x) (hy:y < 2 ^ j) (h:V x e p≤V y e' p):e+k < e'+j:=by
  rcases Int.lt_or_le (e+k) (e'+j) with h' | h'
  · exact h'
  · exfalso
    have a:V (2 ^ k) e p≤V x e p:=(V_mono _ _).2 hx
    have b:V y e' p < V (2 ^ j) e' p:=Nat.lt_of_not_le fun c=>absurd ((V_mono _ _).1 c) (by omega)
    rw [show 2 ^ k=1*2 ^ k from by omega,V_two 1 k e p he] at a
    rw [show 2 ^ j=1*2 ^ j from by omega,V_two 1 j e' p he'] at b
    have c:V 1 (e'+j) p≤V 1 (e+k) p:=by
      have:=V_two 1 (e+k - (e'+j)).toNat (e'+j) p (by omega)
      rw [show e'+(j:Int)+(((e+k - (e'+j)).toNat:Nat):Int)=e+k from by omega] at this
      rw [← this]
      exact (V_mono _ _).2 (by have:0 < 2 ^ (e+k - (e'+j)).toNat:=Nat.pow_pos (by decide);omega)
    omega
def Flt (M:Nat) (E:Int):Prop:=1≤M∧M < 9007199254740992∧-1074≤E∧E≤971∧(M < 4503599627370496→E=-1074)
def rUp (u:Nat):Nat:=(u+1+u / 4 % 2) / 4
def cut1 (u:Nat):Nat:=u / 2 ||| u % 2
theorem cut1_val (u:Nat):cut1 u=if u % 2=1 then u / 4*2+1 else u / 2:=by
  unfold cut1
  have h2:u % 2=0∨u % 2=1:=by omega
  rcases h2 with h | h
  · rw [h,if_neg (by decide),Nat.or_zero]
  · rw [h,if_pos rfl,or_bit];omega
def eP (b:Nat) (p:Int):Int:=min 1074 (53 - (b:Int) - l2 p)
theorem parse_scale (d b M:Nat) (p E:Int) (hd64:d < 18446744073709551616) (hb1:1≤b) (hb2:2 ^ (b - 1)≤d) (hb3:d < 2 ^ b) (hp0:-345≤p) (hp1:p≤310) (hF:Flt M E) (hW:Within (V d 0 p) M E) :
    (eP b p=-E∨eP b p=-E+1∧4503599627370496≤M∧-1074 < E)∧5≤-(eP b p - (64 - (b:Int))+l2 p+3)∧-(eP b p - (64 - (b:Int))+l2 p+3)≤63∧b≤64:=by
  obtain ⟨hM0,hM1,hE0,hE1,hsub⟩:=hF
  obtain ⟨w1,w2,_,w4⟩:=hW
  obtain ⟨t1,t2⟩:=ten_two p (by omega) (by omega)
  have hl0:-1150≤l2 p:=by unfold l2;omega
  have hl1:l2 p≤1040:=by unfold l2;omega
  have hb:b≤64:=by
    have:2 ^ (b - 1) < 2 ^ 64:=Nat.lt_of_le_of_lt hb2 (by rw [show (2:Nat) ^ 64=18446744073709551616 from by decide];exact hd64)
    have:=(Nat.pow_lt_pow_iff_right (by decide:1 < 2)).1 this
    omega
  obtain ⟨e0,he0⟩:∃ e0:Int,e0=53 - (b:Int) - l2 p:=⟨_,rfl⟩
  -- the size of d*10^p
  have lo:V 1 (52 - e0) 0≤V d 0 p:=by
    have a1:V (2 ^ (b - 1)*1) 0 p≤V d 0 p:=by rw [Nat.mul_one];exact (V_mono _ _).2 hb2
    have a2:V (2 ^ (b - 1)*1) (l2 p) 0≤V (2 ^ (b - 1)*1) 0 p:=by rw [V_mul,V_mul];exact Nat.mul_le_mul_left _ t1
    have a3:=V_two 1 (b - 1) (l2 p) 0 (by omega)
    rw [Nat.one_mul,show l2 p+((b - 1:Nat):Int)=52 - e0 from by omega] at a3
    rw [Nat.mul_one,a3] at a2
    rw [Nat.mul_one] at a1
    exact Nat.le_trans a2 a1
  have up:2048*V d 0 p≤V 2047 (54 - e0) 0:=by
    have a1:V (2048*d) 0 p≤V (2 ^ b*2048) 0 p:=(V_mono _ _).2 (by omega)
    have a2:V (2 ^ b*2048) 0 p≤V (2 ^ b*2047) (l2 p+1) 0:=by rw [V_mul,V_mul];exact Nat.mul_le_mul_left _ t2
    have a3:=V_two 2047 b (l2 p+1) 0 (by omega)
    rw [Nat.mul_comm,show l2 p+1+(b:Int)=54 - e0 from by omega] at a3
    rw [a3] at a2
    rw [V_mul] at a1
    exact Nat.le_trans a1 a2
  have up':V d 0 p≤V 2047 (43 - e0) 0:=by
    have:=V_two 2047 11 (43 - e0) 0 (by omega)
    rw [show 43 - e0+((11:Nat):Int)=54 - e0 from by omega,show 2047*2 ^ 11=2048*2047 from by decide,V_mul] at this
    rw [← this] at up
    exact Nat.le_of_mul_le_mul_left up (by decide)
  clear up t1 t2
  -- how the scales stand
  have k1:52 - e0 < E+53:=by
    have:=V_lt_exp (k:=0) (j:=54) (by omega) (by omega) (show 2 ^ 0≤1 from by decide) (show 2*M+1 < 2 ^ 54 from by rw [show (2:Nat) ^ 54=18014398509481984 from by decide];omega) (Nat.le_trans lo w2)
    omega
  have k2:e0 < 1129+0:=by
    have:V (2*M - 1) (E - 1) 0≤V 2047 (43 - e0) 0:=Nat.le_trans w1 up'
    have:=V_lt_exp (k:=0) (j:=11) (by omega) (by omega) (show 2 ^ 0≤2*M - 1 from by omega) (show 2047 < 2 ^ 11 from by decide) this
    omega
  have he:eP b p=min 1074 e0:=by unfold eP;rw [← he0]
  have hs:-(eP b p - (64 - (b:Int))+l2 p+3)=8+(e0 - eP b p):=by omega
  by_cases hM:M < 4503599627370496
  · have hE:=hsub hM
    subst hE
    have k3:52 - e0 < -1022:=by
      have:=V_lt_exp (k:=0) (j:=53) (by omega) (by omega) (show 2 ^ 0≤1 from by decide) (show 2*M+1 < 2 ^ 53 from by rw [show (2:Nat) ^ 53=9007199254740992 from by decide];omega) (Nat.le_trans lo w2)
      omega
    rw [hs]
    omega
  · by_cases hE:E=-1074
    · rw [hs]
      omega
    · have k4:e0≤-E+1:=by
        rcases Int.lt_or_le (-E+1) e0 with h | h
        · exfalso
          have a1:V 18014398509481983 (E - 2) 0≤V d 0 p:=by
            by_cases h2:M=4503599627370496
            · have:=w4 h2 (by omega)
              rw [h2] at this
              exact this
            · have:=V_two (2*M - 1) 1 (E - 2) 0 (by omega)
              rw [show E - 2+((1:Nat):Int)=E - 1 from by omega] at this
              rw [← this] at w1
              exact Nat.le_trans ((V_mono _ _).2 (by omega)) w1
          have a2:V 2047 (43 - e0) 0≤V 2047 (E+41) 0:=by
            have:=V_two 2047 (E+e0 - 2).toNat (43 - e0) 0 (by omega)
            rw [show 43 - e0+(((E+e0 - 2).toNat:Nat):Int)=E+41 from by omega] at this
            rw [← this]
            exact (V_mono _ _).2 (by have:0 < 2 ^ (E+e0 - 2).toNat:=Nat.pow_pos (by decide);omega)
          have a3:=V_two 2047 43 (E - 2) 0 (by omega)
          rw [show E - 2+((43:Nat):Int)=E+41 from by omega] at a3
          have a4:V 18014398509481983 (E - 2) 0≤V (2047*2 ^ 43) (E - 2) 0:=by rw [a3];exact Nat.le_trans a1 (Nat.le_trans up' a2)
          exact absurd ((V_mono _ _).1 a4) (by decide)
        · exact h
      rw [hs]
      omega
theorem parse_math (d b M:Nat) (p E:Int) (hd64:d < 18446744073709551616) (hdp:d < 144115188075855872∨0≤p∧p≤27) (hb1:1≤b) (hb2:2 ^ (b - 1)≤d) (hb3:d < 2 ^ b) (hp0:-345≤p) (hp1:p≤310) (hF:Flt M E) (hW:Within (V d 0 p) M E) :
    (scl (d*2 ^ (64 - b)) (eP b p - (64 - (b:Int))) p < 36028797018963966→rUp (scl (d*2 ^ (64 - b)) (eP b p - (64 - (b:Int))) p)=M∧eP b p=-E) ∧
    (36028797018963966≤scl (d*2 ^ (64 - b)) (eP b p - (64 - (b:Int))) p→rUp (cut1 (scl (d*2 ^ (64 - b)) (eP b p - (64 - (b:Int))) p))=M∧eP b p - 1=-E):=by
  obtain ⟨hsc,hs0,hs1,hb⟩:=parse_scale d b M p E hd64 hb1 hb2 hb3 hp0 hp1 hF hW
  have hF':=hF
  have hW':=hW
  obtain ⟨hM0,hM1,hE0,hE1,hsub⟩:=hF'
  obtain ⟨w1,w2,w3,w4⟩:=hW'
  have hl0:-1150≤l2 p:=by unfold l2;omega
  have hl1:l2 p≤1040:=by unfold l2;omega
  have h1:0 < 2 ^ (b - 1):=Nat.pow_pos (by decide)
  have sc:∀ n,(2*n≤scl (d*2 ^ (64 - b)) (eP b p - (64 - (b:Int))) p ↔ V (2*n) (-2) 0≤V (d*2 ^ (64 - b)) (eP b p - (64 - (b:Int))) p)∧(scl (d*2 ^ (64 - b)) (eP b p - (64 - (b:Int))) p≤2*n ↔ V (d*2 ^ (64 - b)) (eP b p - (64 - (b:Int))) p≤V (2*n) (-2) 0):=by
    intro n
    rcases hdp with hd17 | ⟨hq0,hq1⟩
    · have hb57:b≤57:=by
        have:2 ^ (b - 1) < 2 ^ 57:=Nat.lt_of_le_of_lt hb2 (by rw [show (2:Nat) ^ 57=144115188075855872 from by decide];exact hd17)
        have:=(Nat.pow_lt_pow_iff_right (by decide:1 < 2)).1 this
        omega
      have hx:d*2 ^ (64 - b)=64*(d*2 ^ (58 - b)):=by
        rw [show 64 - b=58 - b+6 from by omega,Nat.pow_add,show (2:Nat) ^ 6=64 from by decide]
        generalize 2 ^ (58 - b)=T
        clear hsc hW hF
        grind
      have hX0:1≤d*2 ^ (58 - b):=Nat.mul_pos (by omega) (Nat.pow_pos (by decide))
      have hX:d*2 ^ (58 - b) < 288230376151711744:=by
        have:=Nat.mul_lt_mul_of_pos_right hb3 (show 0 < 2 ^ (58 - b) from Nat.pow_pos (by decide))
        rw [← Nat.pow_add,show b+(58 - b)=58 from by omega] at this
        exact this
      rw [hx]
      exact scl_un _ (eP b p - (64 - (b:Int))) p hX0 hX hs0 hs1 (by omega) (by omega) (by unfold eP;omega) n
    · have hX0:1≤d*2 ^ (64 - b):=Nat.mul_pos (by omega) (Nat.pow_pos (by decide))
      have hX:d*2 ^ (64 - b) < 18446744073709551616:=by
        have:=Nat.mul_lt_mul_of_pos_right hb3 (show 0 < 2 ^ (64 - b) from Nat.pow_pos (by decide))
        rw [← Nat.pow_add,show b+(64 - b)=64 from by omega] at this
        exact this
      exact scl_un0 _ (eP b p - (64 - (b:Int))) p hX0 hX hs0 hs1 hq0 hq1 (by unfold eP;omega) n
  have key:∀ n,(2*n≤scl (d*2 ^ (64 - b)) (eP b p - (64 - (b:Int))) p ↔ V (2*n) (-2 - eP b p) 0≤V d 0 p)∧(scl (d*2 ^ (64 - b)) (eP b p - (64 - (b:Int))) p≤2*n ↔ V d 0 p≤V (2*n) (-2 - eP b p) 0):=by
    intro n
    have k:=sc n
    rw [V_two _ _ _ _ (by omega),show eP b p - (64 - (b:Int))+((64 - b:Nat):Int)=eP b p from by omega] at k
    have m1:=V_le_mv (2*n) d (-2) 0 (eP b p) p (-(eP b p)) 0 (by decide) (by decide) (by omega) (by omega) (by omega) (by decide) (by omega) (by omega)
    have m2:=V_le_mv d (2*n) (eP b p) p (-2) 0 (-(eP b p)) 0 (by omega) (by omega) (by decide) (by decide) (by omega) (by omega) (by omega) (by decide)
    rw [show (-2:Int)+-(eP b p)=-2 - eP b p from by omega,show eP b p+-(eP b p)=0 from by omega,show p+0=p from by omega,show (0:Int)+0=0 from by decide] at m1 m2
    rw [← m1,← m2] at k
    exact k
  generalize scl (d*2 ^ (64 - b)) (eP b p - (64 - (b:Int))) p=u at *
  have endV:∀ (x k:Nat),-1200≤E - 1 - (k:Int)→V (x*2 ^ k) (E - 1 - k) 0=V x (E - 1) 0:=fun x k hk=>by
    have:=V_two x k (E - 1 - (k:Int)) 0 hk
    rwa [show E - 1 - (k:Int)+(k:Int)=E - 1 from by omega] at this
  rcases hsc with hA | ⟨hB,hMB,hEB⟩
  · rw [hA,show (-2:Int) - -E=E - 1 - ((1:Nat):Int) from by omega] at key
    have a:=key (2*M - 1)
    have b':=key (2*M+1)
    rw [show 2*(2*M - 1)=(2*M - 1)*2 ^ 1 from by omega,endV _ 1 (by omega)] at a
    rw [show 2*(2*M+1)=(2*M+1)*2 ^ 1 from by omega,endV _ 1 (by omega)] at b'
    have a1:(2*M - 1)*2 ^ 1≤u:=a.1.2 w1
    have b1:u≤(2*M+1)*2 ^ 1:=b'.2.2 w2
    have o1:M % 2=1→¬ u≤(2*M - 1)*2 ^ 1:=fun h c=>(w3 h).1 (a.2.1 c)
    have o2:M % 2=1→¬ (2*M+1)*2 ^ 1≤u:=fun h c=>(w3 h).2 (b'.1.1 c)
    clear key sc a b' w1 w2 w3 w4 endV hb2 hb3
    unfold rUp
    refine ⟨fun _=>⟨?_,hA⟩,fun h=>?_⟩ <;> omega
  · rw [hB,show (-2:Int) - (-E+1)=E - 1 - ((2:Nat):Int) from by omega] at key
    have a:=key (4*M - 2)
    have b':=key (4*M+2)
    rw [show 2*(4*M - 2)=(2*M - 1)*2 ^ 2 from by omega,endV _ 2 (by omega)] at a
    rw [show 2*(4*M+2)=(2*M+1)*2 ^ 2 from by omega,endV _ 2 (by omega)] at b'
    have a1:(2*M - 1)*2 ^ 2≤u:=a.1.2 w1
    have b1:u≤(2*M+1)*2 ^ 2:=b'.2.2 w2
    have o1:M % 2=1→¬ u≤(2*M - 1)*2 ^ 2:=fun h c=>(w3 h).1 (a.2.1 c)
    have o2:M % 2=1→¬ (2*M+1)*2 ^ 2≤u:=fun h c=>(w3 h).2 (b'.1.1 c)
    have c1:M=4503599627370496→36028797018963966≤u:=fun h=>by
      have c:=key 18014398509481983
      have c2:=V_two 18014398509481983 1 (E - 1 - ((2:Nat):Int)) 0 (by omega)
      rw [show E - 1 - ((2:Nat):Int)+((1:Nat):Int)=E - 2 from by omega] at c2
      have c3:=w4 h hEB
      rw [h] at c3
      rw [show 2*18014398509481983=18014398509481983*2 ^ 1 from by decide,c2] at c
      exact c.1.2 c3
    clear key sc a b' w1 w2 w3 w4 endV hb2 hb3
    rw [cut1_val]
    unfold rUp
    refine ⟨fun h=>?_,fun h=>⟨?_,by omega⟩⟩
    · omega
    · split <;> omega
end Go.Proofs.YtifapjammoahgaaGreatDoor.Rl
