/- THE NUMBER THEORY OF THE TABLE OF POWERS OF TEN: its rows are the powers, rounded up; and no number of 58 bits times a row comes near to a multiple of 2^127 but where it is one. For each row a witness: two neighbouring fractions, on both sides of it, whose denominators together pass 2^58. Own work of the verifier. -/
import Derived.Test.YtibahfopmjiffaaGreatDoorSAG
import Derived.Test.YtibahfopmjiffaaGreatDoorSAI
import Derived.Test.YtibahfopmjiffaaGreatDoorSAM
import Derived.Test.YtibahfopmjiffaaGreatDoorSAJ
import Derived.Test.YtibahfopmjiffaaGreatDoorSAF
set_option maxRecDepth 100000
namespace Go.Proofs.YtibahfopmjiffaaGreatDoor.Rl
def pmOf (i:Nat):Nat:=tabHi i*18446744073709551616 - tabLo i
def pw (a b:Nat):Nat:=a ^ b
theorem pw_pos {a:Nat} (b:Nat) (h:0 < a):0 < pw a b:=Nat.pow_pos h
theorem pw_add (a b c:Nat):pw a (b+c)=pw a b*pw a c:=Nat.pow_add a b c
def unitS:Nat:=pw 10 400*pw 2 1200
theorem unitS_pos:0 < unitS:=Nat.mul_pos (pw_pos _ (by decide)) (pw_pos _ (by decide))
def eOf (i:Nat):Nat:=pw 10 (i+52)*pw 2 (1327 - l2 ((i:Int) - 348)).toNat
def nbr (A:Nat):Nat→Nat→Nat→Nat→Nat→Nat × Nat × Nat × Nat
  | 0,a,b,c,d=>(a,b,c,d)
  | n+1,a,b,c,d =>
    if 288230376151711744≤b+d then (a,b,c,d) else
    have k:=if d=0 then (A*b - a*2 ^ 127) / (c*2 ^ 127 - A*d) else min ((A*b - a*2 ^ 127) / (c*2 ^ 127 - A*d)) ((288230376151711744 - b - d+d - 1) / d)
    if 288230376151711744≤b+k*d+d then (a+k*c,b+k*d,c,d) else
    have x:=A*(b+k*d) - (a+k*c)*2 ^ 127
    have j:=if x=0 then (288230376151711744 - (b+k*d) - d+(b+k*d) - 1) / (b+k*d) else min ((c*2 ^ 127 - A*d - 1) / x) ((288230376151711744 - (b+k*d) - d+(b+k*d) - 1) / (b+k*d))
    nbr A n (a+k*c) (b+k*d) (c+j*(a+k*c)) (d+j*(b+k*d))
def okC (i:Nat) (r:Nat × Nat × Nat × Nat):Bool :=
  decide (r.2.1*r.2.2.1=r.1*r.2.2.2+1) && decide (288230376151711744≤r.2.1+r.2.2.2) && decide (r.1*2 ^ 127≤pmOf i*r.2.1) && decide (pmOf i*r.2.2.2+1152921504606846976 < r.2.2.1*2 ^ 127) &&
  (decide (r.1*2 ^ 127+1152921504606846976 < pmOf i*r.2.1) || decide (r.2.1*eOf i=r.1*2 ^ 127*unitS)) && decide (eOf i≤pmOf i*unitS) && decide (pmOf i*unitS < eOf i+unitS)
theorem certs_ok:(List.range 696).all (fun i=>okC i (nbr (pmOf i) 40 0 1 1 0))=true:=by decide +kernel
theorem cert_at (i:Nat) (hi:i < 696):∃ a b c d,b*c=a*d+1∧288230376151711744≤b+d∧a*2 ^ 127≤pmOf i*b∧pmOf i*d+1152921504606846976 < c*2 ^ 127 ∧
    (a*2 ^ 127+1152921504606846976 < pmOf i*b∨b*eOf i=a*2 ^ 127*unitS)∧eOf i≤pmOf i*unitS∧pmOf i*unitS < eOf i+unitS:=by
  have:=List.all_eq_true.1 certs_ok i (List.mem_range.2 hi)
  simp only [okC,Bool.and_eq_true,Bool.or_eq_true,decide_eq_true_eq] at this
  obtain ⟨⟨⟨⟨⟨⟨h1,h2⟩,h3⟩,h4⟩,h5⟩,h6⟩,h7⟩:=this
  exact ⟨_,_,_,_,h1,h2,h3,h4,h5,h6,h7⟩
theorem farey (A B a b c d X Y:Nat) (h1:b*c=a*d+1) (hX0:1≤X) (hX:X < b+d) (hlo:a*B≤A*b) (hhi:A*d < c*B) :
    (∃ i,X=i*b∧Y=i*a)∨(Y*B+(A*b - a*B)+(c*B - A*d)≤X*A)∨(X*A+(c*B - A*d)≤Y*B):=by
  have z1:(b:Int)*c=a*d+1:=by exact_mod_cast h1
  have zlo:(a:Int)*B≤A*b:=by exact_mod_cast hlo
  have zhi:(A:Int)*d < c*B:=by exact_mod_cast hhi
  obtain ⟨i,hi⟩:∃ i:Int,i=X*c - Y*d:=⟨_,rfl⟩
  obtain ⟨j,hj⟩:∃ j:Int,j=Y*b - X*a:=⟨_,rfl⟩
  have e1:(X:Int)=i*b+j*d:=by subst hi hj;grind
  have e2:(Y:Int)=i*a+j*c:=by subst hi hj;grind
  have e3:(X:Int)*A - Y*B=i*(A*b - a*B) - j*(c*B - A*d):=by subst hi hj;grind
  have zX0:(1:Int)≤X:=by omega
  have zX:(X:Int) < b+d:=by omega
  clear hi hj
  rcases Int.lt_trichotomy j 0 with hneg | h0 | hpos
  · have hi1:1≤i:=by
      rcases Int.lt_or_le 0 i with h | h
      · omega
      · have p1:i*(b:Int)≤0:=Int.mul_nonpos_of_nonpos_of_nonneg h (by omega)
        have p2:j*(d:Int)≤0:=Int.mul_nonpos_of_nonpos_of_nonneg (by omega) (by omega)
        omega
    have q1:1*((A:Int)*b - a*B)≤i*(A*b - a*B):=Int.mul_le_mul_of_nonneg_right hi1 (by omega)
    have q2:j*((c:Int)*B - A*d)≤(-1)*(c*B - A*d):=Int.mul_le_mul_of_nonneg_right (by omega) (by omega)
    refine Or.inr (Or.inl ?_)
    have:(Y*B+(A*b - a*B)+(c*B - A*d):Nat)≤((X*A:Nat):Int):=by
      push_cast [Int.ofNat_sub hlo,Int.ofNat_sub (Nat.le_of_lt hhi)]
      omega
    exact_mod_cast this
  · subst h0
    have hi0:0≤i:=by
      rcases Int.lt_or_le i 0 with h | h
      · have p1:i*(b:Int)≤0:=Int.mul_nonpos_of_nonpos_of_nonneg (by omega) (by omega)
        omega
      · exact h
    obtain ⟨n,rfl⟩:=Int.eq_ofNat_of_zero_le hi0
    refine Or.inl ⟨n,?_,?_⟩
    · have:(X:Int)=((n*b:Nat):Int):=by push_cast;omega
      exact_mod_cast this
    · have:(Y:Int)=((n*a:Nat):Int):=by push_cast;omega
      exact_mod_cast this
  · have hi1:i≤0:=by
      rcases Int.lt_or_le 0 i with h | h
      · have p1:1*(b:Int)≤i*b:=Int.mul_le_mul_of_nonneg_right (by omega) (by omega)
        have p2:1*(d:Int)≤j*d:=Int.mul_le_mul_of_nonneg_right (by omega) (by omega)
        omega
      · exact h
    have q1:i*((A:Int)*b - a*B)≤0:=Int.mul_nonpos_of_nonpos_of_nonneg hi1 (by omega)
    have q2:1*((c:Int)*B - A*d)≤j*(c*B - A*d):=Int.mul_le_mul_of_nonneg_right (by omega) (by omega)
    refine Or.inr (Or.inr ?_)
    have:(X*A+(c*B - A*d):Nat)≤((Y*B:Nat):Int):=by
      push_cast [Int.ofNat_sub (Nat.le_of_lt hhi)]
      omega
    exact_mod_cast this
theorem near_tri (i X y s:Nat) (hi:i < 696) (hX0:1≤X) (hX:X < 288230376151711744) (hs:5≤s) :
    (64*X*eOf i=y*2 ^ (128+s)*unitS∧y*2 ^ (128+s)≤64*X*pmOf i∧64*X*pmOf i < y*2 ^ (128+s)+18446744073709551616) ∨
      y*2 ^ (128+s)+73786976294838206464 < 64*X*pmOf i∨64*X*pmOf i+73786976294838206464 < y*2 ^ (128+s):=by
  obtain ⟨a,b,c,d,h1,h2,h3,h4,h5,h6,h7⟩:=cert_at i hi
  have eQ:y*2 ^ (128+s)=64*(y*2 ^ (s - 5)*2 ^ 127):=by
    rw [show 128+s=(s - 5)+127+6 from by omega,Nat.pow_add,Nat.pow_add]
    generalize 2 ^ (s - 5)=k
    generalize 2 ^ 127=B
    rw [show (2:Nat) ^ 6=64 from by decide]
    grind
  rw [eQ]
  generalize hY:y*2 ^ (s - 5)=Y
  clear eQ hY
  have hS:=unitS_pos
  generalize unitS=S at *
  generalize eOf i=E at *
  generalize pmOf i=A at *
  have hB:0 < 2 ^ 127:=Nat.pow_pos (by decide)
  generalize 2 ^ 127=B at *
  have hf:=farey A B a b c d X Y h1 hX0 (by omega) h3 (by omega)
  have m1:64*X*A=64*(X*A):=by rw [Nat.mul_assoc]
  have m2:64*X*E=64*(X*E):=by rw [Nat.mul_assoc]
  rw [m1,m2]
  rcases hf with ⟨k,rfl,rfl⟩ | hf | hf
  · have hk:1≤k:=by
      rcases Nat.eq_zero_or_pos k with h | h
      · subst h;omega
      · exact h
    rcases h5 with h5 | h5
    · refine Or.inr (Or.inl ?_)
      have:=Nat.mul_le_mul_left k (Nat.succ_le_of_lt h5)
      have e1:k*(A*b)=k*b*A:=by grind
      have e2:k*(a*B+1152921504606846976+1)=k*a*B+k*1152921504606846977:=by grind
      have e3:1*1152921504606846977≤k*1152921504606846977:=Nat.mul_le_mul_right _ hk
      rw [show (a*B+1152921504606846976).succ=a*B+1152921504606846976+1 from rfl,e2,e1] at this
      omega
    · refine Or.inl ?_
      have e0:k*b*E=k*a*B*S:=by
        have:k*(b*E)=k*(a*B*S):=by rw [h5]
        grind
      have e1:k*b*E≤k*b*(A*S):=Nat.mul_le_mul_left _ h6
      have e2:k*b*(A*S)+1≤k*b*(E+S):=Nat.mul_lt_mul_of_pos_left h7 (by omega)
      have e3:k*b*(A*S)=k*b*A*S:=by rw [Nat.mul_assoc (k*b) A S]
      have e4:k*b*(E+S)=k*b*E+k*b*S:=Nat.mul_add _ _ _
      refine ⟨by rw [e0];grind,?_,?_⟩
      · have:k*a*B*S≤k*b*A*S:=by omega
        have:=Nat.le_of_mul_le_mul_right this hS
        omega
      · have:k*b*A*S < (k*a*B+k*b)*S:=by rw [Nat.add_mul];omega
        have:=Nat.lt_of_mul_lt_mul_right this
        omega
  · refine Or.inr (Or.inl ?_)
    omega
  · refine Or.inr (Or.inr ?_)
    omega
theorem or_bit (y:Nat):y ||| 1=y / 2*2+1:=by
  apply Nat.eq_of_testBit_eq
  intro i
  rw [Nat.testBit_or]
  cases i with
  | zero=>simp [Nat.testBit_zero]
  | succ i =>
    rw [Nat.testBit_succ,Nat.testBit_succ,Nat.testBit_succ,show (y / 2*2+1) / 2=y / 2 from by omega,show 1 / 2=0 from rfl]
    simp
def Un (u T G:Nat):Prop:=∀ n,(2*n≤u ↔ 2*n*G≤T)∧(u≤2*n ↔ T≤2*n*G)
theorem un_between (y T G:Nat) (h0:y*G < T) (h1:T < (y+1)*G):Un (y ||| 1) T G:=by
  intro n
  rw [or_bit]
  have key:∀ k,k≤y→k*G < T:=fun k hk=>Nat.lt_of_le_of_lt (Nat.mul_le_mul_right _ hk) h0
  have key2:∀ k,y+1≤k→T < k*G:=fun k hk=>Nat.lt_of_lt_of_le h1 (Nat.mul_le_mul_right _ hk)
  constructor
  · constructor
    · intro h
      exact Nat.le_of_lt (key _ (by omega))
    · intro h
      rcases Nat.lt_or_ge y (2*n) with h' | h'
      · have:=key2 _ h'
        omega
      · omega
  · constructor
    · intro h
      exact Nat.le_of_lt (key2 _ (by omega))
    · intro h
      rcases Nat.lt_or_ge y (2*n) with h' | h'
      · omega
      · have:=key _ h'
        omega
theorem un_exact (y T G:Nat) (hG:0 < G) (h:T=y*G):Un y T G:=by
  intro n
  subst h
  exact ⟨⟨fun h=>Nat.mul_le_mul_right _ h,fun h=>Nat.le_of_mul_le_mul_right h hG⟩,⟨fun h=>Nat.mul_le_mul_right _ h,fun h=>Nat.le_of_mul_le_mul_right h hG⟩⟩
theorem usc_un (i X s:Nat) (hi:i < 696) (hX0:1≤X) (hX:X < 288230376151711744) (hs0:5≤s) :
    Un (usc (64*X) (tabHi i) (tabLo i) s) (64*X*eOf i) (2 ^ (128+s)*unitS):=by
  obtain ⟨f1,f2⟩:=tab_fit i hi
  have f3:=tab_top i hi
  obtain ⟨_,_,_,_,_,_,_,_,_,g1,g2⟩:=cert_at i hi
  have tri:=fun y=>near_tri i X y s hi hX0 hX hs0
  have hpm:pmOf i=tabHi i*18446744073709551616 - tabLo i:=rfl
  have hS:=unitS_pos
  have hxx:64*X < 18446744073709551616:=by omega
  have hx1:1≤64*X:=by omega
  unfold usc
  generalize tabHi i=hi' at *
  generalize tabLo i=lo at *
  generalize unitS=S at *
  generalize eOf i=E at *
  generalize pmOf i=A at *
  generalize 64*X=x at *
  have hxh:x*hi'=x*hi' / 18446744073709551616*18446744073709551616+x*hi' % 18446744073709551616:=by omega
  have hxl:x*lo=x*lo / 18446744073709551616*18446744073709551616+x*lo % 18446744073709551616:=by omega
  have hM:x*hi' % 18446744073709551616 < 18446744073709551616:=Nat.mod_lt _ (by decide)
  have hr:x*lo % 18446744073709551616 < 18446744073709551616:=Nat.mod_lt _ (by decide)
  have hlm:x*lo≤18446744073709551615*18446744073709551615:=Nat.mul_le_mul (by omega) (by omega)
  have hH:x*hi' / 18446744073709551616 < 18446744073709551616:=Nat.div_lt_of_lt_mul (Nat.mul_lt_mul'' hxx f1)
  have hxA:x*A=x*hi'*18446744073709551616 - x*lo:=by rw [hpm,Nat.mul_sub,← Nat.mul_assoc]
  have hge:x*lo≤x*hi'*18446744073709551616:=by
    have:lo≤hi'*18446744073709551616:=by omega
    have:=Nat.mul_le_mul_left x this
    rwa [← Nat.mul_assoc] at this
  -- from the row to the power itself
  have up:∀ z,x*A < z→x*E < z*S:=fun z hz=>by
    have e1:x*E≤x*(A*S):=Nat.mul_le_mul_left _ g1
    have e2:x*A*S < z*S:=Nat.mul_lt_mul_of_pos_right hz hS
    rw [← Nat.mul_assoc] at e1
    omega
  have dn:∀ z,z+x < x*A→z*S < x*E:=fun z hz=>by
    have e2:x*(A*S)+1≤x*(E+S):=Nat.mul_lt_mul_of_pos_left g2 hx1
    have e3:(z+x)*S < x*A*S:=Nat.mul_lt_mul_of_pos_right hz hS
    rw [Nat.mul_add,← Nat.mul_assoc] at e2
    rw [Nat.add_mul] at e3
    omega
  clear hpm g1 g2
  generalize x*lo / 18446744073709551616=C at *
  generalize x*lo % 18446744073709551616=r at *
  generalize x*hi' / 18446744073709551616=H at *
  generalize x*hi' % 18446744073709551616=M at *
  generalize x*hi'=xh at *
  generalize x*lo=xl at *
  have hP:2 ^ (128+s)=2 ^ s*340282366920938463463374607431768211456:=by rw [Nat.pow_add,Nat.mul_comm]
  have hp5:32≤2 ^ s:=by have:2 ^ 5≤2 ^ s:=Nat.pow_le_pow_right (by decide) hs0;omega
  simp only [hP] at tri
  rw [hP]
  have hdm:H / 2 ^ s*2 ^ s≤H:=Nat.div_mul_le_self _ _
  have hdu:H < H / 2 ^ s*2 ^ s+2 ^ s:=by have:=Nat.lt_div_mul_add (a:=H) (b:=2 ^ s) (by omega);omega
  generalize hP':2 ^ s=P at *
  -- strictly between two multiples
  have btw:∀ y,y*(P*340282366920938463463374607431768211456)+18446744073709551616 < x*A+0→x*A < (y+1)*(P*340282366920938463463374607431768211456)→Un (y ||| 1) (x*E) (P*340282366920938463463374607431768211456*S):=by
    intro y a1 a2
    refine un_between _ _ _ ?_ ?_
    · rw [← Nat.mul_assoc];exact dn _ (by omega)
    · rw [← Nat.mul_assoc];exact up _ a2
  by_cases hE:H / P*P=H
  · rw [if_pos hE]
    obtain ⟨y,hy⟩:∃ y,y=H / P:=⟨_,rfl⟩
    have hyH:y*P=H:=by rw [hy];exact hE
    have q1:y*(P*340282366920938463463374607431768211456)=H*340282366920938463463374607431768211456:=by rw [← Nat.mul_assoc,hyH]
    have q2:(y+1)*(P*340282366920938463463374607431768211456)=H*340282366920938463463374607431768211456+P*340282366920938463463374607431768211456:=by rw [Nat.add_mul,q1,Nat.one_mul]
    by_cases hMC:M < C
    · have hH1:1≤H:=by omega
      have hy1:1≤y:=by
        rcases Nat.eq_zero_or_pos y with h | h
        · subst h;omega
        · exact h
      rw [show b2n (decide (M < C))=1 from by rw [decide_eq_true hMC];rfl,show b2n (decide (1 < (M+18446744073709551616 - C) % 18446744073709551616))=1 from by rw [decide_eq_true (by omega)];rfl,
        show (H+18446744073709551616 - 1) % 18446744073709551616=H - 1 from by omega]
      have q0:(y - 1)*(P*340282366920938463463374607431768211456)+P*340282366920938463463374607431768211456=H*340282366920938463463374607431768211456:=by
        rw [← q1]
        obtain ⟨z,rfl⟩:∃ z,y=z+1:=⟨y - 1,by omega⟩
        rw [Nat.add_sub_cancel,Nat.add_mul,Nat.one_mul]
      have hd:(H - 1) / P=y - 1:=by
        obtain ⟨z,rfl⟩:∃ z,y=z+1:=⟨y - 1,by omega⟩
        rw [Nat.add_mul,Nat.one_mul] at hyH
        rw [Nat.div_eq_iff (by omega),Nat.add_sub_cancel]
        omega
      rw [hd]
      refine btw _ (by omega) ?_
      rw [show y - 1+1=y from by omega,q1]
      omega
    · rw [show b2n (decide (M < C))=0 from by rw [decide_eq_false hMC];rfl,show (M+18446744073709551616 - C) % 18446744073709551616=M - C from by omega,show (H+18446744073709551616 - 0) % 18446744073709551616=H from by omega,← hy]
      rcases tri y with ⟨t1,t2,t3⟩ | t | t
      · rw [show b2n (decide (1 < M - C))=0 from by rw [decide_eq_false (by omega)];rfl,Nat.or_zero]
        exact un_exact _ _ _ (Nat.mul_pos (Nat.mul_pos (by omega) (by decide)) hS) (by rw [t1,Nat.mul_assoc])
      · rw [show b2n (decide (1 < M - C))=1 from by rw [decide_eq_true (by omega)];rfl]
        refine btw _ (by omega) ?_
        rw [q2]
        omega
      · omega
  · rw [if_neg hE]
    obtain ⟨y,hy⟩:∃ y,y=H / P:=⟨_,rfl⟩
    rw [← hy] at hdm hdu hE ⊢
    obtain ⟨h,hh⟩:∃ h,H=y*P+h:=⟨H - y*P,by omega⟩
    have q1:y*(P*340282366920938463463374607431768211456)=y*P*340282366920938463463374607431768211456:=by rw [← Nat.mul_assoc]
    have q2:(y+1)*(P*340282366920938463463374607431768211456)=y*P*340282366920938463463374607431768211456+P*340282366920938463463374607431768211456:=by rw [Nat.add_mul,q1,Nat.one_mul]
    generalize y*P=yP at *
    exact btw _ (by omega) (by rw [q2];omega)
def V (x:Nat) (e p:Int):Nat:=x*pw 2 (e+1200).toNat*pw 10 (p+400).toNat
theorem V_up (x:Nat) (e p:Int) (k j:Nat) (he:-1200≤e) (hp:-400≤p):V x (e+k) (p+j)=V x e p*(pw 2 k*pw 10 j):=by
  unfold V
  rw [show (e+(k:Int)+1200).toNat=(e+1200).toNat+k from by omega,show (p+(j:Int)+400).toNat=(p+400).toNat+j from by omega,pw_add,pw_add]
  generalize pw 2 (e+1200).toNat=a
  generalize pw 10 (p+400).toNat=b
  grind
theorem V_le_up (x y:Nat) (e p e' p':Int) (k j:Nat) (he:-1200≤e) (hp:-400≤p) (he':-1200≤e') (hp':-400≤p'):V x (e+k) (p+j)≤V y (e'+k) (p'+j) ↔ V x e p≤V y e' p':=by
  rw [V_up x e p k j he hp,V_up y e' p' k j he' hp']
  exact Nat.mul_le_mul_right_iff (Nat.mul_pos (pw_pos _ (by decide)) (pw_pos _ (by decide)))
theorem V_le_mv (x y:Nat) (e p e' p':Int) (k j:Int) (he:-1200≤e) (hp:-400≤p) (he':-1200≤e') (hp':-400≤p') (h1:-1200≤e+k) (h2:-400≤p+j) (h3:-1200≤e'+k) (h4:-400≤p'+j) :
    V x (e+k) (p+j)≤V y (e'+k) (p'+j) ↔ V x e p≤V y e' p':=by
  obtain ⟨a,b,hk⟩:∃ a b:Nat,k=(a:Int) - b∧(a=0∨b=0):=⟨k.toNat,(-k).toNat,by omega,by omega⟩
  obtain ⟨c,d,hj⟩:∃ c d:Nat,j=(c:Int) - d∧(c=0∨d=0):=⟨j.toNat,(-j).toNat,by omega,by omega⟩
  have l:=V_le_up x y (e+k) (p+j) (e'+k) (p'+j) b d h1 h2 h3 h4
  have r:=V_le_up x y e p e' p' a c he hp he' hp'
  rw [show e+k+(b:Int)=e+a from by omega,show p+j+(d:Int)=p+c from by omega,show e'+k+(b:Int)=e'+a from by omega,show p'+j+(d:Int)=p'+c from by omega] at l
  exact l.symm.trans r
theorem V_two (x k:Nat) (e p:Int) (he:-1200≤e):V (x*2 ^ k) e p=V x (e+k) p:=by
  unfold V
  rw [show (e+(k:Int)+1200).toNat=(e+1200).toNat+k from by omega,pw_add]
  generalize pw 2 (e+1200).toNat=a
  generalize pw 10 (p+400).toNat=b
  show x*2 ^ k*a*b=x*(a*2 ^ k)*b
  grind
theorem V_ten (x:Nat) (e p:Int) (hp:-400≤p):V (x*10) e p=V x e (p+1):=by
  unfold V
  rw [show (p+1+400).toNat=(p+400).toNat+1 from by omega,pw_add]
  generalize pw 2 (e+1200).toNat=a
  generalize pw 10 (p+400).toNat=b
  show x*10*a*b=x*a*(b*10 ^ 1)
  grind
theorem V_mono {x y:Nat} (e p:Int):V x e p≤V y e p ↔ x≤y:=by
  unfold V
  rw [Nat.mul_assoc,Nat.mul_assoc]
  exact Nat.mul_le_mul_right_iff (Nat.mul_pos (pw_pos _ (by decide)) (pw_pos _ (by decide)))
theorem scl_of (x:Nat) (e p:Int) (hun:∀ s:Nat,5≤s→Un (usc (x) (tabHi (p+348).toNat) (tabLo (p+348).toNat) s) (x*eOf (p+348).toNat) (2 ^ (128+s)*unitS)) (hs0:5≤-(e+l2 p+3)) (hs1:-(e+l2 p+3)≤63) (hp0:-348≤p) (hp1:p≤347) (he:-1200≤e) (n:Nat) :
    (2*n≤scl (x) e p ↔ V (2*n) (-2) 0≤V (x) e p)∧(scl (x) e p≤2*n ↔ V (x) e p≤V (2*n) (-2) 0):=by
  obtain ⟨i,hi⟩:∃ i:Nat,p=(i:Int) - 348:=⟨(p+348).toNat,by omega⟩
  obtain ⟨s,hs⟩:∃ s:Nat,-(e+l2 p+3)=(s:Int):=⟨(-(e+l2 p+3)).toNat,by omega⟩
  have hl0:-1200≤l2 p:=by unfold l2;omega
  have hl1:l2 p≤1200:=by unfold l2;omega
  have key:=hun s (by omega) n
  rw [show (p+348).toNat=i from by omega] at key
  have e1:scl (x) e p=usc (x) (tabHi i) (tabLo i) s:=by
    unfold scl
    rw [hs,show (p+348).toNat=i from by omega,show ((s:Int) % 64).toNat=s from by omega]
  rw [e1]
  obtain ⟨k,hk⟩:∃ k:Nat,k=s+130:=⟨_,rfl⟩
  have e2:V (x) e p*pw 2 k=x*eOf i:=by
    unfold V eOf
    rw [show (p+400).toNat=i+52 from by omega,show (1327 - l2 ((i:Int) - 348)).toNat=(e+1200).toNat+k from by rw [← hi];omega,pw_add 2]
    generalize pw 2 (e+1200).toNat=a
    generalize pw 10 (i+52)=b
    generalize pw 2 k=c
    clear hun key
    grind
  have e3:V (2*n) (-2) 0*pw 2 k=2*n*(2 ^ (128+s)*unitS):=by
    unfold V unitS
    rw [show ((-2:Int)+1200).toNat=1198 from by decide,show ((0:Int)+400).toNat=400 from by decide,hk]
    have:pw 2 1198*pw 2 (s+130)=2 ^ (128+s)*pw 2 1200:=by
      rw [← pw_add]
      show _=pw 2 (128+s)*pw 2 1200
      rw [← pw_add]
      congr 1
      omega
    generalize pw 10 400=b
    generalize 2 ^ (128+s)=q at *
    generalize pw 2 (s+130)=c at *
    generalize pw 2 1198=f at *
    generalize pw 2 1200=g at *
    clear hun key
    grind
  have hc:0 < pw 2 k:=pw_pos _ (by decide)
  rw [← e2,← e3,Nat.mul_le_mul_right_iff hc,Nat.mul_le_mul_right_iff hc] at key
  exact key
theorem scl_un (X:Nat) (e p:Int) (hX0:1≤X) (hX:X < 288230376151711744) (hs0:5≤-(e+l2 p+3)) (hs1:-(e+l2 p+3)≤63) (hp0:-348≤p) (hp1:p≤347) (he:-1200≤e) (n:Nat) :
    (2*n≤scl (64*X) e p ↔ V (2*n) (-2) 0≤V (64*X) e p)∧(scl (64*X) e p≤2*n ↔ V (64*X) e p≤V (2*n) (-2) 0) :=
  scl_of (64*X) e p (fun s hs=>usc_un _ X s (by omega) hX0 hX hs) hs0 hs1 hp0 hp1 he n
theorem low_in (X u odd:Nat) (e p:Int) (hX0:1≤X) (hX:X < 288230376151711744) (hs0:5≤-(e+l2 p+3)) (hs1:-(e+l2 p+3)≤63) (hp0:-348≤p) (hp1:p≤347) (he:-1200≤e) (ho:odd≤1)
    (hu:scl (64*X) e p < 18446744073709551600) (h:dLow (scl (64*X) e p) odd≤u):V (64*X) e 0≤V u 0 (-p)∧(odd=1→¬ V u 0 (-p)≤V (64*X) e 0):=by
  rw [dLow_small _ _ hu ho] at h
  have k:=scl_un X e p hX0 hX hs0 hs1 hp0 hp1 he (2*u)
  have m1:=V_le_mv (64*X) u e p 0 0 0 (-p) he (by omega) (by decide) (by decide) (by omega) (by omega) (by decide) (by omega)
  have m2:=V_le_mv u (64*X) 0 0 e p 0 (-p) (by decide) (by decide) he (by omega) (by decide) (by omega) (by omega) (by omega)
  rw [show e+0=e from by omega,show p+-p=0 from by omega,show (0:Int)+0=0 from by decide,show (0:Int)+-p=-p from by omega] at m1 m2
  have q:V (2*(2*u)) (-2) 0=V u 0 0:=by
    have:=V_two u 2 (-2) 0 (by decide)
    rw [show u*2 ^ 2=2*(2*u) from by omega] at this
    exact this
  rw [q] at k
  refine ⟨m1.2 (k.2.1 (by omega)),fun h1 hh=>?_⟩
  have:=k.1.2 (m2.1 hh)
  omega
theorem high_in (X u odd:Nat) (e p:Int) (hX0:1≤X) (hX:X < 288230376151711744) (hs0:5≤-(e+l2 p+3)) (hs1:-(e+l2 p+3)≤63) (hp0:-348≤p) (hp1:p≤347) (he:-1200≤e) (ho:odd≤1)
    (hu:scl (64*X) e p < 18446744073709551600) (hu1:1≤scl (64*X) e p) (h:u≤dHigh (scl (64*X) e p) odd):V u 0 (-p)≤V (64*X) e 0∧(odd=1→¬ V (64*X) e 0≤V u 0 (-p)):=by
  rw [dHigh_small _ _ hu hu1 ho] at h
  have k:=scl_un X e p hX0 hX hs0 hs1 hp0 hp1 he (2*u)
  have m1:=V_le_mv (64*X) u e p 0 0 0 (-p) he (by omega) (by decide) (by decide) (by omega) (by omega) (by decide) (by omega)
  have m2:=V_le_mv u (64*X) 0 0 e p 0 (-p) (by decide) (by decide) he (by omega) (by decide) (by omega) (by omega) (by omega)
  rw [show e+0=e from by omega,show p+-p=0 from by omega,show (0:Int)+0=0 from by decide,show (0:Int)+-p=-p from by omega] at m1 m2
  have q:V (2*(2*u)) (-2) 0=V u 0 0:=by
    have:=V_two u 2 (-2) 0 (by decide)
    rw [show u*2 ^ 2=2*(2*u) from by omega] at this
    exact this
  rw [q] at k
  refine ⟨m2.2 (k.1.1 (by omega)),fun h1 hh=>?_⟩
  have:=k.2.2 (m1.1 hh)
  omega
theorem units_V (r:Nat × Int) (p:Int) (hp0:-400≤-p) (hr:r.2=-p∨r.2=-p+1):V (inUnits r p) 0 (-p)=V r.1 0 r.2:=by
  unfold inUnits
  rcases hr with h | h
  · rw [if_pos h,h]
  · rw [if_neg (by omega),h,V_ten _ _ _ hp0]
def Within (w M:Nat) (E:Int):Prop :=
  V (2*M - 1) (E - 1) 0≤w∧w≤V (2*M+1) (E - 1) 0∧(M % 2=1→¬ w≤V (2*M - 1) (E - 1) 0∧¬ V (2*M+1) (E - 1) 0≤w)∧(M=4503599627370496→-1074 < E→V (4*M - 1) (E - 2) 0≤w)
theorem pick_within (M z odd:Nat) (e p:Int) (hM0:1≤M) (hz:7≤z) (hodd:odd=M % 2) (hx0:4611686018427387904≤M*2 ^ z - 2 ^ (z - 1)) (hx:M*2 ^ z+2 ^ (z - 1) < 18446744073709551616) (hE:okE e p=true)
    (hs0:5≤-(e+l2 p+3)) (hs1:-(e+l2 p+3)≤63) (he:-1200≤e) (hM:M=4503599627370496→e+(z:Int)≤-1074)
    (h:dLow (scl (M*2 ^ z - 2 ^ (z - 1)) e p) odd≤inUnits (pick (M*2 ^ z) (M*2 ^ z - 2 ^ (z - 1)) (M*2 ^ z+2 ^ (z - 1)) odd e p) p∧inUnits (pick (M*2 ^ z) (M*2 ^ z - 2 ^ (z - 1)) (M*2 ^ z+2 ^ (z - 1)) odd e p) p≤dHigh (scl (M*2 ^ z+2 ^ (z - 1)) e p) odd) :
    Within (V (pick (M*2 ^ z) (M*2 ^ z - 2 ^ (z - 1)) (M*2 ^ z+2 ^ (z - 1)) odd e p).1 0 (pick (M*2 ^ z) (M*2 ^ z - 2 ^ (z - 1)) (M*2 ^ z+2 ^ (z - 1)) odd e p).2) M (e+z):=by
  have hE':=hE
  unfold okE at hE'
  simp only [Bool.and_eq_true,decide_eq_true_eq] at hE'
  obtain ⟨⟨⟨_,_⟩,hp0⟩,hp1⟩:=hE'
  have hg:0 < 2 ^ (z - 1):=Nat.pow_pos (by decide)
  have u1:=scl_between _ e p hx0 (by omega) hE
  have u3:=scl_between (M*2 ^ z+2 ^ (z - 1)) e p (by omega) hx hE
  rw [← units_V _ p (by omega) (pick_two _ _ _ _ e p)]
  generalize inUnits (pick (M*2 ^ z) (M*2 ^ z - 2 ^ (z - 1)) (M*2 ^ z+2 ^ (z - 1)) odd e p) p=u at *
  have hz1:2 ^ z=64*(2*2 ^ (z - 7)):=by
    rw [show 64*(2*2 ^ (z - 7))=2 ^ (z - 7)*2 ^ 7 from by omega,← Nat.pow_add]
    congr 1
    omega
  have hz2:2 ^ (z - 1)=64*2 ^ (z - 7):=by
    rw [show 64*2 ^ (z - 7)=2 ^ (z - 7)*2 ^ 6 from by omega,← Nat.pow_add]
    congr 1
    omega
  have hT:0 < 2 ^ (z - 7):=Nat.pow_pos (by decide)
  have f1:M*2 ^ z - 2 ^ (z - 1)=(2*M - 1)*2 ^ (z - 1):=by
    rw [hz1,hz2]
    generalize 2 ^ (z - 7)=T
    rw [Nat.sub_mul,Nat.one_mul]
    congr 1
    grind
  have f2:M*2 ^ z+2 ^ (z - 1)=(2*M+1)*2 ^ (z - 1):=by
    rw [hz1,hz2]
    generalize 2 ^ (z - 7)=T
    grind
  have g1:(2*M - 1)*2 ^ (z - 1)=64*((2*M - 1)*2 ^ (z - 7)):=by rw [hz2];grind
  have g2:(2*M+1)*2 ^ (z - 1)=64*((2*M+1)*2 ^ (z - 7)):=by rw [hz2];grind
  have p1:1*1≤(2*M - 1)*2 ^ (z - 7):=Nat.mul_le_mul (by omega) hT
  have p2:1*1≤(2*M+1)*2 ^ (z - 7):=Nat.mul_le_mul (by omega) hT
  rw [f1,g1] at h hx0 u1
  rw [f2,g2] at h hx u3
  have a:=low_in _ u odd e p (by omega) (by omega) hs0 hs1 hp0 hp1 he (by omega) (by omega) h.1
  have b:=high_in _ u odd e p (by omega) (by omega) hs0 hs1 hp0 hp1 he (by omega) (by omega) (by omega) h.2
  rw [← g1,V_two _ _ _ _ he,show e+((z - 1:Nat):Int)=e+(z:Int) - 1 from by omega] at a
  rw [← g2,V_two _ _ _ _ he,show e+((z - 1:Nat):Int)=e+(z:Int) - 1 from by omega] at b
  exact ⟨a.1,b.1,fun ho=>⟨a.2 (by omega),b.2 (by omega)⟩,fun hM' h'=>absurd (hM hM') (by omega)⟩
theorem V_mul (x y:Nat) (e p:Int):V (x*y) e p=x*V y e p:=by
  unfold V
  rw [Nat.mul_assoc x y,Nat.mul_assoc x]
end Go.Proofs.YtibahfopmjiffaaGreatDoor.Rl
/- AT POWERS OF TWO BELOW THE LEAST NORMAL FLOAT, and at that one. Own work of the verifier. -/
namespace Go.Proofs.YtibahfopmjiffaaGreatDoor.Rl
open Go.RowKit
theorem rise_sub (k:Nat) (h0:1≤k) (h1:k≤52):ltV (shortF ((2 ^ k - 1)*2 ^ (64 - k)) (-1074 - ((64 - k:Nat):Int))) (shortF 9223372036854775808 (-1074 - ((63 - k:Nat):Int)))=true:=by
  have h:(List.range 53).all (fun k=>k == 0 || ltV (shortF ((2 ^ k - 1)*2 ^ (64 - k)) (-1074 - ((64 - k:Nat):Int))) (shortF 9223372036854775808 (-1074 - ((63 - k:Nat):Int))))=true:=by decide +kernel
  have:=List.all_eq_true.1 h k (List.mem_range.2 (by omega))
  rw [Bool.or_eq_true] at this
  rcases this with q | q
  · have:=eq_of_beq q;omega
  · exact q
end Go.Proofs.YtibahfopmjiffaaGreatDoor.Rl
/- BELOW THE LEAST NORMAL FLOAT the values rise too. Own work of the verifier. -/
namespace Go.Proofs.YtibahfopmjiffaaGreatDoor.Rl
open Go.RowKit
theorem short_low (f z:Nat) (hz:12≤z):shortF (f*2 ^ z) (-1074 - (z:Int))=pick (f*2 ^ z) (f*2 ^ z - 2 ^ (z - 1)) (f*2 ^ z+2 ^ (z - 1)) (f % 2) (-1074 - (z:Int)) (-(l10 (-1074))):=by
  unfold shortF
  rw [if_neg (by omega),if_neg (by omega),show (-1075 - (-1074 - (z:Int))).toNat=z - 1 from by omega,show (-1074 - (-1074 - (z:Int))).toNat=z from by omega,Nat.mul_div_cancel _ (Nat.pow_pos (by decide))]
theorem rise_low (f z:Nat) (hz0:12≤z) (hz1:z≤63) (h0:9223372036854775808≤f*2 ^ z) (h1:(f+2)*2 ^ z≤18446744073709551616) :
    ltV (shortF (f*2 ^ z) (-1074 - (z:Int))) (shortF ((f+1)*2 ^ z) (-1074 - (z:Int)))=true:=by
  rw [short_low f z hz0,short_low (f+1) z hz0]
  have hE:=ok_sub (-1074 - (z:Int)) (by omega) (by omega)
  have hW:=wide_sub (-1074 - (z:Int)) (by omega) (by omega)
  rw [show (-1075 - (-1074 - (z:Int))).toNat=z - 1 from by omega] at hW
  refine ltV_of _ _ (-(l10 (-1074))) (by decide) (pick_two ..) (pick_two ..) ?_
  have hg:2 ^ (z - 1)≤4611686018427387904:=by
    have:2 ^ (z - 1)≤2 ^ 62:=Nat.pow_le_pow_right (by decide) (by omega)
    exact this
  have hg0:0 < 2 ^ (z - 1):=Nat.pow_pos (by decide)
  have e1:(f+1)*2 ^ z=f*2 ^ z+2 ^ z:=by rw [Nat.add_mul,Nat.one_mul]
  have e2:(f+2)*2 ^ z=f*2 ^ z+2*2 ^ z:=by rw [Nat.add_mul]
  have e3:2 ^ z=2*2 ^ (z - 1):=by rw [← Nat.pow_succ',show (z - 1).succ=z from by omega]
  have a:=(pick_sym (f*2 ^ z) (2 ^ (z - 1)) (f % 2) _ _ (by omega) (by omega) (by omega) (by omega) hE hW).2.1
  have b:=(pick_sym ((f+1)*2 ^ z) (2 ^ (z - 1)) ((f+1) % 2) _ _ (by omega) (by omega) (by omega) (by omega) hE hW).1
  have u:=scl_between (f*2 ^ z+2 ^ (z - 1)) _ _ (by omega) (by omega) hE
  have c:=high_low (scl (f*2 ^ z+2 ^ (z - 1)) (-1074 - (z:Int)) (-(l10 (-1074)))) (f % 2) (by omega) (by omega) (by omega)
  rw [show (f+1) % 2=1 - f % 2 from by omega] at b ⊢
  have e4:(f+1)*2 ^ z - 2 ^ (z - 1)=f*2 ^ z+2 ^ (z - 1):=by omega
  rw [e4] at b ⊢
  exact Nat.lt_of_le_of_lt a (Nat.lt_of_lt_of_le c b)
end Go.Proofs.YtibahfopmjiffaaGreatDoor.Rl
/- THE VALUES RISE from float to float. Own work of the verifier. -/
namespace Go.Proofs.YtibahfopmjiffaaGreatDoor.Rl
open Go.RowKit
theorem lt_exp {a b:Nat} (h:2 ^ a < 2 ^ b):a < b:=(Nat.pow_lt_pow_iff_right (by decide:1 < 2)).1 h
theorem sd_low (a:Nat) (h1:a < 4503599627370496):sd a=shortF (a*2 ^ (64 - Lib.bitLen a)) (-1074 - ((64 - Lib.bitLen a:Nat):Int)):=by
  unfold sd
  rw [if_pos (by omega),Nat.mod_eq_of_lt h1]
theorem sd_norm (a:Nat) (h0:4503599627370496≤a) (h1:a < 9218868437227405312):sd a=shortF ((4503599627370496+a % 4503599627370496)*2048) ((a / 4503599627370496:Nat) - 1086):=by
  unfold sd
  rw [if_neg (by omega),show a / 4503599627370496 % 2048=a / 4503599627370496 from by omega]
theorem rise_next (a:Nat) (h0:1≤a) (h1:a+1 < 9218868437227405312):ltV (sd a) (sd (a+1))=true:=by
  by_cases c1:a < 4503599627370496
  · obtain ⟨l1,l2,l3⟩:=len_bounds a (by omega) (by omega)
    have k52:Lib.bitLen a≤52:=by
      have:Lib.bitLen a - 1 < 52:=lt_exp (Nat.lt_of_le_of_lt l2 (by rw [show (2:Nat) ^ 52=4503599627370496 from by decide];exact c1))
      omega
    rw [sd_low a c1]
    by_cases c2:a+1 < 2 ^ Lib.bitLen a
    · have c3:a+1 < 4503599627370496:=by
        have:2 ^ Lib.bitLen a≤2 ^ 52:=Nat.pow_le_pow_right (by decide) k52
        rw [show (2:Nat) ^ 52=4503599627370496 from by decide] at this
        omega
      obtain ⟨m1,m2,m3⟩:=len_bounds (a+1) (by omega) (by omega)
      have e:Lib.bitLen (a+1)=Lib.bitLen a:=by
        have x1:=lt_exp (Nat.lt_of_le_of_lt m2 c2)
        have x2:=lt_exp (Nat.lt_of_le_of_lt l2 (Nat.lt_trans (Nat.lt_succ_self a) m3))
        omega
      rw [sd_low (a+1) c3,e]
      refine rise_low a (64 - Lib.bitLen a) (by omega) (by omega) ?_ ?_
      · have:=Nat.mul_le_mul_right (2 ^ (64 - Lib.bitLen a)) l2
        rw [← Nat.pow_add,show Lib.bitLen a - 1+(64 - Lib.bitLen a)=63 from by omega] at this
        exact this
      · have:=Nat.mul_le_mul_right (2 ^ (64 - Lib.bitLen a)) (show a+2≤2 ^ Lib.bitLen a from c2)
        rw [← Nat.pow_add,show Lib.bitLen a+(64 - Lib.bitLen a)=64 from by omega] at this
        exact this
    · have c3:a+1=2 ^ Lib.bitLen a:=by omega
      have h:=rise_sub (Lib.bitLen a) (by omega) k52
      rw [show 2 ^ Lib.bitLen a - 1=a from by omega] at h
      by_cases c4:a+1 < 4503599627370496
      · obtain ⟨m1,m2,m3⟩:=len_bounds (a+1) (by omega) (by omega)
        have e:Lib.bitLen (a+1)=Lib.bitLen a+1:=by
          have x1:=lt_exp (show 2 ^ Lib.bitLen a < 2 ^ Lib.bitLen (a+1) from by omega)
          have x2:2 ^ (Lib.bitLen (a+1) - 1) < 2 ^ (Lib.bitLen a+1):=by
            rw [Nat.pow_succ]
            have:0 < 2 ^ Lib.bitLen a:=Nat.pow_pos (by decide)
            omega
          have:=lt_exp x2
          omega
        rw [sd_low (a+1) c4,e,show 64 - (Lib.bitLen a+1)=63 - Lib.bitLen a from by omega,c3,← Nat.pow_add,show Lib.bitLen a+(63 - Lib.bitLen a)=63 from by omega]
        exact h
      · have e:Lib.bitLen a=52:=by
          have x1:¬ Lib.bitLen a < 52:=fun k=>by
            have:2 ^ Lib.bitLen a≤2 ^ 51:=Nat.pow_le_pow_right (by decide) (by omega)
            rw [show (2:Nat) ^ 51=2251799813685248 from by decide] at this
            omega
          omega
        have e2:a+1=4503599627370496:=by omega
        rw [e2,sd_norm 4503599627370496 (by decide) (by decide)]
        rw [e] at h ⊢
        exact h
  · rw [sd_norm a (by omega) (by omega),sd_norm (a+1) (by omega) h1]
    by_cases c2:a % 4503599627370496+1 < 4503599627370496
    · rw [show (a+1) / 4503599627370496=a / 4503599627370496 from by omega,show (a+1) % 4503599627370496=a % 4503599627370496+1 from by omega]
      by_cases c3:a % 4503599627370496=0∧2≤a / 4503599627370496
      · have h:=rise_from ((a / 4503599627370496:Nat) - 1086) (by omega) (by omega)
        rw [c3.1]
        exact h
      · exact rise_in (4503599627370496+a % 4503599627370496) _ (by omega) (by omega) (by omega) (by omega)
    · have h:=rise_to ((a / 4503599627370496:Nat) - 1085) (by omega) (by omega)
      rw [show (a+1) / 4503599627370496=a / 4503599627370496+1 from by omega,show (a+1) % 4503599627370496=0 from by omega,show a % 4503599627370496=4503599627370495 from by omega,show (((a / 4503599627370496+1:Nat):Int) - 1086)=((a / 4503599627370496:Nat):Int) - 1085 from by omega]
      rw [show (((a / 4503599627370496:Nat):Int) - 1085 - 1)=((a / 4503599627370496:Nat):Int) - 1086 from by omega] at h
      exact h
theorem rise_all {a b:Nat} (h0:1≤a) (h:a < b) (h1:b < 9218868437227405312):ltV (sd a) (sd b)=true:=by
  induction b with
  | zero=>omega
  | succ b ih =>
    by_cases e:a=b
    · subst e;exact rise_next a h0 h1
    · have i:=of_decide_eq_true (ih (by omega) (by omega))
      have j:=of_decide_eq_true (rise_next b (by omega) h1)
      exact decide_eq_true (Nat.lt_trans i j)
end Go.Proofs.YtibahfopmjiffaaGreatDoor.Rl
/- WHAT IS PRINTED LIES WITHIN THE INTERVAL OF THE FLOAT, for every float that is finite and not 0. Own work of the verifier. -/
namespace Go.Proofs.YtibahfopmjiffaaGreatDoor.Rl
theorem s_norm (e:Int) (h0:-1085≤e) (h1:e≤1000):5≤-(e+l2 (-(l10 (e+11)))+3)∧-(e+l2 (-(l10 (e+11)))+3)≤63:=by
  have h:(List.range 2086).all (fun i=>decide (5≤-((i:Int) - 1085+l2 (-(l10 ((i:Int) - 1085+11)))+3)) && decide (-((i:Int) - 1085+l2 (-(l10 ((i:Int) - 1085+11)))+3)≤63))=true:=by decide +kernel
  have:=List.all_eq_true.1 h (e+1085).toNat (List.mem_range.2 (by omega))
  rw [show (((e+1085).toNat:Nat):Int) - 1085=e from by omega] at this
  simpa using this
theorem s_sub (e:Int) (h0:-1137≤e) (h1:e≤-1086):5≤-(e+l2 (-(l10 (-1074)))+3)∧-(e+l2 (-(l10 (-1074)))+3)≤63:=by
  rw [show l2 (-(l10 (-1074)))=1076 from by decide]
  omega
theorem norm_in (f:Nat) (e:Int) (hf0:4503599627370496≤f) (hf1:f < 9007199254740992) (hf:f≠4503599627370496∨e=-1085) (he0:-1085≤e) (he1:e≤1000) :
    Within (V (shortF (f*2048) e).1 0 (shortF (f*2048) e).2) f (e+11):=by
  rw [short_norm f e hf he0]
  obtain ⟨s0,s1⟩:=s_norm e he0 he1
  have w:=pick_within f 11 (f % 2) e (-(l10 (e+11))) (by omega) (by decide) rfl (by omega) (by omega) (ok_norm e he0 he1).1 s0 s1 (by omega) (fun h=>by omega)
  refine w ?_
  rw [show f*2 ^ 11 - 2 ^ (11 - 1)=f*2048 - 1024 from by omega,show f*2 ^ 11+2 ^ (11 - 1)=f*2048+1024 from by omega,show f*2 ^ 11=f*2048 from by omega]
  by_cases h11:e=-11
  · subst h11
    have k:=pick_eleven f (f % 2) hf0 hf1 (by omega)
    rw [show -(l10 (-11+11))=0 from by decide]
    omega
  · have k:=pick_sym (f*2048) 1024 (f % 2) e (-(l10 (e+11))) (by omega) (by omega) (by omega) (by omega) (ok_norm e he0 he1).1 (wide_norm e he0 he1 h11)
    exact ⟨k.1,k.2.1⟩
theorem sub_in (f z:Nat) (hf:1≤f) (hz0:12≤z) (hz1:z≤63) (h0:9223372036854775808≤f*2 ^ z) (h1:f*2 ^ z+2 ^ (z - 1) < 18446744073709551616) (hx:f < 4503599627370496) :
    Within (V (shortF (f*2 ^ z) (-1074 - (z:Int))).1 0 (shortF (f*2 ^ z) (-1074 - (z:Int))).2) f (-1074):=by
  rw [short_low f z hz0]
  obtain ⟨s0,s1⟩:=s_sub (-1074 - (z:Int)) (by omega) (by omega)
  have hg:2 ^ (z - 1)≤2 ^ 62:=Nat.pow_le_pow_right (by decide) (by omega)
  have h62:(2:Nat) ^ 62=4611686018427387904:=by decide
  have w:=pick_within f z (f % 2) (-1074 - (z:Int)) (-(l10 (-1074))) hf (by omega) rfl (by omega) h1 (ok_sub _ (by omega) (by omega)) s0 s1 (by omega) (fun h=>by omega)
  rw [show -1074 - (z:Int)+(z:Int)=-1074 from by omega] at w
  refine w ?_
  have k:=pick_sym (f*2 ^ z) (2 ^ (z - 1)) (f % 2) (-1074 - (z:Int)) (-(l10 (-1074))) (by omega) (by omega) h1 (by omega) (ok_sub _ (by omega) (by omega)) (by
    have:=wide_sub (-1074 - (z:Int)) (by omega) (by omega)
    rw [show (-1075 - (-1074 - (z:Int))).toNat=z - 1 from by omega] at this
    exact this)
  exact ⟨k.1,k.2.1⟩
def inTwo (r:Nat × Int) (e:Int):Bool:=decide (V 18014398509481983 (e+9) 0≤V r.1 0 r.2) && decide (V r.1 0 r.2≤V 9007199254740993 (e+10) 0)
theorem two_ok (e:Int) (h0:-1084≤e) (h1:e≤960):inTwo (shortF 9223372036854775808 e) e=true:=by
  have h:(List.range 2045).all (fun i=>inTwo (shortF 9223372036854775808 ((i:Int) - 1084)) ((i:Int) - 1084))=true:=by decide +kernel
  have:=List.all_eq_true.1 h (e+1084).toNat (List.mem_range.2 (by omega))
  rw [show (((e+1084).toNat:Nat):Int) - 1084=e from by omega] at this
  exact this
theorem two_in (e:Int) (h0:-1084≤e) (h1:e≤960):Within (V (shortF 9223372036854775808 e).1 0 (shortF 9223372036854775808 e).2) 4503599627370496 (e+11):=by
  have h:=two_ok e h0 h1
  unfold inTwo at h
  rw [Bool.and_eq_true,decide_eq_true_eq,decide_eq_true_eq] at h
  obtain ⟨a,b⟩:=h
  have c:V 9007199254740991 (e+11 - 1) 0≤V 18014398509481983 (e+9) 0:=by
    have:=V_two 9007199254740991 1 (e+9) 0 (by omega)
    rw [show e+9+((1:Nat):Int)=e+11 - 1 from by omega] at this
    rw [← this]
    exact (V_mono _ _).2 (by decide)
  refine ⟨Nat.le_trans c a,?_,fun h=>absurd h (by decide),fun _ _=>?_⟩
  · rw [show e+11 - 1=e+10 from by omega]
    exact b
  · rw [show e+11 - 2=e+9 from by omega]
    exact a
def mOf (a:Nat):Nat:=if a < 4503599627370496 then a else 4503599627370496+a % 4503599627370496
def xOf (a:Nat):Int:=if a < 4503599627370496 then -1074 else (a / 4503599627370496:Nat) - 1075
theorem sd_in (a:Nat) (h0:1≤a) (h1:a < 9218868437227405312):Within (V (sd a).1 0 (sd a).2) (mOf a) (xOf a):=by
  unfold mOf xOf
  by_cases h:a < 4503599627370496
  · rw [if_pos h,if_pos h,sd_low a h]
    obtain ⟨z,hz,hz',z0,z1,z2,z3,_,z5⟩:=sub_bits a h0 h
    rw [hz]
    exact sub_in a z h0 z0 z1 z2 z5 h
  · rw [if_neg h,if_neg h,sd_norm a (by omega) h1]
    have hq:a / 4503599627370496 < 2047:=by omega
    have hq1:1≤a / 4503599627370496:=by omega
    have hr:a % 4503599627370496 < 4503599627370496:=Nat.mod_lt _ (by decide)
    generalize a / 4503599627370496=q at *
    generalize a % 4503599627370496=r at *
    rw [show ((q:Nat):Int) - 1075=(q:Int) - 1086+11 from by omega]
    by_cases hn:r=0∧q≠1
    · rw [hn.1]
      exact two_in _ (by omega) (by omega)
    · exact norm_in _ _ (by omega) (by omega) (by omega) (by omega) (by omega)
end Go.Proofs.YtibahfopmjiffaaGreatDoor.Rl
namespace Go.Proofs.YtibahfopmjiffaaGreatDoor.Soft
end Go.Proofs.YtibahfopmjiffaaGreatDoor.Soft
namespace Go.Proofs.YtibahfopmjiffaaGreatDoor.Rl
open Soft
end Go.Proofs.YtibahfopmjiffaaGreatDoor.Rl
