/- THE DIGITS THAT THE LIBRARY PRINTS ARE THE DOCUMENT'S: the interval, and which numbers lie in it. Own work of the verifier. -/
import Derived.Test.YtibahfopmjiffaaGreatDoorSAL
import Derived.Test.YtibahfopmjiffaaGreatDoorSAN
namespace Go.Proofs.YtibahfopmjiffaaGreatDoor.Rl
open Soft
theorem pM_mOf (b:Nat):pM b=mOf b:=by unfold pM mOf;split <;> split <;> omega
theorem pK_xOf (b:Nat):pK b=xOf b:=by unfold pK xOf;split <;> split <;> omega
def fac (s k:Int):Nat:=pw 2 (1200 - (-k).toNat)*pw 10 (400 - (-s).toNat)
theorem fac_pos (s k:Int):0 < fac s k:=Nat.mul_pos (pw_pos _ (by decide)) (pw_pos _ (by decide))
theorem V_left (c:Nat) (s k:Int) (hs:-400≤s) (hk:-1200≤k):V c 0 s=c*10 ^ s.toNat*2 ^ (-k).toNat*fac s k:=by
  show V c 0 s=c*pw 10 s.toNat*pw 2 (-k).toNat*fac s k
  unfold V fac
  rw [show ((0:Int)+1200).toNat=(-k).toNat+(1200 - (-k).toNat) from by omega,show (s+400).toNat=s.toNat+(400 - (-s).toNat) from by omega,pw_add,pw_add]
  generalize pw 2 (-k).toNat=a1
  generalize pw 2 (1200 - (-k).toNat)=a2
  generalize pw 10 s.toNat=a3
  generalize pw 10 (400 - (-s).toNat)=a4
  grind
theorem V_right (l:Nat) (s k:Int) (hs:-400≤s) (hk:-1200≤k):V l k 0=l*10 ^ (-s).toNat*2 ^ k.toNat*fac s k:=by
  show V l k 0=l*pw 10 (-s).toNat*pw 2 k.toNat*fac s k
  unfold V fac
  rw [show ((0:Int)+400).toNat=(-s).toNat+(400 - (-s).toNat) from by omega,show (k+1200).toNat=k.toNat+(1200 - (-k).toNat) from by omega,pw_add,pw_add]
  generalize pw 2 k.toNat=a1
  generalize pw 2 (1200 - (-k).toNat)=a2
  generalize pw 10 (-s).toNat=a3
  generalize pw 10 (400 - (-s).toNat)=a4
  grind
theorem cmpN_mul (a b F:Nat) (hF:0 < F):cmpN (a*F) (b*F)=cmpN a b:=by
  rcases Nat.lt_trichotomy a b with h | h | h
  · rw [cmpN_lt h,cmpN_lt (Nat.mul_lt_mul_of_pos_right h hF)]
  · rw [cmpN_eq h,cmpN_eq (by rw [h])]
  · rw [cmpN_gt h,cmpN_gt (Nat.mul_lt_mul_of_pos_right h hF)]
theorem AG_V (c l:Nat) (s k:Int) (hs:-400≤s) (hk:-1200≤k):AG c s l k=cmpN (V c 0 s) (V l k 0):=by
  rw [V_left c s k hs hk,V_right l s k hs hk,cmpN_mul _ _ _ (fac_pos s k)]
  rfl
def eL (b:Nat):Nat:=V (lowM b) (pK b - 2) 0
def eH (b:Nat):Nat:=V (4*pM b+2) (pK b - 2) 0
def eX (b:Nat):Nat:=V (pM b) (pK b) 0
theorem eX_four (b:Nat):eX b=V (4*pM b) (pK b - 2) 0:=by
  have h:=pK_low b
  have:=V_two (pM b) 2 (pK b - 2) 0 (by omega)
  rw [show pK b - 2+((2:Nat):Int)=pK b from by omega,show pM b*2 ^ 2=4*pM b from by omega] at this
  exact this.symm
theorem V_lt {x y:Nat} (e p:Int) (h:x < y):V x e p < V y e p:=by
  rcases Nat.lt_or_ge (V x e p) (V y e p) with g | g
  · exact g
  · have:=(V_mono e p).1 g;omega
theorem e_order (b:Nat) (hb:1≤b):eL b < eX b∧eX b < eH b:=by
  have h:=pM_pos b hb
  rw [eX_four]
  unfold eL eH
  refine ⟨V_lt _ _ ?_,V_lt _ _ (by omega)⟩
  unfold lowM
  split <;> omega
def In (b v:Nat) (s:Int):Prop:=eL b≤V v 0 s∧V v 0 s≤eH b∧(pM b % 2=1→eL b < V v 0 s∧V v 0 s < eH b)
theorem side_in (b v:Nat) (s:Int) (hs:-400≤s):SideN b v s=0 ↔ In b v s:=by
  have h:=pK_low b
  unfold SideN In
  rw [AG_V _ _ _ _ hs (by omega),AG_V _ _ _ _ hs (by omega)]
  show (if cmpN (V v 0 s) (eL b) < 0∨cmpN (V v 0 s) (eL b)=0∧pM b % 2=1 then (-1:Int) else if 0 < cmpN (V v 0 s) (eH b)∨cmpN (V v 0 s) (eH b)=0∧pM b % 2=1 then 1 else 0)=0 ↔ _
  generalize V v 0 s=w
  generalize eL b=L
  generalize eH b=H
  generalize pM b=m
  have tri:∀ x y:Nat,cmpN x y=-1∧x < y∨cmpN x y=0∧x=y∨cmpN x y=1∧y < x:=fun x y=>by
    rcases Nat.lt_trichotomy x y with h | h | h
    · exact Or.inl ⟨cmpN_lt h,h⟩
    · exact Or.inr (Or.inl ⟨cmpN_eq h,h⟩)
    · exact Or.inr (Or.inr ⟨cmpN_gt h,h⟩)
  have t1:=tri w L
  have t2:=tri w H
  generalize cmpN w L=z1 at *
  generalize cmpN w H=z2 at *
  constructor
  · intro h
    by_cases c1:z1 < 0∨z1=0∧m % 2=1
    · rw [if_pos c1] at h
      exact absurd h (by decide)
    · rw [if_neg c1] at h
      by_cases c2:0 < z2∨z2=0∧m % 2=1
      · rw [if_pos c2] at h
        exact absurd h (by decide)
      · exact ⟨by omega,by omega,fun ho=>⟨by omega,by omega⟩⟩
  · rintro ⟨h1,h2,h3⟩
    rw [if_neg (by omega),if_neg (by omega)]
theorem q_V (b:Nat) (s:Int) (hs:-400≤s):V (qN b s) 0 s≤eX b∧eX b < V (qN b s+1) 0 s∧hN b s=cmpN (2*eX b) (V (2*qN b s+1) 0 s):=by
  have h:=pK_low b
  have hF:=fac_pos s (pK b)
  have e1:∀ c,V c 0 s=c*rY b s*fac s (pK b):=fun c=>by
    rw [V_left c s (pK b) hs (by omega)]
    unfold rY
    rw [Nat.one_mul,Nat.mul_assoc c,Nat.mul_comm (10 ^ s.toNat)]
  have e2:eX b=rX b s*fac s (pK b):=by
    unfold eX
    rw [V_right (pM b) s (pK b) hs (by omega)]
    unfold rX
    rw [Nat.mul_right_comm (pM b)]
  have hy:=rY_pos b s
  have hd:=Nat.div_add_mod (rX b s) (rY b s)
  have hm:=Nat.mod_lt (rX b s) hy
  rw [e1,e1,e1,e2]
  unfold hN
  have eq:rX b s / rY b s=qN b s:=rfl
  rw [eq] at hd
  generalize qN b s=q at *
  generalize rX b s % rY b s=r at *
  generalize rX b s=x at *
  generalize rY b s=y at *
  generalize fac s (pK b)=F at *
  rw [Nat.mul_comm y q] at hd
  refine ⟨Nat.mul_le_mul_right _ (by omega),Nat.mul_lt_mul_of_pos_right (by rw [Nat.add_mul,Nat.one_mul];omega) hF,?_⟩
  rw [← Nat.mul_assoc 2 x F,cmpN_mul _ _ _ hF,← hd,Nat.mul_add,Nat.add_mul,Nat.one_mul,Nat.mul_assoc 2 q y]
  generalize q*y=z
  unfold cmpN
  rcases Nat.lt_trichotomy (r*2) y with g | g | g
  · rw [if_pos g,if_pos (by omega)]
  · rw [if_neg (by omega),if_neg (by omega),if_neg (by omega),if_neg (by omega)]
  · rw [if_neg (by omega),if_pos g,if_neg (by omega),if_pos (by omega)]
theorem in_tens (b v:Nat) (s:Int) (j:Nat) (hs:-400≤s):In b v (s+j) ↔ In b (v*10 ^ j) s:=by
  induction j generalizing v with
  | zero=>rw [Nat.pow_zero,Nat.mul_one,show s+((0:Nat):Int)=s from by omega]
  | succ j ih =>
    have e:In b v (s+((j+1:Nat):Int)) ↔ In b (v*10) (s+(j:Int)):=by
      unfold In
      rw [V_ten v 0 (s+(j:Int)) (by omega),show s+((j+1:Nat):Int)=s+(j:Int)+1 from by omega]
    rw [e,ih (v*10),Nat.mul_assoc,Nat.pow_succ,Nat.mul_comm 10]
theorem okD_ex (b:Nat) (s:Int) (hb:1≤b) (hs:-400≤s):okD b s ↔ ∃ v,In b v s:=by
  unfold okD
  rw [side_in _ _ _ hs,side_in _ _ _ hs]
  constructor
  · rintro (h | h)
    · exact ⟨_,h⟩
    · exact ⟨_,h⟩
  · rintro ⟨v,h1,h2,h3⟩
    obtain ⟨o1,o2⟩:=e_order b hb
    obtain ⟨q1,q2,_⟩:=q_V b s hs
    rcases Nat.lt_or_ge (qN b s) v with g | g
    · have k:=(V_mono (x:=qN b s+1) (y:=v) 0 s).2 g
      exact Or.inr ⟨by omega,by omega,fun ho=>by have:=h3 ho;omega⟩
    · have k:=(V_mono (x:=v) (y:=qN b s) 0 s).2 g
      exact Or.inl ⟨by omega,by omega,fun ho=>by have:=h3 ho;omega⟩
theorem cD_in (b:Nat) (s:Int) (hs:-400≤s) (h:okD b s):In b (cD b s) s:=by
  unfold cD
  unfold okD at h
  split
  · rename_i g
    refine (side_in _ _ _ hs).1 ?_
    rcases g with g | g
    · rcases h with k | k
      · exact absurd k g
      · exact k
    · exact g.1
  · rename_i g
    refine (side_in _ _ _ hs).1 ?_
    by_cases k:SideN b (qN b s) s=0
    · exact k
    · exact absurd (Or.inl k) g
theorem in_one (b u v:Nat) (s:Int) (hw:eH b < eL b+V 1 0 s) (hu:In b u s) (hv:In b v s):u=v:=by
  have k:∀ x,V x 0 s=x*V 1 0 s:=fun x=>by have:=V_mul x 1 0 s;rwa [Nat.mul_one] at this
  have a1:=hu.1
  have a2:=hu.2.1
  have b1:=hv.1
  have b2:=hv.2.1
  rw [k] at a1 a2 b1 b2
  generalize V 1 0 s=T at *
  rcases Nat.lt_trichotomy u v with g | g | g
  · have:(u+1)*T≤v*T:=Nat.mul_le_mul_right _ g
    rw [Nat.add_mul,Nat.one_mul] at this
    omega
  · exact g
  · have:(v+1)*T≤u*T:=Nat.mul_le_mul_right _ g
    rw [Nat.add_mul,Nat.one_mul] at this
    omega
theorem sd_In (b:Nat) (h0:1≤b) (h1:b < 9218868437227405312):In b (sd b).1 (sd b).2:=by
  obtain ⟨a1,a2,a3,a4⟩:=sd_in b h0 h1
  rw [← pM_mOf,← pK_xOf] at a1 a2 a3 a4
  have hk:=pK_low b
  have hp:=pM_pos b h0
  have e1:V (2*pM b - 1) (pK b - 1) 0=V (4*pM b - 2) (pK b - 2) 0:=by
    have:=V_two (2*pM b - 1) 1 (pK b - 2) 0 (by omega)
    rw [show pK b - 2+((1:Nat):Int)=pK b - 1 from by omega,show (2*pM b - 1)*2 ^ 1=4*pM b - 2 from by omega] at this
    exact this.symm
  have e2:V (2*pM b+1) (pK b - 1) 0=eH b:=by
    have:=V_two (2*pM b+1) 1 (pK b - 2) 0 (by omega)
    rw [show pK b - 2+((1:Nat):Int)=pK b - 1 from by omega,show (2*pM b+1)*2 ^ 1=4*pM b+2 from by omega] at this
    exact this.symm
  rw [e1,e2] at a3
  rw [e1] at a1
  rw [e2] at a2
  unfold In eL lowM
  by_cases hc:pM b=4503599627370496∧1 < b / 4503599627370496
  · rw [if_pos hc]
    refine ⟨a4 hc.1 (by unfold pK;rw [if_neg (by omega)];omega),a2,fun ho=>?_⟩
    rw [hc.1] at ho
    exact absurd ho (by decide)
  · rw [if_neg hc]
    exact ⟨a1,a2,fun ho=>by have:=a3 ho;omega⟩
end Go.Proofs.YtibahfopmjiffaaGreatDoor.Rl
/- THE DIGITS THAT THE LIBRARY PRINTS ARE THE DOCUMENT'S: the library's own choice. Own work of the verifier. -/
namespace Go.Proofs.YtibahfopmjiffaaGreatDoor.Rl
open Soft
theorem V_add (x y:Nat) (e p:Int):V (x+y) e p=V x e p+V y e p:=by
  unfold V
  rw [Nat.add_mul,Nat.add_mul]
theorem cmp2 (l y:Nat) (e p:Int) (hy:6≤y) (hl:1≤l) (hx:l*2 ^ y < 18446744073709551616) (hs0:5≤-(e+l2 p+3)) (hs1:-(e+l2 p+3)≤63) (hp0:-348≤p) (hp1:p≤347) (he:-1200≤e) (n:Nat) :
    (2*n≤scl (l*2 ^ y) e p ↔ V (2*n) 0 (-p)≤V l (e+2+y) 0)∧(scl (l*2 ^ y) e p≤2*n ↔ V l (e+2+y) 0≤V (2*n) 0 (-p)):=by
  have h64:l*2 ^ y=64*(l*2 ^ (y - 6)):=by
    rw [show (2:Nat) ^ y=2 ^ (y - 6)*2 ^ 6 from by rw [← Nat.pow_add];congr 1;omega]
    rw [show (2:Nat) ^ 6=64 from rfl,← Nat.mul_assoc,Nat.mul_comm]
  have hT:0 < 2 ^ (y - 6):=Nat.pow_pos (by decide)
  have hlT:0 < l*2 ^ (y - 6):=Nat.mul_pos hl hT
  have k:=scl_un (l*2 ^ (y - 6)) e p hlT (by omega) hs0 hs1 hp0 hp1 he n
  rw [← h64] at k
  have m1:=V_le_mv (l*2 ^ y) (2*n) e p (-2) 0 2 (-p) he (by omega) (by decide) (by decide) (by omega) (by omega) (by decide) (by omega)
  have m2:=V_le_mv (2*n) (l*2 ^ y) (-2) 0 e p 2 (-p) (by decide) (by decide) he (by omega) (by decide) (by omega) (by omega) (by omega)
  rw [show p+-p=0 from by omega,show (-2:Int)+2=0 from by decide,show (0:Int)+-p=-p from by omega,V_two l y (e+2) 0 (by omega)] at m1 m2
  exact ⟨k.1.trans m2.symm,k.2.trans m1.symm⟩
structure Chs (b y:Nat) (e p:Int):Prop where
  eq:sd b=pick (4*pM b*2 ^ y) (lowM b*2 ^ y) ((4*pM b+2)*2 ^ y) (pM b % 2) e p
  ey:e+2+(y:Int)=pK b
  ok:okE e p=true
  s0:5≤-(e+l2 p+3)
  s1:-(e+l2 p+3)≤63
  he:-1200≤e
  hy:6≤y
  lo:4611686018427387904≤lowM b*2 ^ y
  hi:(4*pM b+2)*2 ^ y < 18446744073709551616
  w1:V 1 0 (-p)+eL b≤eH b
  w2:eH b < eL b+V 10 0 (-p)
  w3:eX b < V 100000000000000000 0 (-p)
  w4:10≤pM b∨p=324∧pK b=-1074
def widN (K:Int):Bool:=decide (V 1 0 (l10 K)≤V 4 (K - 2) 0) && decide (V 4 (K - 2) 0 < V 10 0 (l10 K))
theorem widN_ok:(List.range 2046).all (fun i=>widN ((i:Int) - 1074))=true:=by decide +kernel
theorem wid_norm (K:Int) (h0:-1074≤K) (h1:K≤971):V 1 0 (l10 K)≤V 4 (K - 2) 0∧V 4 (K - 2) 0 < V 10 0 (l10 K):=by
  have:=List.all_eq_true.1 widN_ok (K+1074).toNat (List.mem_range.2 (by omega))
  rw [show (((K+1074).toNat:Nat):Int) - 1074=K from by omega] at this
  unfold widN at this
  rw [Bool.and_eq_true,decide_eq_true_eq,decide_eq_true_eq] at this
  exact this
def widT (K:Int):Bool:=decide (V 1 0 (skw K)≤V 3 (K - 2) 0) && decide (V 3 (K - 2) 0 < V 10 0 (skw K)) && decide (5≤-(K - 11+l2 (-(skw K))+3)) && decide (-(K - 11+l2 (-(skw K))+3)≤63)
theorem widT_ok:(List.range 2045).all (fun i=>widT ((i:Int) - 1073))=true:=by decide +kernel
theorem wid_two (K:Int) (h0:-1073≤K) (h1:K≤971):V 1 0 (skw K)≤V 3 (K - 2) 0∧V 3 (K - 2) 0 < V 10 0 (skw K)∧5≤-(K - 11+l2 (-(skw K))+3)∧-(K - 11+l2 (-(skw K))+3)≤63:=by
  have:=List.all_eq_true.1 widT_ok (K+1073).toNat (List.mem_range.2 (by omega))
  rw [show (((K+1073).toNat:Nat):Int) - 1073=K from by omega] at this
  unfold widT at this
  rw [Bool.and_eq_true,Bool.and_eq_true,Bool.and_eq_true,decide_eq_true_eq,decide_eq_true_eq,decide_eq_true_eq,decide_eq_true_eq] at this
  exact ⟨this.1.1.1,this.1.1.2,this.1.2,this.2⟩
theorem wide4 (b:Nat) (p:Int) (hb:1≤b) (hl:lowM b=4*pM b - 2) (h1:V 1 0 (-p)≤V 4 (pK b - 2) 0) (h2:V 4 (pK b - 2) 0 < V 10 0 (-p)) :
    V 1 0 (-p)+eL b≤eH b∧eH b < eL b+V 10 0 (-p)∧eX b < V 100000000000000000 0 (-p):=by
  have hM:=pM_pos b hb
  have hM1:=pM_lt b
  have e1:eH b=eL b+V 4 (pK b - 2) 0:=by
    unfold eH eL
    rw [← V_add,hl,show 4*pM b - 2+4=4*pM b+2 from by omega]
  have e2:eX b=pM b*V 4 (pK b - 2) 0:=by
    rw [eX_four,← V_mul,Nat.mul_comm 4]
  refine ⟨by omega,by omega,?_⟩
  rw [e2]
  have a1:pM b*V 4 (pK b - 2) 0 < pM b*V 10 0 (-p):=Nat.mul_lt_mul_of_pos_left h2 hM
  rw [← V_mul (pM b) 10] at a1
  exact Nat.lt_of_lt_of_le a1 ((V_mono _ _).2 (by omega))
theorem wide3 (b:Nat) (p:Int) (hM:pM b=4503599627370496) (hl:lowM b=4*pM b - 1) (h1:V 1 0 (-p)≤V 3 (pK b - 2) 0) (h2:V 3 (pK b - 2) 0 < V 10 0 (-p)) :
    V 1 0 (-p)+eL b≤eH b∧eH b < eL b+V 10 0 (-p)∧eX b < V 100000000000000000 0 (-p):=by
  have e1:eH b=eL b+V 3 (pK b - 2) 0:=by
    unfold eH eL
    rw [← V_add,hl,show 4*pM b - 1+3=4*pM b+2 from by omega]
  refine ⟨by omega,by omega,?_⟩
  rw [eX_four]
  have a0:V (4*pM b) (pK b - 2) 0≤V (6004799503160662*3) (pK b - 2) 0:=(V_mono _ _).2 (by omega)
  rw [V_mul 6004799503160662 3] at a0
  have a1:6004799503160662*V 3 (pK b - 2) 0 < 6004799503160662*V 10 0 (-p):=Nat.mul_lt_mul_of_pos_left h2 (by decide)
  rw [← V_mul 6004799503160662 10] at a1
  exact Nat.lt_of_le_of_lt a0 (Nat.lt_of_lt_of_le a1 ((V_mono _ _).2 (by decide)))
theorem chs (b:Nat) (h0:1≤b) (h1:b < 9218868437227405312):∃ (y:Nat) (e p:Int),Chs b y e p:=by
  by_cases h:b < 4503599627370496
  · obtain ⟨z,hz,hz',z0,z1,z2,z3,_,z5⟩:=sub_bits b h0 h
    have eM:pM b=b:=by unfold pM;rw [if_pos (by omega)]
    have eK:pK b=-1074:=by unfold pK;rw [if_pos (by omega)]
    have eLo:lowM b=4*b - 2:=by unfold lowM;rw [if_neg (by omega),eM]
    have ez:2 ^ z=4*2 ^ (z - 2):=by
      rw [show 4*2 ^ (z - 2)=2 ^ (z - 2)*2 ^ 2 from by omega,← Nat.pow_add];congr 1;omega
    have ez1:2 ^ (z - 1)=2*2 ^ (z - 2):=by
      rw [show 2*2 ^ (z - 2)=2 ^ (z - 2)*2 ^ 1 from by omega,← Nat.pow_add];congr 1;omega
    have hg:2 ^ (z - 2)≤2 ^ 61:=Nat.pow_le_pow_right (by decide) (by omega)
    have h61:(2:Nat) ^ 61=2305843009213693952:=by decide
    have w:=wide4 b 324 h0 (by rw [eLo,eM]) (by have:=(wid_norm (-1074) (by decide) (by decide)).1;rw [eK];exact this) (by have:=(wid_norm (-1074) (by decide) (by decide)).2;rw [eK];exact this)
    have a1:4*b*2 ^ (z - 2)=b*2 ^ z:=by rw [ez];generalize 2 ^ (z - 2)=T;grind
    have a2:(4*b - 2)*2 ^ (z - 2)=b*2 ^ z - 2 ^ (z - 1):=by rw [Nat.sub_mul,a1,ez1]
    have a3:(4*b+2)*2 ^ (z - 2)=b*2 ^ z+2 ^ (z - 1):=by rw [Nat.add_mul,a1,ez1]
    obtain ⟨s0,s1⟩:=s_sub (-1074 - (z:Int)) (by omega) (by omega)
    refine ⟨z - 2,-1074 - (z:Int),324,?_,by rw [eK];omega,ok_sub _ (by omega) (by omega),s0,s1,by omega,by omega,?_,?_,w.1,w.2.1,w.2.2,?_⟩
    · rw [sd_low b h,hz,short_low b z z0,eM,eLo,a1,a2,a3]
      rfl
    · rw [eLo,a2];omega
    · rw [eM,a3];exact z5
    · exact Or.inr ⟨rfl,eK⟩
  · have eM:pM b=b % 4503599627370496+4503599627370496:=by unfold pM;rw [if_neg (by omega)]
    have eK:pK b=(b / 4503599627370496:Nat) - 1075:=by unfold pK;rw [if_neg (by omega)]
    have hq:b / 4503599627370496 < 2047:=by omega
    have hq1:1≤b / 4503599627370496:=by omega
    have hr:b % 4503599627370496 < 4503599627370496:=Nat.mod_lt _ (by decide)
    have hs:=sd_norm b (by omega) h1
    have hLo:lowM b=if b % 4503599627370496=0∧1 < b / 4503599627370496 then 4*pM b - 1 else 4*pM b - 2:=by
      unfold lowM
      rw [eM]
      by_cases c:b % 4503599627370496=0∧1 < b / 4503599627370496
      · rw [if_pos c,if_pos ⟨by omega,c.2⟩]
      · rw [if_neg c,if_neg (by omega)]
    generalize b / 4503599627370496=q at *
    generalize b % 4503599627370496=r at *
    have e9:(2:Nat) ^ 9=512:=by decide
    by_cases hn:r=0∧1 < q
    · rw [if_pos hn] at hLo
      obtain ⟨rfl,hn2⟩:=hn
      have eM':pM b=4503599627370496:=by rw [eM]
      obtain ⟨v1,v2,v3,v4⟩:=wid_two (pK b) (by omega) (by omega)
      have w:=wide3 b (-(skw (pK b))) eM' hLo (by rw [Int.neg_neg];exact v1) (by rw [Int.neg_neg];exact v2)
      have ek:=(ok_norm (pK b - 11) (by omega) (by omega)).2
      rw [show pK b - 11+11=pK b from by omega] at ek
      refine ⟨9,pK b - 11,-(skw (pK b)),?_,by omega,ek,v3,v4,by omega,by decide,?_,?_,w.1,w.2.1,w.2.2,Or.inl (by omega)⟩
      · rw [hs,hLo,eM',e9,show ((q:Nat):Int) - 1086=pK b - 11 from by omega]
        unfold shortF
        rw [if_pos ⟨by decide,by omega⟩,show pK b - 11+11=pK b from by omega]
      · rw [hLo,eM',e9];decide
      · rw [eM',e9];decide
    · rw [if_neg hn] at hLo
      obtain ⟨v1,v2⟩:=wid_norm (pK b) (by omega) (by omega)
      have w:=wide4 b (-(l10 (pK b))) h0 hLo (by rw [Int.neg_neg];exact v1) (by rw [Int.neg_neg];exact v2)
      have ek:=(ok_norm (pK b - 11) (by omega) (by omega)).1
      obtain ⟨s0,s1⟩:=s_norm (pK b - 11) (by omega) (by omega)
      rw [show pK b - 11+11=pK b from by omega] at ek s0 s1
      refine ⟨9,pK b - 11,-(l10 (pK b)),?_,by omega,ek,s0,s1,by omega,by decide,?_,?_,w.1,w.2.1,w.2.2,Or.inl (by omega)⟩
      · rw [hs,show 4503599627370496+r=pM b from by omega,show ((q:Nat):Int) - 1086=pK b - 11 from by omega,short_norm (pM b) (pK b - 11) (by omega) (by omega),hLo,e9,show pK b - 11+11=pK b from by omega,
          show 4*pM b*512=pM b*2048 from by omega,show (4*pM b - 2)*512=pM b*2048 - 1024 from by omega,show (4*pM b+2)*512=pM b*2048+1024 from by omega]
      · rw [hLo,e9];omega
      · rw [e9];omega
theorem chs_in {b y:Nat} {e p:Int} (h:Chs b y e p) (hb:1≤b) (v:Nat) :
    In b v (-p) ↔ dLow (scl (lowM b*2 ^ y) e p) (pM b % 2)≤v∧v≤dHigh (scl ((4*pM b+2)*2 ^ y) e p) (pM b % 2):=by
  have hE:=h.ok
  unfold okE at hE
  simp only [Bool.and_eq_true,decide_eq_true_eq] at hE
  obtain ⟨⟨⟨_,_⟩,hp0⟩,hp1⟩:=hE
  have hk:=pK_low b
  have hM:=pM_pos b hb
  have hl:1≤lowM b∧lowM b≤4*pM b+2:=by unfold lowM;split <;> omega
  have hmul:lowM b*2 ^ y≤(4*pM b+2)*2 ^ y:=Nat.mul_le_mul_right _ hl.2
  have h1:=h.lo
  have h2:=h.hi
  obtain ⟨u1,u2⟩:=scl_between (lowM b*2 ^ y) e p h1 (by omega) h.ok
  obtain ⟨u3,u4⟩:=scl_between ((4*pM b+2)*2 ^ y) e p (by omega) h2 h.ok
  have c1:=cmp2 (lowM b) y e p h.hy hl.1 (by omega) h.s0 h.s1 hp0 hp1 h.he (2*v)
  have c2:=cmp2 (4*pM b+2) y e p h.hy (by omega) h2 h.s0 h.s1 hp0 hp1 h.he (2*v)
  have e1:∀ l,V l (e+2+y) 0=4*V l (pK b - 2) 0:=fun l=>by
    rw [h.ey,← V_mul]
    have:=V_two l 2 (pK b - 2) 0 (by omega)
    rw [show pK b - 2+((2:Nat):Int)=pK b from by omega,show l*2 ^ 2=4*l from by omega] at this
    exact this.symm
  have e2:V (2*(2*v)) 0 (-p)=4*V v 0 (-p):=by rw [← V_mul];congr 1;omega
  rw [e1,e2] at c1 c2
  rw [dLow_small _ _ (by omega) (by omega),dHigh_small _ _ (by omega) (by omega) (by omega)]
  unfold In eL eH
  generalize scl (lowM b*2 ^ y) e p=U1 at *
  generalize scl ((4*pM b+2)*2 ^ y) e p=U3 at *
  generalize V (lowM b) (pK b - 2) 0=L at *
  generalize V (4*pM b+2) (pK b - 2) 0=H at *
  generalize V v 0 (-p)=w at *
  have ho:pM b % 2=0∨pM b % 2=1:=by omega
  obtain ⟨c11,c12⟩:=c1
  obtain ⟨c21,c22⟩:=c2
  rcases ho with ho | ho
  · rw [ho]
    constructor
    · rintro ⟨a,c,_⟩
      have:=c12.2 (by omega)
      have:=c21.2 (by omega)
      omega
    · rintro ⟨a,c⟩
      have:=c12.1 (by omega)
      have:=c21.1 (by omega)
      exact ⟨by omega,by omega,fun k=>by omega⟩
  · rw [ho]
    constructor
    · rintro ⟨a,c,d⟩
      have d':=d rfl
      have f1:¬ 2*(2*v)≤U1:=fun g=>by have:=c11.1 g;omega
      have f2:¬ U3≤2*(2*v):=fun g=>by have:=c22.1 g;omega
      omega
    · rintro ⟨a,c⟩
      have f1:¬ 4*w≤4*L:=fun g=>by have:=c11.2 g;omega
      have f2:¬ 4*H≤4*w:=fun g=>by have:=c22.2 g;omega
      exact ⟨by omega,by omega,fun _=>by omega⟩
theorem chs_mid {b y:Nat} {e p:Int} (h:Chs b y e p) (hb:1≤b) :
    dMid (scl (4*pM b*2 ^ y) e p)=if 0 < hN b (-p)∨hN b (-p)=0∧qN b (-p) % 2=1 then qN b (-p)+1 else qN b (-p):=by
  have hE:=h.ok
  unfold okE at hE
  simp only [Bool.and_eq_true,decide_eq_true_eq] at hE
  obtain ⟨⟨⟨_,_⟩,hp0⟩,hp1⟩:=hE
  have hk:=pK_low b
  have hM:=pM_pos b hb
  have hl:lowM b≤4*pM b:=by unfold lowM;split <;> omega
  have hm1:lowM b*2 ^ y≤4*pM b*2 ^ y:=Nat.mul_le_mul_right _ hl
  have hm2:4*pM b*2 ^ y≤(4*pM b+2)*2 ^ y:=Nat.mul_le_mul_right _ (by omega)
  have h1:=h.lo
  have h2:=h.hi
  obtain ⟨u1,u2⟩:=scl_between (4*pM b*2 ^ y) e p (by omega) (by omega) h.ok
  obtain ⟨q1,q2,q3⟩:=q_V b (-p) (by omega)
  have c:∀ n,_:=fun n=>cmp2 (4*pM b) y e p h.hy (by omega) (by omega) h.s0 h.s1 hp0 hp1 h.he n
  have e1:V (4*pM b) (e+2+y) 0=4*eX b:=by rw [h.ey,V_mul];rfl
  rw [e1] at c
  have c1:=c (2*qN b (-p))
  have c2:=c (2*(qN b (-p)+1))
  have c3:=c (2*qN b (-p)+1)
  rw [show V (2*(2*qN b (-p))) 0 (-p)=4*V (qN b (-p)) 0 (-p) from by rw [← V_mul];congr 1;omega] at c1
  rw [show V (2*(2*(qN b (-p)+1))) 0 (-p)=4*V (qN b (-p)+1) 0 (-p) from by rw [← V_mul];congr 1;omega] at c2
  rw [V_mul 2 (2*qN b (-p)+1)] at c3
  rw [dMid_small _ (by omega),q3]
  generalize scl (4*pM b*2 ^ y) e p=U at *
  generalize V (qN b (-p)) 0 (-p)=z1 at *
  generalize V (qN b (-p)+1) 0 (-p)=z2 at *
  generalize V (2*qN b (-p)+1) 0 (-p)=z3 at *
  generalize qN b (-p)=q at *
  generalize eX b=x at *
  have r1:=c1.1.2 (by omega)
  have r2:¬ 2*(2*(q+1))≤U:=fun g=>by have:=c2.1.1 g;omega
  have r3:U / 4=q:=by omega
  rw [r3]
  rcases Nat.lt_trichotomy (2*x) z3 with g | g | g
  · rw [cmpN_lt g,if_neg (by omega)]
    have:¬ 2*(2*q+1)≤U:=fun k=>by have:=c3.1.1 k;omega
    omega
  · rw [cmpN_eq g]
    have k1:=c3.1.2 (by omega)
    have k2:=c3.2.2 (by omega)
    split <;> omega
  · rw [cmpN_gt g,if_pos (Or.inl (by decide))]
    have:¬ U≤2*(2*q+1):=fun k=>by have:=c3.2.1 k;omega
    omega
end Go.Proofs.YtibahfopmjiffaaGreatDoor.Rl
/- THE DIGITS THAT THE LIBRARY PRINTS ARE THE DOCUMENT'S. Own work of the verifier. -/
namespace Go.Proofs.YtibahfopmjiffaaGreatDoor.Rl
open Soft
theorem V_tensN (x:Nat) (e p:Int) (j:Nat) (hp:-400≤p):V x e (p+j)=V (x*10 ^ j) e p:=by
  induction j generalizing x with
  | zero=>rw [Nat.pow_zero,Nat.mul_one,show p+((0:Nat):Int)=p from by omega]
  | succ j ih=>rw [show p+((j+1:Nat):Int)=p+(j:Int)+1 from by omega,← V_ten x e (p+(j:Int)) (by omega),ih (x*10),Nat.mul_assoc,Nat.pow_succ,Nat.mul_comm 10]
theorem tens_mono {a b:Int} (h0:-400≤a) (h:a≤b):V 1 0 a≤V 1 0 b:=by
  obtain ⟨j,rfl⟩:∃ j:Nat,b=a+j:=⟨(b - a).toNat,by omega⟩
  rw [V_tensN 1 0 a j h0]
  exact (V_mono _ _).2 (by rw [Nat.one_mul];exact Nat.pow_pos (by decide))
theorem top_V {b:Nat} {t:Int} (h:Top b t):V 1 0 t≤eX b∧eX b < V 1 0 (t+1):=by
  obtain ⟨t0,t1,t2,t3⟩:=h
  have hk:=pK_low b
  rw [AG_V _ _ _ _ t0 (by omega)] at t2
  rw [AG_V _ _ _ _ (by omega) (by omega),cmpN_pos] at t3
  refine ⟨?_,t3⟩
  rcases Nat.lt_or_ge (eX b) (V 1 0 t) with g | g
  · have:=cmpN_gt g
    unfold eX at this
    omega
  · exact g
theorem top_in {b:Nat} {t:Int} (h:Top b t) (S:Int) (n:Nat) (hS:-400≤S) (h1:V 1 0 (S+1)≤eX b) (h2:eX b < V (10 ^ n) 0 S):S+1≤t∧t < S+n:=by
  obtain ⟨v1,v2⟩:=top_V h
  have t0:=h.1
  constructor
  · rcases Int.lt_or_le t (S+1) with g | g
    · have:=tens_mono (a:=t+1) (b:=S+1) (by omega) (by omega)
      omega
    · exact g
  · rcases Int.lt_or_le t (S+n) with g | g
    · exact g
    · have:=tens_mono (a:=S+n) (b:=t) (by omega) g
      rw [V_tensN 1 0 S n hS,Nat.one_mul] at this
      omega
theorem top_from {b y:Nat} {e p:Int} (h:Chs b y e p) (hb:3≤b) (hp:p≤347):V 1 0 (-p+1)≤eX b:=by
  have hk:=pK_low b
  rcases h.w4 with g | ⟨g1,g2⟩
  · have e1:V 1 0 (-p+1)=10*V 1 0 (-p):=by
      rw [← V_ten 1 0 (-p) (by omega),Nat.one_mul]
      have:=V_mul 10 1 0 (-p)
      rwa [Nat.mul_one] at this
    have e2:eH b≤eL b+V 4 (pK b - 2) 0:=by
      unfold eH eL
      rw [← V_add]
      refine (V_mono _ _).2 ?_
      unfold lowM
      split <;> omega
    have e3:10*V 4 (pK b - 2) 0≤eX b:=by
      rw [eX_four,← V_mul]
      exact (V_mono _ _).2 (by omega)
    have:=h.w1
    omega
  · subst g1
    unfold eX
    rw [g2]
    have h3:3≤pM b:=by unfold pM;split <;> omega
    have a:V 1 0 (-324+1)≤V 3 (-1074) 0:=by decide +kernel
    exact Nat.le_trans a ((V_mono _ _).2 h3)
def SameD (b c:Nat) (e:Int):Prop:=∃ j:Nat,(sd b).1=c*10 ^ j∧c % 10≠0∧e=(sd b).2+j+(Lib.nDigits c:Int) - 1
theorem digs_main (b c : Nat) (e : Int) (h0 : 3 ≤ b) (h1 : b < 9218868437227405312) (h : DigsOf b c e) : SameD b c e := by
  obtain ⟨y, ee, p, hC⟩ := chs b (by omega) h1
  have hE := hC.ok
  unfold okE at hE
  simp only [Bool.and_eq_true, decide_eq_true_eq] at hE
  obtain ⟨⟨⟨_, _⟩, hp0⟩, hp1⟩ := hE
  have hIn := fun v => chs_in hC (by omega) v
  have hMid := chs_mid hC (by omega)
  have hsd := sd_In b (by omega) h1
  have hw2 := hC.w2
  have hw3 := hC.w3
  have hTf := top_from hC h0 hp1
  have hpk : sd b = if dLow (scl (lowM b * 2 ^ y) ee p) (pM b % 2) ≤ dHigh (scl ((4 * pM b + 2) * 2 ^ y) ee p) (pM b % 2) / 10 * 10 then (dHigh (scl ((4 * pM b + 2) * 2 ^ y) ee p) (pM b % 2) / 10, -(p - 1))
      else if dLow (scl (lowM b * 2 ^ y) ee p) (pM b % 2) < dHigh (scl ((4 * pM b + 2) * 2 ^ y) ee p) (pM b % 2) then (dMid (scl (4 * pM b * 2 ^ y) ee p), -p) else (dLow (scl (lowM b * 2 ^ y) ee p) (pM b % 2), -p) := by
    rw [hC.eq]; rfl
  generalize dLow (scl (lowM b * 2 ^ y) ee p) (pM b % 2) = D1 at *
  generalize dHigh (scl ((4 * pM b + 2) * 2 ^ y) ee p) (pM b % 2) = D3 at *
  generalize dMid (scl (4 * pM b * 2 ^ y) ee p) = D2 at *
  clear hC
  obtain ⟨S, hS⟩ : ∃ S : Int, S = -p := ⟨_, rfl⟩
  rw [show -(p - 1) = S + 1 from by omega] at hpk
  rw [← hS] at hIn hMid hw2 hw3 hTf hpk
  have hS0 : -400 ≤ S := by omega
  have hS1 : -347 ≤ S := by omega
  clear hp0 hp1 hS
  have hten : ∀ v, In b v (S + 1) ↔ In b (v * 10) S := fun v => by
    have := in_tens b v S 1 hS0
    rwa [Nat.pow_one] at this
  have hw2' : eH b < eL b + V 1 0 (S + 1) := by
    rw [← V_ten 1 0 S hS0]
    exact hw2
  have tb : ∀ t, Top b t → S + 1 ≤ t ∧ t < S + 17 := fun t hT => top_in hT S 17 hS0 hTf hw3
  have hokS : okD b S := by
    refine (okD_ex b S (by omega) hS0).2 ?_
    rcases (show (sd b).2 = S ∨ (sd b).2 = S + 1 by rw [hpk]; split; · exact Or.inr rfl
                                                    · split <;> exact Or.inl rfl) with g | g
    · rw [g] at hsd; exact ⟨_, hsd⟩
    · rw [g] at hsd; exact ⟨_, (hten _).1 hsd⟩
  rcases h with ⟨t, n, s, hT, n1, n2, hnot, hok, hStrp, hc, rfl⟩ | ⟨⟨t, hT, hnot⟩, _, _⟩
  · obtain ⟨j, ej, es⟩ := hStrp
    obtain ⟨t1, t2⟩ := tb t hT
    have i1 := cD_in b (t - n + 1) (by omega) hok
    by_cases hA : ∃ v, In b v (S + 1)
    · have hn : (n : Int) ≤ t - S := by
        rcases Int.lt_or_le (t - S) n with g | g
        · refine absurd ((okD_ex b (S + 1) (by omega) (by omega)).2 hA) ?_
          have := hnot (t - S).toNat (by omega) (by omega)
          rwa [show t - (((t - S).toNat : Nat) : Int) + 1 = S + 1 from by omega] at this
        · exact g
      obtain ⟨v, hv⟩ := hA
      have hbr : D1 ≤ D3 / 10 * 10 := by
        have := (hIn _).1 ((hten v).1 hv)
        omega
      rw [if_pos hbr] at hpk
      obtain ⟨j0, hj0⟩ : ∃ j0 : Nat, t - n + 1 = S + 1 + j0 := ⟨(t - n - S).toNat, by omega⟩
      rw [hj0] at i1 ej es
      have i2 := (in_tens b _ (S + 1) j0 (by omega)).1 i1
      have e2 : (sd b).2 = S + 1 := by rw [hpk]
      rw [e2] at hsd
      have e3 := in_one b _ _ (S + 1) hw2' i2 hsd
      refine ⟨j + j0, ?_, hc, ?_⟩
      · rw [← e3, ej, Nat.mul_assoc, ← Nat.pow_add]
      · rw [e2, es]; omega
    · have hbr : ¬ D1 ≤ D3 / 10 * 10 := fun g => hA ⟨D3 / 10, (hten _).2 ((hIn _).2 ⟨g, by omega⟩)⟩
      rw [if_neg hbr] at hpk
      have hn1 : (n : Int) ≤ t - S + 1 := by
        rcases Int.lt_or_le (t - S + 1) n with g | g
        · refine absurd hokS ?_
          have := hnot (t - S + 1).toNat (by omega) (by omega)
          rwa [show t - (((t - S + 1).toNat : Nat) : Int) + 1 = S from by omega] at this
        · exact g
      have hn2 : t - n + 1 ≤ S := by
        rcases Int.lt_or_le S (t - n + 1) with g | g
        · obtain ⟨j0, hj0⟩ : ∃ j0 : Nat, t - n + 1 = S + 1 + j0 := ⟨(t - n - S).toNat, by omega⟩
          rw [hj0] at i1
          exact absurd ⟨_, (in_tens b _ (S + 1) j0 (by omega)).1 i1⟩ hA
        · exact g
      have hs : t - n + 1 = S := by omega
      rw [hs] at i1 ej es
      have e2 : (sd b).2 = S := by rw [hpk]; split <;> rfl
      rw [e2] at hsd
      have key : (sd b).1 = cD b S := by
        by_cases hlt : D1 < D3
        · rw [if_pos hlt] at hpk
          have e1 : (sd b).1 = D2 := by rw [hpk]
          rw [e1] at hsd ⊢
          unfold cD upD
          have q0 := side_in b (qN b S) S hS0
          have q1 := side_in b (qN b S + 1) S hS0
          rw [q1]
          have ho : In b (qN b S) S ∨ In b (qN b S + 1) S := by
            rcases hokS with k | k
            · exact Or.inl (q0.1 k)
            · exact Or.inr (q1.1 k)
          by_cases r : 0 < hN b S ∨ hN b S = 0 ∧ qN b S % 2 = 1
          · rw [if_pos r] at hMid
            rw [hMid] at hsd ⊢
            rw [if_pos (Or.inr ⟨hsd, r⟩)]
          · rw [if_neg r] at hMid
            rw [hMid] at hsd ⊢
            rw [if_neg]
            rintro (k | k)
            · exact k (q0.2 hsd)
            · exact r k.2
        · rw [if_neg hlt] at hpk
          have e1 : (sd b).1 = D1 := by rw [hpk]
          have := (hIn _).1 i1
          omega
      exact ⟨j, by rw [key, ej], hc, by rw [e2, es]⟩
  · obtain ⟨t1, t2⟩ := tb t hT
    refine absurd hokS ?_
    have := hnot (t - S + 1).toNat (by omega) (by omega)
    rwa [show t - (((t - S + 1).toNat : Nat) : Int) + 1 = S from by omega] at this
theorem digs_small (b c r:Nat) (e:Int) (hX:V 1 0 (-324)≤eX b∧eX b < V 1 0 (-323)) (hok:okD b (-324)) (hr:cD b (-324)=r) (hsd:∀ c' j:Nat,r=c'*10 ^ j→c' % 10≠0→∃ i:Nat,(sd b).1=c'*10 ^ i∧(-324:Int)+j=(sd b).2+i) (h:DigsOf b c e):SameD b c e:=by
  have tb:∀ t,Top b t→t=-324:=fun t hT=>by
    obtain ⟨v1,v2⟩:=top_V hT
    have t0:=hT.1
    have a1:t < -323:=by
      rcases Int.lt_or_le t (-323) with g | g
      · exact g
      · have:=tens_mono (a:=-323) (b:=t) (by decide) g
        omega
    have a2:-324 < t+1:=by
      rcases Int.lt_or_le (-324) (t+1) with g | g
      · exact g
      · have:=tens_mono (a:=t+1) (b:=-324) (by omega) g
        omega
    omega
  rcases h with ⟨t,n,s,hT,n1,n2,hnot,hok',hStrp,hc,rfl⟩ | ⟨⟨t,hT,hnot⟩,_,_⟩
  · obtain rfl:=tb t hT
    have hn:n=1:=by
      rcases Nat.lt_or_ge 1 n with g | g
      · exact absurd hok (hnot 1 (by decide) g)
      · omega
    subst hn
    obtain ⟨j,ej,es⟩:=hStrp
    rw [show (-324:Int) - ((1:Nat):Int)+1=-324 from by decide] at ej es
    rw [hr] at ej
    obtain ⟨i,e1,e2⟩:=hsd c j ej hc
    exact ⟨i,e1,hc,by omega⟩
  · obtain rfl:=tb t hT
    exact absurd hok (hnot 1 (by decide) (by decide))
theorem one_facts:(V 1 0 (-324)≤eX 1∧eX 1 < V 1 0 (-323))∧SideN 1 (qN 1 (-324)+1) (-324)=0∧0 < hN 1 (-324)∧qN 1 (-324)=4∧sd 1=(5,-324):=by decide +kernel
theorem two_facts:(V 1 0 (-324)≤eX 2∧eX 2 < V 1 0 (-323))∧SideN 2 (qN 2 (-324)+1) (-324)=0∧0 < hN 2 (-324)∧qN 2 (-324)=9∧sd 2=(1,-323):=by decide +kernel
theorem cD_up {b:Nat} {s:Int} (h1:SideN b (qN b s+1) s=0) (h2:0 < hN b s):cD b s=qN b s+1:=by
  unfold cD
  rw [if_pos (show upD b s from Or.inr ⟨h1,Or.inl h2⟩)]
theorem digs_all (b c:Nat) (e:Int) (h0:1≤b) (h1:b < 9218868437227405312) (h:DigsOf b c e):SameD b c e:=by
  rcases Nat.lt_or_ge b 3 with g | g
  · rcases (show b=1∨b=2 by omega) with rfl | rfl
    · obtain ⟨a1,a2,a3,a4,a5⟩:=one_facts
      refine digs_small 1 c 5 e a1 (Or.inr a2) (by rw [cD_up a2 a3,a4]) (fun c' j hj hc=>⟨j,?_,?_⟩) h
      · rw [a5];exact hj
      · rw [a5]
    · obtain ⟨a1,a2,a3,a4,a5⟩:=two_facts
      refine digs_small 2 c 10 e a1 (Or.inr a2) (by rw [cD_up a2 a3,a4]) (fun c' j hj hc=>⟨0,?_,?_⟩) h
      · rw [a5]
        rcases j with _ | _ | j
        · rw [Nat.pow_zero,Nat.mul_one] at hj;omega
        · show 1=c'*10 ^ 0
          rw [Nat.pow_zero,Nat.mul_one]
          rw [show (0:Nat)+1=1 from rfl,Nat.pow_one] at hj
          omega
        · rw [Nat.pow_succ,Nat.pow_succ] at hj
          have:0 < 10 ^ j:=Nat.pow_pos (by decide)
          have:0 < c'*10 ^ j:=Nat.mul_pos (by omega) this
          rw [← Nat.mul_assoc,← Nat.mul_assoc] at hj
          omega
      · rw [a5]
        rcases j with _ | _ | j
        · rw [Nat.pow_zero,Nat.mul_one] at hj;omega
        · rfl
        · rw [Nat.pow_succ,Nat.pow_succ] at hj
          have:0 < 10 ^ j:=Nat.pow_pos (by decide)
          have:0 < c'*10 ^ j:=Nat.mul_pos (by omega) this
          rw [← Nat.mul_assoc,← Nat.mul_assoc] at hj
          omega
  · exact digs_main b c e g h1 h
end Go.Proofs.YtibahfopmjiffaaGreatDoor.Rl
