/- THE PLAIN MATHEMATICS of floats that are added by whole numbers (no Go in sight). Own work of the verifier. -/
import Derived.Laws.FloatArith
import Derived.Test.YtlgkfeeclgcgbaaGreatDoorZAA
namespace Go.Proofs.YtlgkfeeclgcgbaaGreatDoor.Soft
def rne (N j:Nat):Nat:=N / 2 ^ j+(if 2 ^ j < 2*(N % 2 ^ j)∨2 ^ j=2*(N % 2 ^ j)∧N / 2 ^ j % 2=1 then 1 else 0)
theorem pow_pos' (j:Nat):0 < 2 ^ j:=Nat.pow_pos (by decide)
def nrung (N:Nat):Nat:=if N < 9007199254740992 then N else min ((N.log2 - 52)*4503599627370496+rne N (N.log2 - 52)) 9218868437227405312
theorem cut_even (neg:Bool) (n d:Nat):Ieee.Toward.even.cut neg n d=rne n d:=by
 unfold Ieee.Toward.cut rne
 simp only [Nat.one_shiftLeft]
 by_cases h:d≤n.log2+2
 ·rw [Nat.min_eq_left h]
  congr 1
  by_cases c:2 ^ d < 2*(n % 2 ^ d)∨2 ^ d=2*(n % 2 ^ d)∧n / 2 ^ d % 2=1
  ·rw [if_pos c]
   have:(decide (2 ^ d < 2*(n % 2 ^ d)) || (2 ^ d == 2*(n % 2 ^ d) && n / 2 ^ d % 2 == 1))=true:=by simpa using c
   rw [this];rfl
  ·rw [if_neg c]
   have:(decide (2 ^ d < 2*(n % 2 ^ d)) || (2 ^ d == 2*(n % 2 ^ d) && n / 2 ^ d % 2 == 1))=false:=by
    rw [Bool.eq_false_iff];intro k;exact c (by simpa using k)
   rw [this];rfl
 ·rw [Nat.min_eq_right (by omega)]
  have hn:n < 2 ^ (n.log2+1):=Nat.lt_log2_self
  have e1:(2:Nat) ^ (n.log2+2)=2*2 ^ (n.log2+1):=by rw [Nat.pow_succ];omega
  have e2:2 ^ (n.log2+2)≤2 ^ d:=Nat.pow_le_pow_right (by decide) (by omega)
  have m1:n % 2 ^ (n.log2+2)=n:=Nat.mod_eq_of_lt (by omega)
  have m2:n % 2 ^ d=n:=Nat.mod_eq_of_lt (by omega)
  have d1:n / 2 ^ (n.log2+2)=0:=Nat.div_eq_of_lt (by omega)
  have d2:n / 2 ^ d=0:=Nat.div_eq_of_lt (by omega)
  rw [m1,m2,d1,d2]
  have c1:¬ (2 ^ d < 2*n∨2 ^ d=2*n∧0 % 2=1):=by omega
  rw [if_neg c1]
  have:(decide (2 ^ (n.log2+2) < 2*n) || (2 ^ (n.log2+2) == 2*n && (0 % 2 == 1)))=false:=by
   rw [Bool.eq_false_iff];intro k
   simp at k
   omega
  rw [this];rfl
theorem log2_mul_pow (n c:Nat) (h:n≠0):(n*2 ^ c).log2=n.log2+c:=by
 have hp:=pow_pos' c
 have h1:2 ^ n.log2≤n:=Nat.log2_self_le h
 have h2:n < 2 ^ (n.log2+1):=Nat.lt_log2_self
 have h0:n*2 ^ c≠0:=Nat.mul_ne_zero h (by omega)
 apply Nat.le_antisymm
 ·apply Nat.le_of_lt_succ
  rw [Nat.log2_lt h0,show (n.log2+c).succ=n.log2+1+c from by omega,Nat.pow_add]
  exact Nat.mul_lt_mul_of_pos_right h2 hp
 ·rw [Nat.le_log2 h0,Nat.pow_add]
  exact Nat.mul_le_mul_right _ h1
theorem rne_zero (N:Nat):rne N 0=N:=by unfold rne;simp [Nat.mod_one]
theorem rne_mul (m c d:Nat) (h:d≤c):rne (m*2 ^ c) d=m*2 ^ (c - d):=by
 have e:m*2 ^ c=2 ^ d*(m*2 ^ (c - d)):=by
  rw [Nat.mul_left_comm,← Nat.pow_add,show d+(c - d)=c from by omega]
 unfold rne
 rw [e,Nat.mul_div_cancel_left _ (pow_pos' d),Nat.mul_mod_right]
 have:=pow_pos' d
 rw [if_neg (by omega)];rfl
theorem rne_scale (m c d:Nat) (h:c≤d):rne (m*2 ^ c) d=rne m (d - c):=by
 obtain ⟨k,rfl⟩:∃ k,d=c+k:=⟨d - c,by omega⟩
 rw [show c+k - c=k from by omega]
 unfold rne
 have hp:=pow_pos' c
 have e1:m*2 ^ c / 2 ^ (c+k)=m / 2 ^ k:=by rw [Nat.add_comm,Nat.pow_add,Nat.mul_div_mul_right _ _ hp]
 have e2:m*2 ^ c % 2 ^ (c+k)=m % 2 ^ k*2 ^ c:=by rw [Nat.add_comm,Nat.pow_add,Nat.mul_mod_mul_right]
 rw [e1,e2,Nat.add_comm c k,Nat.pow_add]
 congr 1
 have c1:2 ^ k*2 ^ c < 2*(m % 2 ^ k*2 ^ c) ↔ 2 ^ k < 2*(m % 2 ^ k):=by rw [← Nat.mul_assoc];exact Nat.mul_lt_mul_right hp
 have c2:2 ^ k*2 ^ c=2*(m % 2 ^ k*2 ^ c) ↔ 2 ^ k=2*(m % 2 ^ k):=by rw [← Nat.mul_assoc];exact Nat.mul_left_inj (by omega)
 simp only [c1,c2]
theorem nearest_rung (neg:Bool) (mag c:Nat) (h:mag≠0):Ieee.double.nearest neg mag (-1074+(c:Int))=Ieee.double.word neg (nrung (mag*2 ^ c)):=by
 unfold Ieee.Format.nearest
 rw [if_neg h]
 simp only [cut_even,Nat.shiftLeft_eq]
 have f1:Ieee.double.binade=4503599627370496:=by decide
 have f2:Ieee.double.infRung=9218868437227405312:=by decide
 have f3:Ieee.double.leastPlace=-1074:=by decide
 have f4:Ieee.double.fractionBits=52:=rfl
 rw [f1,f2,f3,f4]
 congr 1
 have hN:mag*2 ^ c≠0:=Nat.mul_ne_zero h (by have:=pow_pos' c;omega)
 have hl:=log2_mul_pow mag c h
 unfold nrung
 by_cases hs:mag*2 ^ c < 9007199254740992
 ·have hlt:(mag*2 ^ c).log2 < 53:=(Nat.log2_lt hN).2 hs
  rw [if_pos hs,show max (-1074+(c:Int)+(mag.log2:Int) - ((52:Nat):Int)) (-1074)=-1074 from by omega]
  rw [show (-1074+(c:Int) - -1074).toNat=c from by omega,show (-1074 - (-1074+(c:Int))).toNat=0 from by omega,show ((-1074:Int) - -1074).toNat=0 from by decide,rne_zero]
  omega
 ·have hge:53≤(mag*2 ^ c).log2:=by rw [Nat.le_log2 hN];omega
  rw [if_neg hs,hl]
  rw [hl] at hge
  rw [show max (-1074+(c:Int)+(mag.log2:Int) - ((52:Nat):Int)) (-1074)=-1074+((mag.log2+c - 52:Nat):Int) from by omega]
  generalize hd:mag.log2+c - 52=d
  rw [show (-1074+(d:Int) - -1074).toNat=d from by omega,show (-1074+(c:Int) - (-1074+(d:Int))).toNat=c - d from by omega,show (-1074+(d:Int) - (-1074+(c:Int))).toNat=d - c from by omega]
  congr 2
  rcases Nat.le_total d c with k | k
  ·rw [show d - c=0 from by omega,rne_zero,rne_mul _ _ _ k]
  ·rw [show c - d=0 from by omega,Nat.pow_zero,Nat.mul_one,rne_scale _ _ _ k]
end Go.Proofs.YtlgkfeeclgcgbaaGreatDoor.Soft
/- THE MODEL's SUMS of floats, by whole numbers of the least units. Own work of the verifier. -/
namespace Go.Proofs.YtlgkfeeclgcgbaaGreatDoor.Soft
theorem word_sw (neg:Bool) (r:Nat):Ieee.double.word neg r=sw neg r:=by
 unfold Ieee.Format.word sw
 rw [show Ieee.double.signWeight=9223372036854775808 from by decide]
def addW (s t:Bool) (a b:Nat):Nat:=if sv s a+sv t b=0 then sw (s && t) 0 else sw (decide (sv s a+sv t b < 0)) (nrung (sv s a+sv t b).natAbs)
theorem add_fin (s t:Bool) (a b:Nat) (ha:a < 9218868437227405312) (hb:b < 9218868437227405312):Ieee.double.add (sw s a) (sw t b)=some (addW s t a b):=by
 unfold Ieee.Format.add
 rw [read_sw s a ha,read_sw t b hb]
 obtain ⟨c,h1,h2,hc⟩:∃ c:Nat,upOf a=(-1074+(upOf a:Int) - min (-1074+(upOf a:Int)) (-1074+(upOf b:Int))).toNat+c∧upOf b=(-1074+(upOf b:Int) - min (-1074+(upOf a:Int)) (-1074+(upOf b:Int))).toNat+c∧min (-1074+(upOf a:Int)) (-1074+(upOf b:Int))=-1074+(c:Int) :=
  ⟨min (upOf a) (upOf b),by omega,by omega,by omega⟩
 have e1:=sv_signed s a _ c h1
 have e2:=sv_signed t b _ c h2
 unfold Ieee.Datum.sum
 simp only
 rw [hc] at e1 e2 ⊢
 generalize Ieee.signed s (magOf a) (-1074+(upOf a:Int) - (-1074+(c:Int))).toNat=A at *
 generalize Ieee.signed t (magOf b) (-1074+(upOf b:Int) - (-1074+(c:Int))).toNat=B at *
 have hp:(0:Int) < ((2 ^ c:Nat):Int):=by have:=pow_pos' c;omega
 have eT:sv s a+sv t b=(A+B)*((2 ^ c:Nat):Int):=by rw [e1,e2,Int.add_mul]
 unfold addW
 rw [eT]
 show some (Ieee.double.write _)=_
 congr 1
 by_cases hz:A+B=0
 ·rw [if_pos hz,hz,Int.zero_mul,if_pos rfl]
  show Ieee.double.nearest _ 0 _=_
  unfold Ieee.Format.nearest
  rw [if_pos rfl,word_sw]
 ·have hz':(A+B)*((2 ^ c:Nat):Int)≠0:=Int.mul_ne_zero hz (by omega)
  rw [if_neg hz,if_neg hz']
  show Ieee.double.nearest _ (A+B).natAbs _=_
  have hn:(A+B).natAbs≠0:=by omega
  rw [nearest_rung _ _ c hn,word_sw,Int.natAbs_mul,Int.natAbs_natCast]
  congr 1
  have:(A+B < 0) ↔ ((A+B)*((2 ^ c:Nat):Int) < 0):=by
   constructor
   ·intro h;exact Int.mul_neg_of_neg_of_pos h hp
   ·intro h
    by_cases k:A+B < 0
    ·exact k
    ·have:=Int.mul_nonneg (show 0≤A+B by omega) (Int.le_of_lt hp);omega
  exact decide_eq_decide.2 this
end Go.Proofs.YtlgkfeeclgcgbaaGreatDoor.Soft
/- SUMS of floats by their words, NaNs as one. Own work of the verifier. -/
namespace Go.Proofs.YtlgkfeeclgcgbaaGreatDoor.Soft
def aNaN:Nat:=9221120237041090560
def isn (x:Nat):Bool:=decide (9218868437227405312 < x % 9223372036854775808)
def one (x:Nat):Nat:=if isn x then aNaN else x
def neg (x:Nat):Nat:=if 9223372036854775808≤x then x - 9223372036854775808 else x+9223372036854775808
def fa (x y:Nat):Nat:=(Ieee.double.add x y).getD aNaN
theorem fa_lt (x y:Nat):fa x y < 18446744073709551616:=by
 unfold fa
 cases h:Ieee.double.add x y with
 | none=>decide
 | some r=>exact Ieee.double.add_lt h
end Go.Proofs.YtlgkfeeclgcgbaaGreatDoor.Soft
