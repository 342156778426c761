/- THE ORDER of floats of 64 bits, by their words (no Go in sight). Own work of the verifier. -/
import Derived.Laws.FloatArith
import Derived.Handy
import Derived.Test.YtifapjammoahgaaGreatDoorRows
import Derived.WalkKit
import Derived.WalkSpells
import Derived.RowKit3
import Derived.Below
import Derived.Outline
import Derived.Deep.QuietTactic
import Derived.Deep.Draws
import Derived.BigQuiet
import Derived.Laws.Bits64
import Derived.Laws.BitsAllLaws
import Derived.Laws.ShiftsVarLaws
import Derived.Deep.RegionHeld3
import Derived.Deep.DeepCutAuto
import Derived.RangeFuncNested
import Derived.RangeFuncBound
import Derived.RangeFuncCalls
import Derived.RangeFuncLeaves
import Derived.Shelf.Abstract
import Derived.Shelf.RegionOpen
import Derived.OwnWalkIn
import Derived.TacticsInMore
import Derived.LoopNIn
import Derived.LoopIn
namespace Go.Proofs.YtifapjammoahgaaGreatDoor
def uV (a:Nat):Nat:=if a < 4503599627370496 then a else (4503599627370496+a % 4503599627370496)*2 ^ (a / 4503599627370496 - 1)
theorem uV_succ (a:Nat):uV a < uV (a+1):=by
  unfold uV
  by_cases h1:a+1 < 4503599627370496
  · rw [if_pos (by omega),if_pos h1];omega
  · by_cases h2:a < 4503599627370496
    · obtain rfl:a=4503599627370495:=by omega
      decide
    · rw [if_neg h2,if_neg h1]
      have hp:0 < 2 ^ (a / 4503599627370496 - 1):=Nat.pow_pos (by decide)
      by_cases h3:(a+1) % 4503599627370496=0
      · have e1:(a+1) / 4503599627370496 - 1=(a / 4503599627370496 - 1)+1:=by omega
        rw [h3,e1,Nat.pow_succ]
        have e2:a % 4503599627370496=4503599627370495:=by omega
        rw [e2]
        generalize 2 ^ (a / 4503599627370496 - 1)=p at *
        omega
      · have e1:(a+1) / 4503599627370496=a / 4503599627370496:=by omega
        have e2:(a+1) % 4503599627370496=a % 4503599627370496+1:=by omega
        rw [e1,e2]
        exact Nat.mul_lt_mul_of_pos_right (by omega) hp
theorem uV_mono {a b:Nat} (h:a < b):uV a < uV b:=by
  induction b with
  | zero=>omega
  | succ b ih =>
    rcases Nat.lt_or_eq_of_le (Nat.le_of_lt_succ h) with k | k
    · exact Nat.lt_trans (ih k) (uV_succ b)
    · rw [k];exact uV_succ b
def magOf (a:Nat):Nat:=if a < 4503599627370496 then a else 4503599627370496+a % 4503599627370496
def upOf (a:Nat):Nat:=if a < 4503599627370496 then 0 else a / 4503599627370496 - 1
theorem uV_eq (a:Nat):magOf a*2 ^ upOf a=uV a:=by
  unfold magOf upOf uV;split <;> simp
theorem fmt:Ieee.double.signWeight=9223372036854775808∧Ieee.double.binade=4503599627370496∧Ieee.double.infRung=9218868437227405312∧Ieee.double.leastPlace=-1074:=by decide
theorem read_pos (a:Nat) (h:a < 9218868437227405312):Ieee.double.read a=.number false (magOf a) (-1074+(upOf a:Int)):=by
  obtain ⟨f1,f2,f3,f4⟩:=fmt
  have e1:(a / 9223372036854775808 % 2 == 1)=false:=by rw [beq_eq_false_iff_ne];omega
  have e2:a % 9223372036854775808=a:=by omega
  unfold Ieee.Format.read magOf upOf
  simp only [f1,f2,f3,f4,e1,e2]
  by_cases hl:a < 4503599627370496
  · rw [if_pos hl,if_pos hl,if_pos hl];rfl
  · rw [if_neg hl,if_neg hl,if_neg hl,if_pos h]
theorem cmp_nat (x y:Nat):compare ((x:Nat):Int) ((y:Nat):Int)=compare x y:=by
  rcases Nat.lt_trichotomy x y with h | h | h
  · rw [Nat.compare_eq_lt.2 h];exact Int.compare_eq_lt.2 (by omega)
  · subst h;simp
  · rw [Nat.compare_eq_gt.2 h];exact Int.compare_eq_gt.2 (by omega)
theorem cmp_mul (x y p:Nat) (hp:0 < p):compare (x*p) (y*p)=compare x y:=by
  rcases Nat.lt_trichotomy x y with h | h | h
  · rw [Nat.compare_eq_lt.2 h,Nat.compare_eq_lt.2 (Nat.mul_lt_mul_of_pos_right h hp)]
  · subst h;simp
  · rw [Nat.compare_eq_gt.2 h,Nat.compare_eq_gt.2 (Nat.mul_lt_mul_of_pos_right h hp)]
theorem cmp_uV (a b:Nat):compare (uV a) (uV b)=compare a b:=by
  rcases Nat.lt_trichotomy a b with h | h | h
  · rw [Nat.compare_eq_lt.2 h,Nat.compare_eq_lt.2 (uV_mono h)]
  · subst h;simp
  · rw [Nat.compare_eq_gt.2 h,Nat.compare_eq_gt.2 (uV_mono h)]
theorem order_pos (a b:Nat) (ha:a < 9218868437227405312) (hb:b < 9218868437227405312):Ieee.double.order a b=some (compare a b):=by
  unfold Ieee.Format.order
  rw [read_pos a ha,read_pos b hb]
  simp only [Ieee.Datum.order,Ieee.signed]
  congr 1
  rw [if_neg (by decide),if_neg (by decide),cmp_nat]
  have s1:∀ (m k:Nat),m <<< k=m*2 ^ k:=fun m k=>Nat.shiftLeft_eq m k
  rw [s1,s1,← cmp_uV a b,← uV_eq a,← uV_eq b]
  have hx:∃ c:Nat,upOf a=(-1074+(upOf a:Int) - min (-1074+(upOf a:Int)) (-1074+(upOf b:Int))).toNat+c∧upOf b=(-1074+(upOf b:Int) - min (-1074+(upOf a:Int)) (-1074+(upOf b:Int))).toNat+c:=by
    refine ⟨min (upOf a) (upOf b),?_,?_⟩ <;> omega
  obtain ⟨c,h1,h2⟩:=hx
  generalize (-1074+(upOf a:Int) - min (-1074+(upOf a:Int)) (-1074+(upOf b:Int))).toNat=x at *
  generalize (-1074+(upOf b:Int) - min (-1074+(upOf a:Int)) (-1074+(upOf b:Int))).toNat=y at *
  rw [h1,h2,Nat.pow_add,Nat.pow_add,← Nat.mul_assoc,← Nat.mul_assoc,cmp_mul _ _ _ (Nat.pow_pos (by decide))]
def sw (s:Bool) (a:Nat):Nat:=if s then 9223372036854775808+a else a
def sv (s:Bool) (a:Nat):Int:=if s then -(uV a:Int) else (uV a:Int)
theorem read_sw (s:Bool) (a:Nat) (h:a < 9218868437227405312):Ieee.double.read (sw s a)=.number s (magOf a) (-1074+(upOf a:Int)):=by
  cases s with
  | false=>exact read_pos a h
  | true =>
    obtain ⟨f1,f2,f3,f4⟩:=fmt
    show Ieee.double.read (9223372036854775808+a)=_
    have e1:((9223372036854775808+a) / 9223372036854775808 % 2 == 1)=true:=by rw [beq_iff_eq];omega
    have e2:(9223372036854775808+a) % 9223372036854775808=a:=by omega
    unfold Ieee.Format.read magOf upOf
    simp only [f1,f2,f3,f4,e1,e2]
    by_cases hl:a < 4503599627370496
    · rw [if_pos hl,if_pos hl,if_pos hl];rfl
    · rw [if_neg hl,if_neg hl,if_neg hl,if_pos h]
theorem cmpI_mul (x y:Int) (p:Nat) (hp:0 < p):compare (x*(p:Int)) (y*(p:Int))=compare x y:=by
  have hp':(0:Int) < p:=by omega
  rcases Int.lt_trichotomy x y with h | h | h
  · rw [Int.compare_eq_lt.2 h,Int.compare_eq_lt.2 (Int.mul_lt_mul_of_pos_right h hp')]
  · subst h;simp
  · rw [Int.compare_eq_gt.2 h,Int.compare_eq_gt.2 (Int.mul_lt_mul_of_pos_right h hp')]
theorem sv_signed (s:Bool) (a x c:Nat) (h:upOf a=x+c):sv s a=Ieee.signed s (magOf a) x*((2 ^ c:Nat):Int):=by
  unfold sv Ieee.signed
  rw [← uV_eq a,h,Nat.pow_add,← Nat.mul_assoc,Nat.shiftLeft_eq]
  cases s with
  | false=>simp only [Bool.false_eq_true,if_false];rw [Int.natCast_mul (magOf a*2 ^ x)]
  | true=>simp only [if_true];rw [Int.natCast_mul (magOf a*2 ^ x),Int.neg_mul]
theorem order_sw (s t:Bool) (a b:Nat) (ha:a < 9218868437227405312) (hb:b < 9218868437227405312):Ieee.double.order (sw s a) (sw t b)=some (compare (sv s a) (sv t b)):=by
  unfold Ieee.Format.order
  rw [read_sw s a ha,read_sw t b hb]
  simp only [Ieee.Datum.order]
  congr 1
  have hx:∃ c:Nat,upOf a=(-1074+(upOf a:Int) - min (-1074+(upOf a:Int)) (-1074+(upOf b:Int))).toNat+c∧upOf b=(-1074+(upOf b:Int) - min (-1074+(upOf a:Int)) (-1074+(upOf b:Int))).toNat+c:=by
    refine ⟨min (upOf a) (upOf b),?_,?_⟩ <;> omega
  obtain ⟨c,h1,h2⟩:=hx
  rw [sv_signed s a _ c h1,sv_signed t b _ c h2,cmpI_mul _ _ _ (Nat.pow_pos (by decide))]
def sr (s:Bool) (a:Nat):Int:=if s then -(a:Int) else (a:Int)
theorem cmp_congr {x y x' y':Int} (h1:x < y ↔ x' < y') (h2:y < x ↔ y' < x'):compare x y=compare x' y':=by
  rcases Int.lt_trichotomy x y with h | h | h
  · rw [Int.compare_eq_lt.2 h,Int.compare_eq_lt.2 (h1.1 h)]
  · have e:x'=y':=by
      rcases Int.lt_trichotomy x' y' with k | k | k
      · have:=h1.2 k;omega
      · exact k
      · have:=h2.2 k;omega
    rw [h,e];simp
  · rw [Int.compare_eq_gt.2 h,Int.compare_eq_gt.2 (h2.1 h)]
theorem uV_zero:uV 0=0:=by decide
theorem uV_lt_iff (a b:Nat):uV a < uV b ↔ a < b:=by
  constructor
  · intro h
    rcases Nat.lt_trichotomy a b with k | k | k
    · exact k
    · subst k;omega
    · have:=uV_mono k;omega
  · exact uV_mono
theorem cmp_sv (s t:Bool) (a b:Nat):compare (sv s a) (sv t b)=compare (sr s a) (sr t b):=by
  have h1:=uV_lt_iff a b
  have h2:=uV_lt_iff b a
  have h3:=uV_lt_iff 0 a
  have h4:=uV_lt_iff 0 b
  rw [uV_zero] at h3 h4
  apply cmp_congr
  · cases s <;> cases t <;> simp only [sv,sr,Bool.false_eq_true,if_false,if_true] <;> omega
  · cases s <;> cases t <;> simp only [sv,sr,Bool.false_eq_true,if_false,if_true] <;> omega
theorem read_inf (s:Bool):Ieee.double.read (sw s 9218868437227405312)=.infinity s:=by cases s <;> decide
theorem order_all (s t:Bool) (a b:Nat) (ha:a≤9218868437227405312) (hb:b≤9218868437227405312):Ieee.double.order (sw s a) (sw t b)=some (compare (sr s a) (sr t b)):=by
  rcases Nat.lt_or_eq_of_le ha with ha | ha
  · rcases Nat.lt_or_eq_of_le hb with hb | hb
    · rw [order_sw s t a b ha hb,cmp_sv]
    · subst hb
      unfold Ieee.Format.order
      rw [read_sw s a ha,read_inf t]
      simp only [Ieee.Datum.order]
      cases t
      · rw [if_neg (by decide)];congr 1;symm;rw [Int.compare_eq_lt];unfold sr;cases s <;> simp <;> omega
      · rw [if_pos rfl];congr 1;symm;rw [Int.compare_eq_gt];unfold sr;cases s <;> simp <;> omega
  · subst ha
    rcases Nat.lt_or_eq_of_le hb with hb | hb
    · unfold Ieee.Format.order
      rw [read_sw t b hb,read_inf s]
      simp only [Ieee.Datum.order]
      cases s
      · rw [if_neg (by decide)];congr 1;symm;rw [Int.compare_eq_gt];unfold sr;cases t <;> simp <;> omega
      · rw [if_pos rfl];congr 1;symm;rw [Int.compare_eq_lt];unfold sr;cases t <;> simp <;> omega
    · subst hb
      unfold Ieee.Format.order
      rw [read_inf s,read_inf t]
      cases s <;> cases t <;> decide
theorem read_nan (s:Bool) (a:Nat) (h:9218868437227405312 < a) (h2:a < 9223372036854775808):∃ f,Ieee.double.read (sw s a)=.nan s f:=by
  obtain ⟨f1,f2,f3,f4⟩:=fmt
  have e1:((sw s a) / 9223372036854775808 % 2 == 1)=s:=by
    unfold sw;cases s
    · rw [if_neg (by decide),beq_eq_false_iff_ne];omega
    · rw [if_pos rfl,beq_iff_eq];omega
  have e2:sw s a % 9223372036854775808=a:=by unfold sw;cases s <;> simp <;> omega
  unfold Ieee.Format.read
  simp only [f1,f2,f3,f4,e1,e2]
  rw [if_neg (by omega),if_neg (by omega),if_neg (by omega)]
  exact ⟨_,rfl⟩
theorem order_nan1 (s:Bool) (a y:Nat) (h:9218868437227405312 < a) (h2:a < 9223372036854775808):Ieee.double.order (sw s a) y=none:=by
  obtain ⟨f,e⟩:=read_nan s a h h2
  unfold Ieee.Format.order
  rw [e];rfl
theorem order_nan2 (s:Bool) (a x:Nat) (h:9218868437227405312 < a) (h2:a < 9223372036854775808):Ieee.double.order x (sw s a)=none:=by
  obtain ⟨f,e⟩:=read_nan s a h h2
  unfold Ieee.Format.order
  rw [e]
  cases Ieee.double.read x <;> rfl
theorem sw_of (x:Nat) (h:x < 18446744073709551616):∃ s a,x=sw s a∧a < 9223372036854775808:=by
  by_cases k:x < 9223372036854775808
  · exact ⟨false,x,rfl,k⟩
  · exact ⟨true,x - 9223372036854775808,by unfold sw;rw [if_pos rfl];omega,by omega⟩
end Go.Proofs.YtifapjammoahgaaGreatDoor
/- COUNTS, merged: the plain mathematics. Own work of the verifier. -/
namespace Go.Proofs.YtifapjammoahgaaGreatDoor
abbrev Cn:=Int × Nat
def key:List Cn→Int→Nat
  | [],_=>0
  | c::L,k=>(if c.1=k then c.2 else 0)+key L k
end Go.Proofs.YtifapjammoahgaaGreatDoor
/- Buckets, in whole numbers. Own work of the verifier. -/
namespace Go.Proofs.YtifapjammoahgaaGreatDoor
def IsK (P v k:Nat):Prop:=v / 2 ^ (k+1) < P∧(k=0∨P≤v / 2 ^ k)
def idx (P v k:Nat):Nat:=k*P+v / 2 ^ k
def kk (P i:Nat):Nat:=i / P - 1
def rr (P i:Nat):Nat:=i - kk P i*P
def lo (P i:Nat):Nat:=rr P i*2 ^ kk P i
theorem div_half (v k:Nat):v / 2 ^ (k+1)=v / 2 ^ k / 2:=by rw [Nat.pow_succ,Nat.div_div_eq_div_mul]
theorem rr_lt {P:Nat} (i:Nat) (hP:0 < P):rr P i < 2*P∧(kk P i=0∨P≤rr P i)∧kk P i*P+rr P i=i:=by
  unfold rr kk
  have hm:=Nat.div_add_mod i P
  have hl:=Nat.mod_lt i hP
  rw [Nat.mul_comm] at hm
  generalize hq:i / P=q at *
  rcases Nat.eq_zero_or_pos q with e | e
  · subst e
    simp at hm ⊢
    omega
  · obtain ⟨q',rfl⟩:∃ q',q=q'+1:=⟨q - 1,by omega⟩
    rw [Nat.add_mul] at hm
    simp only [Nat.add_sub_cancel]
    omega
theorem between {P i x:Nat} (hP:0 < P) (h1:lo P i≤x) (h2:x < lo P i+2 ^ kk P i):IsK P x (kk P i)∧idx P x (kk P i)=i:=by
  obtain ⟨a1,a2,a3⟩:=rr_lt i hP
  have e:x / 2 ^ kk P i=rr P i:=by
    unfold lo at h1 h2
    apply Nat.div_eq_of_lt_le h1
    rw [Nat.add_mul,Nat.one_mul]
    exact h2
  refine ⟨⟨?_,?_⟩,?_⟩
  · rw [div_half,e];omega
  · rw [e];exact a2
  · unfold idx;rw [e,a3]
theorem kk_top {p i:Nat} (h:i < (64 - p)*2 ^ p) (hp:p≤14):kk (2 ^ p) i+p≤62:=by
  have:i / 2 ^ p < 64 - p:=Nat.div_lt_of_lt_mul (by rw [Nat.mul_comm];exact h)
  unfold kk
  omega
theorem hi_top {p i:Nat} (h:i < (64 - p)*2 ^ p) (hp:p≤14):lo (2 ^ p) i+2 ^ kk (2 ^ p) i≤2 ^ 63:=by
  obtain ⟨a1,_,_⟩:=rr_lt i (Nat.two_pow_pos p)
  have hk:=kk_top h hp
  unfold lo
  generalize kk (2 ^ p) i=k at *
  have e:(rr (2 ^ p) i+1)*2 ^ k≤(2*2 ^ p)*2 ^ k:=Nat.mul_le_mul_right _ a1
  have e2:2*2 ^ p*2 ^ k=2 ^ (1+p+k):=by rw [Nat.pow_add,Nat.pow_add]
  have e3:2 ^ (1+p+k)≤2 ^ 63:=Nat.pow_le_pow_right (by decide) (by omega)
  rw [Nat.add_mul,Nat.one_mul] at e
  omega
end Go.Proofs.YtifapjammoahgaaGreatDoor
/- THE LEAVES of bucket. Own work of the verifier. -/
namespace Go.Proofs.YtifapjammoahgaaGreatDoor
open Go.RowKit
theorem retI {k:IntKind} {A B:Int} (h:A=B):Ending.returned (Value.int k A)=.returned (.int k B):=by rw [h]
theorem retB {A B:Bool} (h:A=B):Ending.returned (Value.bool A)=.returned (.bool B):=by rw [h]
theorem pow_lt (p:Nat) (h:p≤14):2 ^ p≤16384:=by
  have:2 ^ p≤2 ^ 14:=Nat.pow_le_pow_right (by decide) h
  omega
theorem pow_lt' (p:Nat) (h:p≤62):2 ^ p≤4611686018427387904:=by
  have:2 ^ p≤2 ^ 62:=Nat.pow_le_pow_right (by decide) h
  omega
theorem cast_pow (p:Nat):(2:Int) ^ p=((2 ^ p:Nat):Int):=by simp
theorem wrap_small {x:Int} (h1:0≤x) (h2:x < 9223372036854775808):wrap64 x=x:=by unfold wrap64;omega
theorem wrap_nat {x:Int} {n:Nat} (h1:x=(n:Int)) (h2:n < 9223372036854775808):wrap64 x=(n:Int):=by rw [h1];exact wrap_small (by omega) (by omega)
theorem wrap_pow (p:Nat) (h:p≤62):wrap64 ((2:Int) ^ p)=((2 ^ p:Nat):Int):=wrap_nat (cast_pow p) (by have:=pow_lt' p h;omega)
theorem len_le (p:Nat) (h:p≤14):(64 - p)*2 ^ p≤1048576:=Nat.mul_le_mul (by omega:64 - p≤64) (pow_lt p h)
theorem window {p v k s:Nat} (h:k+max (2*s) 1≤64∧v / 2 ^ (k+max (2*s) 1) < 2 ^ p∧(k=0∨2 ^ p≤v / 2 ^ k)) (hs:s=1∨s=2∨s=4∨s=8∨s=16∨s=32) :
    (2 ^ p≤v / 2 ^ (k+s)→(k+s)+max (2*(s / 2)) 1≤64∧v / 2 ^ ((k+s)+max (2*(s / 2)) 1) < 2 ^ p∧((k+s)=0∨2 ^ p≤v / 2 ^ (k+s))) ∧
    (¬ 2 ^ p≤v / 2 ^ (k+s)→k+max (2*(s / 2)) 1≤64∧v / 2 ^ (k+max (2*(s / 2)) 1) < 2 ^ p∧(k=0∨2 ^ p≤v / 2 ^ k)):=by
  have e1:max (2*s) 1=2*s:=by omega
  have e2:max (2*(s / 2)) 1=s:=by omega
  rw [e1] at h
  rw [e2]
  obtain ⟨a,b,c⟩:=h
  exact ⟨fun d=>⟨by omega,by rw [show k+s+s=k+2*s by omega];exact b,Or.inr d⟩,fun d=>⟨by omega,by omega,c⟩⟩
end Go.Proofs.YtifapjammoahgaaGreatDoor
/- THE CALLS of bucket. Own work of the verifier. -/
namespace Go.Proofs.YtifapjammoahgaaGreatDoor
open Go.RowKit
abbrev two (a e:Int):Ending:=.returned (.tuple #[.int .i64 a,.int .i64 e])
abbrev three (a b e:Int):Ending:=.returned (.tuple #[.int .i64 a,.int .i64 b,.int .i64 e])
theorem sub_nat {x y:Nat} (h:y≤x) (hx:x < 9223372036854775808):wrap64 ((x:Int) - (y:Int))=((x - y:Nat):Int):=by unfold wrap64;omega
theorem sub_one {x:Nat} (h:0 < x) (hx:x < 9223372036854775808):wrap64 ((x:Int) - 1)=((x - 1:Nat):Int):=by unfold wrap64;omega
theorem add_nat {x y:Nat} (h:x+y < 9223372036854775808):wrap64 ((x:Int)+(y:Int))=((x+y:Nat):Int):=by unfold wrap64;omega
theorem mul_pow {x k:Nat} (h:x*2 ^ k < 9223372036854775808):wrap64 ((x:Int)*2 ^ k)=((x*2 ^ k:Nat):Int):=wrap_nat (by rw [cast_pow,Int.natCast_mul]) h
theorem div_pow (i p:Nat):(i:Int) / 2 ^ p=((i / 2 ^ p:Nat):Int):=by rw [cast_pow,← Int.natCast_ediv]
theorem ends (p i:Nat) (h2:p≤14) (hi:i < (64 - p)*2 ^ p):∃ k K r l t t1 h:Nat,k≤62∧l=lo (2 ^ p) i∧h=lo (2 ^ p) i+2 ^ kk (2 ^ p) i - 1 ∧
    ((k=0∧(i:Int) / 2 ^ p=0)∨wrap64 ((i:Int) / 2 ^ p - 1)=(k:Int))∧wrap64 ((k:Int)*2 ^ p)=(K:Int)∧wrap64 ((i:Int) - (K:Int))=(r:Int)∧wrap64 ((r:Int)*2 ^ k)=(l:Int)∧wrap64 ((2:Int) ^ k)=(t:Int) ∧
      wrap64 ((t:Int) - 1)=(t1:Int)∧wrap64 ((l:Int)+(t1:Int))=(h:Int):=by
  have hkt:=kk_top hi h2
  have hlo:=hi_top hi h2
  obtain ⟨r1,r2,r3⟩:=rr_lt i (Nat.two_pow_pos p)
  have hile:=len_le p h2
  have hkl:=pow_lt' (kk (2 ^ p) i) (by omega)
  have hp:=Nat.two_pow_pos (kk (2 ^ p) i)
  have e63:(2:Nat) ^ 63=9223372036854775808:=by decide
  rw [e63] at hlo
  have hii:i < 9223372036854775808:=by
    generalize (64 - p)*2 ^ p=z at *
    omega
  have hK:kk (2 ^ p) i*2 ^ p≤i:=by
    generalize kk (2 ^ p) i*2 ^ p=z at *
    omega
  refine ⟨kk (2 ^ p) i,kk (2 ^ p) i*2 ^ p,rr (2 ^ p) i,lo (2 ^ p) i,2 ^ kk (2 ^ p) i,2 ^ kk (2 ^ p) i - 1,lo (2 ^ p) i+2 ^ kk (2 ^ p) i - 1,by omega,rfl,rfl,?_,?_,?_,?_,?_,?_,?_⟩
  · rw [div_pow]
    rcases Nat.eq_zero_or_pos (i / 2 ^ p) with z | z
    · exact Or.inl ⟨by unfold kk;omega,by rw [z];rfl⟩
    · exact Or.inr (sub_one z (Nat.lt_of_le_of_lt (Nat.div_le_self _ _) hii))
  · exact mul_pow (Nat.lt_of_le_of_lt hK hii)
  · exact sub_nat hK hii
  · refine mul_pow ?_
    change lo (2 ^ p) i < _
    generalize lo (2 ^ p) i=z at *
    generalize 2 ^ kk (2 ^ p) i=y at *
    omega
  · exact wrap_pow _ (by omega)
  · refine sub_one hp ?_
    generalize 2 ^ kk (2 ^ p) i=y at *
    omega
  · rw [add_nat]
    · congr 1
      generalize lo (2 ^ p) i=z at *
      generalize 2 ^ kk (2 ^ p) i=y at *
      omega
    · generalize lo (2 ^ p) i=z at *
      generalize 2 ^ kk (2 ^ p) i=y at *
      omega
end Go.Proofs.YtifapjammoahgaaGreatDoor
/- LISTS OF COUNTS in memory; Total. Own work of the verifier. -/
namespace Go.Proofs.YtifapjammoahgaaGreatDoor
open Go.RowKit
theorem lt_of_cell {w:World} {a:Addr} {v:Value} (h:w.cell? a=some v):a.block < w.heap.size:=by
  unfold World.cell? at h
  split at h
  · rename_i h1
    rcases Nat.lt_or_ge a.block w.heap.size with k | k
    · exact k
    · rw [Array.getElem?_eq_none k] at h1;cases h1
  · cases h
end Go.Proofs.YtifapjammoahgaaGreatDoor
/- A RANGE OVER AN ITERATOR THAT HAS CELLS OF ITS OWN: the law. Own work of the verifier. -/
namespace Go.Proofs.YtifapjammoahgaaGreatDoor
open Go.RowKit Go.Shelf
structure Mid (n0 B:Nat) (W W':World):Prop where
  os:W'.os=W.os
  tape:W'.tape=W.tape
  output:W'.output=W.output
  size:W.heap.size≤W'.heap.size
  block:∀ k,k < W.heap.size→¬ (n0≤k∧k < B)→W'.heap[k]? =W.heap[k]?
theorem Mid.refl (n0 B:Nat) (W:World):Mid n0 B W W:=⟨rfl,rfl,rfl,Nat.le_refl _,fun _ _ _=>rfl⟩
theorem Mid.setCell {n0 B:Nat} {a w:World} (h:Mid n0 B a w) {p:Addr} (hp:(n0≤p.block∧p.block < B)∨a.heap.size≤p.block) (u:Value):Mid n0 B a (w.setCell p u) :=
  ⟨h.os,h.tape,h.output,Nat.le_trans h.size (by simp [World.setCell]),fun k hk hn=>(Below.heap_setCell _ _ _ _ (fun e=>by subst e;rcases hp with hp | hp;exact hn hp;omega)).trans (h.block k hk hn)⟩
theorem Mid.toBelow {n0 B:Nat} {a b:World} (h:Mid n0 B a b) (ha:n0≤a.heap.size):Below n0 a b:=⟨h.os,h.tape,h.output,h.size,fun k hk=>h.block k (by omega) (by omega)⟩
def midPost (n0 B:Nat) (I:Nat→World→Prop) (Ix:Code→Nat→World→Prop) (i:Nat) (W:World):Exit→Act→World→Prop
  | .normal,_,W'=>Mid n0 B W W'∧I i W'
  | .ret,_,W'=>Mid n0 B W W'∧Ix .ret i W'
  | .exit id,_,W'=>Mid n0 B W W'∧Ix (.exit id) i W'
  | .goto t,_,W'=>Mid n0 B W W'∧Ix (.goto t) i W'
  | .panic _,_,_=>False
  | .outgrown,_,_=>False
end Go.Proofs.YtifapjammoahgaaGreatDoor
