/- THE ORDER of floats of 64 bits, by their words (no Go in sight). Own work of the verifier. -/
import Derived.Laws.FloatArith
import Derived.Handy
import Derived.Test.YtlgkfeeclgcgbaaGreatDoorRows
import Derived.WalkKit
import Derived.WalkSpells
import Derived.RowKit3
import Derived.Below
import Derived.Outline
import Derived.Deep.QuietTactic
import Derived.Deep.Draws
import Derived.BigQuiet
import Derived.Laws.Bits64
import Derived.Laws.BitsAllLaws
import Derived.Laws.ShiftsVarLaws
import Derived.Deep.RegionHeld3
import Derived.Deep.DeepCutAuto
import Derived.Lib.ItoaNum
namespace Go.Proofs.YtlgkfeeclgcgbaaGreatDoor
def uV (a:Nat):Nat:=if a < 4503599627370496 then a else (4503599627370496+a % 4503599627370496)*2 ^ (a / 4503599627370496 - 1)
theorem uV_succ (a:Nat):uV a < uV (a+1):=by
 unfold uV
 by_cases h1:a+1 < 4503599627370496
 ·rw [if_pos (by omega),if_pos h1];omega
 ·by_cases h2:a < 4503599627370496
  ·obtain rfl:a=4503599627370495:=by omega
   decide
  ·rw [if_neg h2,if_neg h1]
   have hp:0 < 2 ^ (a / 4503599627370496 - 1):=Nat.pow_pos (by decide)
   by_cases h3:(a+1) % 4503599627370496=0
   ·have e1:(a+1) / 4503599627370496 - 1=(a / 4503599627370496 - 1)+1:=by omega
    rw [h3,e1,Nat.pow_succ]
    have e2:a % 4503599627370496=4503599627370495:=by omega
    rw [e2]
    generalize 2 ^ (a / 4503599627370496 - 1)=p at *
    omega
   ·have e1:(a+1) / 4503599627370496=a / 4503599627370496:=by omega
    have e2:(a+1) % 4503599627370496=a % 4503599627370496+1:=by omega
    rw [e1,e2]
    exact Nat.mul_lt_mul_of_pos_right (by omega) hp
theorem uV_mono {a b:Nat} (h:a < b):uV a < uV b:=by
 induction b with
 | zero=>omega
 | succ b ih =>
  rcases Nat.lt_or_eq_of_le (Nat.le_of_lt_succ h) with k | k
  ·exact Nat.lt_trans (ih k) (uV_succ b)
  ·rw [k];exact uV_succ b
def magOf (a:Nat):Nat:=if a < 4503599627370496 then a else 4503599627370496+a % 4503599627370496
def upOf (a:Nat):Nat:=if a < 4503599627370496 then 0 else a / 4503599627370496 - 1
theorem uV_eq (a:Nat):magOf a*2 ^ upOf a=uV a:=by
 unfold magOf upOf uV;split <;> simp
theorem fmt:Ieee.double.signWeight=9223372036854775808∧Ieee.double.binade=4503599627370496∧Ieee.double.infRung=9218868437227405312∧Ieee.double.leastPlace=-1074:=by decide
theorem read_pos (a:Nat) (h:a < 9218868437227405312):Ieee.double.read a=.number false (magOf a) (-1074+(upOf a:Int)):=by
 obtain ⟨f1,f2,f3,f4⟩:=fmt
 have e1:(a / 9223372036854775808 % 2 == 1)=false:=by rw [beq_eq_false_iff_ne];omega
 have e2:a % 9223372036854775808=a:=by omega
 unfold Ieee.Format.read magOf upOf
 simp only [f1,f2,f3,f4,e1,e2]
 by_cases hl:a < 4503599627370496
 ·rw [if_pos hl,if_pos hl,if_pos hl];rfl
 ·rw [if_neg hl,if_neg hl,if_neg hl,if_pos h]
theorem cmp_nat (x y:Nat):compare ((x:Nat):Int) ((y:Nat):Int)=compare x y:=by
 rcases Nat.lt_trichotomy x y with h | h | h
 ·rw [Nat.compare_eq_lt.2 h];exact Int.compare_eq_lt.2 (by omega)
 ·subst h;simp
 ·rw [Nat.compare_eq_gt.2 h];exact Int.compare_eq_gt.2 (by omega)
theorem cmp_mul (x y p:Nat) (hp:0 < p):compare (x*p) (y*p)=compare x y:=by
 rcases Nat.lt_trichotomy x y with h | h | h
 ·rw [Nat.compare_eq_lt.2 h,Nat.compare_eq_lt.2 (Nat.mul_lt_mul_of_pos_right h hp)]
 ·subst h;simp
 ·rw [Nat.compare_eq_gt.2 h,Nat.compare_eq_gt.2 (Nat.mul_lt_mul_of_pos_right h hp)]
theorem cmp_uV (a b:Nat):compare (uV a) (uV b)=compare a b:=by
 rcases Nat.lt_trichotomy a b with h | h | h
 ·rw [Nat.compare_eq_lt.2 h,Nat.compare_eq_lt.2 (uV_mono h)]
 ·subst h;simp
 ·rw [Nat.compare_eq_gt.2 h,Nat.compare_eq_gt.2 (uV_mono h)]
theorem order_pos (a b:Nat) (ha:a < 9218868437227405312) (hb:b < 9218868437227405312):Ieee.double.order a b=some (compare a b):=by
 unfold Ieee.Format.order
 rw [read_pos a ha,read_pos b hb]
 simp only [Ieee.Datum.order,Ieee.signed]
 congr 1
 rw [if_neg (by decide),if_neg (by decide),cmp_nat]
 have s1:∀ (m k:Nat),m <<< k=m*2 ^ k:=fun m k=>Nat.shiftLeft_eq m k
 rw [s1,s1,← cmp_uV a b,← uV_eq a,← uV_eq b]
 have hx:∃ c:Nat,upOf a=(-1074+(upOf a:Int) - min (-1074+(upOf a:Int)) (-1074+(upOf b:Int))).toNat+c∧upOf b=(-1074+(upOf b:Int) - min (-1074+(upOf a:Int)) (-1074+(upOf b:Int))).toNat+c:=by
  refine ⟨min (upOf a) (upOf b),?_,?_⟩ <;> omega
 obtain ⟨c,h1,h2⟩:=hx
 generalize (-1074+(upOf a:Int) - min (-1074+(upOf a:Int)) (-1074+(upOf b:Int))).toNat=x at *
 generalize (-1074+(upOf b:Int) - min (-1074+(upOf a:Int)) (-1074+(upOf b:Int))).toNat=y at *
 rw [h1,h2,Nat.pow_add,Nat.pow_add,← Nat.mul_assoc,← Nat.mul_assoc,cmp_mul _ _ _ (Nat.pow_pos (by decide))]
def sw (s:Bool) (a:Nat):Nat:=if s then 9223372036854775808+a else a
def sv (s:Bool) (a:Nat):Int:=if s then -(uV a:Int) else (uV a:Int)
theorem read_sw (s:Bool) (a:Nat) (h:a < 9218868437227405312):Ieee.double.read (sw s a)=.number s (magOf a) (-1074+(upOf a:Int)):=by
 cases s with
 | false=>exact read_pos a h
 | true =>
  obtain ⟨f1,f2,f3,f4⟩:=fmt
  show Ieee.double.read (9223372036854775808+a)=_
  have e1:((9223372036854775808+a) / 9223372036854775808 % 2 == 1)=true:=by rw [beq_iff_eq];omega
  have e2:(9223372036854775808+a) % 9223372036854775808=a:=by omega
  unfold Ieee.Format.read magOf upOf
  simp only [f1,f2,f3,f4,e1,e2]
  by_cases hl:a < 4503599627370496
  ·rw [if_pos hl,if_pos hl,if_pos hl];rfl
  ·rw [if_neg hl,if_neg hl,if_neg hl,if_pos h]
theorem cmpI_mul (x y:Int) (p:Nat) (hp:0 < p):compare (x*(p:Int)) (y*(p:Int))=compare x y:=by
 have hp':(0:Int) < p:=by omega
 rcases Int.lt_trichotomy x y with h | h | h
 ·rw [Int.compare_eq_lt.2 h,Int.compare_eq_lt.2 (Int.mul_lt_mul_of_pos_right h hp')]
 ·subst h;simp
 ·rw [Int.compare_eq_gt.2 h,Int.compare_eq_gt.2 (Int.mul_lt_mul_of_pos_right h hp')]
theorem sv_signed (s:Bool) (a x c:Nat) (h:upOf a=x+c):sv s a=Ieee.signed s (magOf a) x*((2 ^ c:Nat):Int):=by
 unfold sv Ieee.signed
 rw [← uV_eq a,h,Nat.pow_add,← Nat.mul_assoc,Nat.shiftLeft_eq]
 cases s with
 | false=>simp only [Bool.false_eq_true,if_false];rw [Int.natCast_mul (magOf a*2 ^ x)]
 | true=>simp only [if_true];rw [Int.natCast_mul (magOf a*2 ^ x),Int.neg_mul]
theorem order_sw (s t:Bool) (a b:Nat) (ha:a < 9218868437227405312) (hb:b < 9218868437227405312):Ieee.double.order (sw s a) (sw t b)=some (compare (sv s a) (sv t b)):=by
 unfold Ieee.Format.order
 rw [read_sw s a ha,read_sw t b hb]
 simp only [Ieee.Datum.order]
 congr 1
 have hx:∃ c:Nat,upOf a=(-1074+(upOf a:Int) - min (-1074+(upOf a:Int)) (-1074+(upOf b:Int))).toNat+c∧upOf b=(-1074+(upOf b:Int) - min (-1074+(upOf a:Int)) (-1074+(upOf b:Int))).toNat+c:=by
  refine ⟨min (upOf a) (upOf b),?_,?_⟩ <;> omega
 obtain ⟨c,h1,h2⟩:=hx
 rw [sv_signed s a _ c h1,sv_signed t b _ c h2,cmpI_mul _ _ _ (Nat.pow_pos (by decide))]
def sr (s:Bool) (a:Nat):Int:=if s then -(a:Int) else (a:Int)
theorem cmp_congr {x y x' y':Int} (h1:x < y ↔ x' < y') (h2:y < x ↔ y' < x'):compare x y=compare x' y':=by
 rcases Int.lt_trichotomy x y with h | h | h
 ·rw [Int.compare_eq_lt.2 h,Int.compare_eq_lt.2 (h1.1 h)]
 ·have e:x'=y':=by
   rcases Int.lt_trichotomy x' y' with k | k | k
   ·have:=h1.2 k;omega
   ·exact k
   ·have:=h2.2 k;omega
  rw [h,e];simp
 ·rw [Int.compare_eq_gt.2 h,Int.compare_eq_gt.2 (h2.1 h)]
theorem uV_zero:uV 0=0:=by decide
theorem uV_lt_iff (a b:Nat):uV a < uV b ↔ a < b:=by
 constructor
 ·intro h
  rcases Nat.lt_trichotomy a b with k | k | k
  ·exact k
  ·subst k;omega
  ·have:=uV_mono k;omega
 ·exact uV_mono
theorem cmp_sv (s t:Bool) (a b:Nat):compare (sv s a) (sv t b)=compare (sr s a) (sr t b):=by
 have h1:=uV_lt_iff a b
 have h2:=uV_lt_iff b a
 have h3:=uV_lt_iff 0 a
 have h4:=uV_lt_iff 0 b
 rw [uV_zero] at h3 h4
 apply cmp_congr
 ·cases s <;> cases t <;> simp only [sv,sr,Bool.false_eq_true,if_false,if_true] <;> omega
 ·cases s <;> cases t <;> simp only [sv,sr,Bool.false_eq_true,if_false,if_true] <;> omega
theorem read_inf (s:Bool):Ieee.double.read (sw s 9218868437227405312)=.infinity s:=by cases s <;> decide
theorem order_all (s t:Bool) (a b:Nat) (ha:a≤9218868437227405312) (hb:b≤9218868437227405312):Ieee.double.order (sw s a) (sw t b)=some (compare (sr s a) (sr t b)):=by
 rcases Nat.lt_or_eq_of_le ha with ha | ha
 ·rcases Nat.lt_or_eq_of_le hb with hb | hb
  ·rw [order_sw s t a b ha hb,cmp_sv]
  ·subst hb
   unfold Ieee.Format.order
   rw [read_sw s a ha,read_inf t]
   simp only [Ieee.Datum.order]
   cases t
   ·rw [if_neg (by decide)];congr 1;symm;rw [Int.compare_eq_lt];unfold sr;cases s <;> simp <;> omega
   ·rw [if_pos rfl];congr 1;symm;rw [Int.compare_eq_gt];unfold sr;cases s <;> simp <;> omega
 ·subst ha
  rcases Nat.lt_or_eq_of_le hb with hb | hb
  ·unfold Ieee.Format.order
   rw [read_sw t b hb,read_inf s]
   simp only [Ieee.Datum.order]
   cases s
   ·rw [if_neg (by decide)];congr 1;symm;rw [Int.compare_eq_gt];unfold sr;cases t <;> simp <;> omega
   ·rw [if_pos rfl];congr 1;symm;rw [Int.compare_eq_lt];unfold sr;cases t <;> simp <;> omega
  ·subst hb
   unfold Ieee.Format.order
   rw [read_inf s,read_inf t]
   cases s <;> cases t <;> decide
theorem read_nan (s:Bool) (a:Nat) (h:9218868437227405312 < a) (h2:a < 9223372036854775808):∃ f,Ieee.double.read (sw s a)=.nan s f:=by
 obtain ⟨f1,f2,f3,f4⟩:=fmt
 have e1:((sw s a) / 9223372036854775808 % 2 == 1)=s:=by
  unfold sw;cases s
  ·rw [if_neg (by decide),beq_eq_false_iff_ne];omega
  ·rw [if_pos rfl,beq_iff_eq];omega
 have e2:sw s a % 9223372036854775808=a:=by unfold sw;cases s <;> simp <;> omega
 unfold Ieee.Format.read
 simp only [f1,f2,f3,f4,e1,e2]
 rw [if_neg (by omega),if_neg (by omega),if_neg (by omega)]
 exact ⟨_,rfl⟩
theorem order_nan1 (s:Bool) (a y:Nat) (h:9218868437227405312 < a) (h2:a < 9223372036854775808):Ieee.double.order (sw s a) y=none:=by
 obtain ⟨f,e⟩:=read_nan s a h h2
 unfold Ieee.Format.order
 rw [e];rfl
theorem order_nan2 (s:Bool) (a x:Nat) (h:9218868437227405312 < a) (h2:a < 9223372036854775808):Ieee.double.order x (sw s a)=none:=by
 obtain ⟨f,e⟩:=read_nan s a h h2
 unfold Ieee.Format.order
 rw [e]
 cases Ieee.double.read x <;> rfl
theorem sw_of (x:Nat) (h:x < 18446744073709551616):∃ s a,x=sw s a∧a < 9223372036854775808:=by
 by_cases k:x < 9223372036854775808
 ·exact ⟨false,x,rfl,k⟩
 ·exact ⟨true,x - 9223372036854775808,by unfold sw;rw [if_pos rfl];omega,by omega⟩
end Go.Proofs.YtlgkfeeclgcgbaaGreatDoor
/- COUNTS, merged: the plain mathematics. Own work of the verifier. -/
namespace Go.Proofs.YtlgkfeeclgcgbaaGreatDoor
abbrev Cn:=Int × Nat
def key:List Cn→Int→Nat
 | [],_=>0
 | c::L,k=>(if c.1=k then c.2 else 0)+key L k
theorem key_append (A B:List Cn) (k:Int):key (A++B) k=key A k+key B k:=by
 induction A with
 | nil=>rw [List.nil_append];simp [key]
 | cons c A ih=>rw [List.cons_append];simp only [key];rw [ih];omega
theorem key_perm {A B:List Cn} (h:A.Perm B) (k:Int):key A k=key B k:=by
 induction h with
 | nil=>rfl
 | cons c _ ih=>simp only [key];rw [ih]
 | swap c d l=>simp only [key];omega
 | trans _ _ h1 h2=>rw [h1,h2]
def Rise (L:List Cn):Prop:=L.Pairwise (fun a b=>a.1 < b.1)
def Srt (L:List Cn):Prop:=L.Pairwise (fun a b=>a.1≤b.1)
theorem key_none {L:List Cn} {k:Int} (h:∀ c ∈ L,c.1≠k):key L k=0:=by
 induction L with
 | nil=>rfl
 | cons c L ih =>
  simp only [key]
  rw [if_neg (h c (by simp)),ih (fun d hd=>h d (by simp [hd]))]
theorem key_head {c:Cn} {L:List Cn} (h:Rise (c::L)):key (c::L) c.1=c.2:=by
 have hc:=(List.pairwise_cons.1 h).1
 simp only [key,if_true]
 rw [key_none (fun d hd=>by have:=hc d hd;omega)]
 rfl
theorem key_less {L:List Cn} {c:Cn} (h:Rise (c::L)) {k:Int} (hk:k < c.1):key (c::L) k=0:=by
 have hc:=(List.pairwise_cons.1 h).1
 refine key_none fun d hd=>?_
 rcases List.mem_cons.1 hd with rfl | hd
 ·omega
 ·have:=hc d hd;omega
theorem rise_eq:∀ (A B:List Cn),Rise A→Rise B→(∀ c ∈ A,c.2≠0)→(∀ c ∈ B,c.2≠0)→(∀ k,key A k=key B k)→A=B
 | [],[],_,_,_,_,_=>rfl
 | [],b::B,_,hB,_,nB,h=>by
  have:=h b.1
  rw [key_head hB] at this
  exact absurd this.symm (nB b (by simp))
 | a::A,[],hA,_,nA,_,h=>by
  have:=h a.1
  rw [key_head hA] at this
  exact absurd this (nA a (by simp))
 | a::A,b::B,hA,hB,nA,nB,h=>by
  have e1:a.1=b.1:=by
   rcases Int.lt_trichotomy a.1 b.1 with c | c | c
   ·have:=h a.1
    rw [key_head hA,key_less hB c] at this
    exact absurd this (nA a (by simp))
   ·exact c
   ·have:=h b.1
    rw [key_head hB,key_less hA c] at this
    exact absurd this.symm (nB b (by simp))
  have e2:a.2=b.2:=by
   have:=h a.1
   rw [key_head hA,e1,key_head hB] at this
   exact this
  have e3:A=B:=rise_eq A B (List.pairwise_cons.1 hA).2 (List.pairwise_cons.1 hB).2 (fun c hc=>nA c (by simp [hc])) (fun c hc=>nB c (by simp [hc])) (fun k=>by
   have:=h k
   simp only [key] at this
   rw [e1,e2] at this
   omega)
  rw [e3,Prod.ext e1 e2]
structure IsMerge (O L:List Cn):Prop where
 rise:Rise O
 nz:∀ c ∈ O,c.2≠0∧c.2 < 18446744073709551616
 keys:∀ k,key O k=key L k % 18446744073709551616
theorem IsMerge.uniq {A B L:List Cn} (h:IsMerge A L) (k:IsMerge B L):A=B :=
 rise_eq A B h.rise k.rise (fun c hc=>(h.nz c hc).1) (fun c hc=>(k.nz c hc).1) (fun x=>by rw [h.keys,k.keys])
theorem IsMerge.perm {A L M:List Cn} (h:IsMerge A L) (p:L.Perm M):IsMerge A M:=⟨h.rise,h.nz,fun k=>by rw [h.keys,key_perm p]⟩
theorem isMerge_nil:IsMerge [] []:=⟨List.Pairwise.nil,(fun c hc=>by cases hc),fun k=>rfl⟩
def Cut (S:List Cn) (i:Nat):Prop:=∀ c ∈ S.take i,∀ d ∈ S.drop i,c.1 < d.1
theorem cut_zero (S:List Cn):Cut S 0:=fun c hc=>by simp at hc
def Run (S:List Cn) (i j:Nat) (x:Int):Prop:=∀ t (h:t < S.length),i≤t→t < j→S[t].1=x
theorem sort_get {S:List Cn} (h:Srt S) {s t:Nat} (hs:s < S.length) (ht:t < S.length) (hst:s < t):S[s].1≤S[t].1:=(List.pairwise_iff_getElem.1 h) s t hs ht hst
theorem cut_next {S:List Cn} (hS:Srt S) {i j:Nat} {x:Int} (hij:i < j) (hj:j≤S.length) (hc:Cut S i) (hr:Run S i j x) (he:∀ h:j < S.length,S[j].1≠x):Cut S j:=by
 intro c hcm d hdm
 obtain ⟨s,hs,rfl⟩:=List.getElem_of_mem hcm
 obtain ⟨t,ht,rfl⟩:=List.getElem_of_mem hdm
 rw [List.length_take] at hs
 rw [List.length_drop] at ht
 rw [List.getElem_take,List.getElem_drop]
 have hjl:j < S.length:=by omega
 have a1:S[j].1≤S[j+t].1:=by
  rcases Nat.eq_zero_or_pos t with e | e
  ·subst e;exact Int.le_refl _
  ·exact sort_get hS hjl (by omega) (by omega)
 have hi:S[i].1=x:=hr i (by omega) (Nat.le_refl _) hij
 have a2:x < S[j].1:=by
  have:=sort_get hS (s:=i) (t:=j) (by omega) hjl hij
  have:=he hjl
  omega
 by_cases k:s < i
 ·have:S[s].1 < S[i].1:=hc _ (List.mem_iff_getElem.2 ⟨s,by rw [List.length_take];omega,by rw [List.getElem_take]⟩) _ (List.mem_iff_getElem.2 ⟨0,by rw [List.length_drop];omega,by rw [List.getElem_drop];simp⟩)
  omega
 ·have:S[s].1=x:=hr s (by omega) (by omega) (by omega)
  omega
theorem key_take (S:List Cn) {j:Nat} (h:j < S.length) (k:Int):key (S.take (j+1)) k=key (S.take j) k+(if S[j].1=k then S[j].2 else 0):=by
 rw [List.take_succ_eq_append_getElem h,key_append]
 simp [key]
theorem group_merge {S O:List Cn} {i j:Nat} {x:Int} {N:Nat} (hij:i < j) (hj:j≤S.length) (hO:IsMerge O (S.take i)) (hOm:∀ c ∈ O,∀ d ∈ S.drop i,c.1 < d.1) (hr:Run S i j x) (hN:N=key (S.take j) x % 18446744073709551616) :
  IsMerge (if N≠0 then O++[(x,N)] else O) (S.take j):=by
 have hx:S[i].1=x:=hr i (by omega) (Nat.le_refl _) hij
 have hmem:(S[i]'(by omega)) ∈ S.drop i:=List.mem_iff_getElem.2 ⟨0,by rw [List.length_drop];omega,by rw [List.getElem_drop];simp⟩
 have hlt:∀ c ∈ O,c.1 < x:=fun c hc'=>by rw [← hx];exact hOm c hc' _ hmem
 have hOx:key O x=0:=key_none fun c hc'=>by have:=hlt c hc';omega
 have hkeys:∀ k,k≠x→key (S.take j) k=key (S.take i) k:=fun k hk=>by
  have:∀ m,i+m≤j→key (S.take (i+m)) k=key (S.take i) k:=fun m=>by
   induction m with
   | zero=>intro _;rfl
   | succ m ih =>
    intro hm
    rw [show i+(m+1)=i+m+1 from rfl,key_take S (by omega),ih (by omega),if_neg (by rw [hr (i+m) (by omega) (by omega) (by omega)];exact fun e=>hk e.symm)]
    rfl
  have h:=this (j - i) (by omega)
  rw [show i+(j - i)=j by omega] at h
  exact h
 have hkx:∀ k,key (if N≠0 then O++[(x,N)] else O) k=if k=x then N else key O k:=fun k=>by
  by_cases hz:N≠0
  ·rw [if_pos hz,key_append]
   simp only [key]
   by_cases e:k=x
   ·subst e;simp only [if_true];rw [hOx];omega
   ·rw [if_neg (fun h=>e h.symm),if_neg e];omega
  ·rw [if_neg hz]
   by_cases e:k=x
   ·subst e;rw [if_pos rfl,hOx];omega
   ·rw [if_neg e]
 refine ⟨?_,?_,fun k=>?_⟩
 ·split
  ·refine List.pairwise_append.2 ⟨hO.rise,List.pairwise_singleton _ _,fun a ha b hb=>?_⟩
   rw [List.mem_singleton.1 hb]
   exact hlt a ha
  ·exact hO.rise
 ·intro c hc'
  split at hc'
  ·rcases List.mem_append.1 hc' with h | h
   ·exact hO.nz c h
   ·rw [List.mem_singleton.1 h]
    exact ⟨by assumption,by show N < _;omega⟩
  ·exact hO.nz c hc'
 ·rw [hkx]
  by_cases e:k=x
  ·subst e;rw [if_pos rfl];exact hN
  ·rw [if_neg e,hO.keys,hkeys k e]
theorem group_less {S O:List Cn} {i j:Nat} {x:Int} {N:Nat} (hij:i < j) (hj:j≤S.length) (hOm:∀ c ∈ O,∀ d ∈ S.drop i,c.1 < d.1) (hr:Run S i j x) (hcj:Cut S j):∀ c ∈ (if N≠0 then O++[(x,N)] else O),∀ d ∈ S.drop j,c.1 < d.1:=by
 intro c hc d hd
 have hdi:d ∈ S.drop i:=by
  have e:S.drop j=(S.drop i).drop (j - i):=by rw [List.drop_drop];congr 1;omega
  rw [e] at hd
  exact List.mem_of_mem_drop hd
 split at hc
 ·rcases List.mem_append.1 hc with h | h
  ·exact hOm c h d hdi
  ·rw [List.mem_singleton.1 h]
   have hx:S[i].1=x:=hr i (by omega) (Nat.le_refl _) hij
   rw [← hx]
   exact hcj (S[i]'(by omega)) (List.mem_iff_getElem.2 ⟨i,by rw [List.length_take];omega,by rw [List.getElem_take]⟩) d hd
 ·exact hOm c hc d hdi
end Go.Proofs.YtlgkfeeclgcgbaaGreatDoor
/- Buckets, in whole numbers. Own work of the verifier. -/
namespace Go.Proofs.YtlgkfeeclgcgbaaGreatDoor
def IsK (P v k:Nat):Prop:=v / 2 ^ (k+1) < P∧(k=0∨P≤v / 2 ^ k)
def idx (P v k:Nat):Nat:=k*P+v / 2 ^ k
def kk (P i:Nat):Nat:=i / P - 1
def rr (P i:Nat):Nat:=i - kk P i*P
def lo (P i:Nat):Nat:=rr P i*2 ^ kk P i
theorem div_half (v k:Nat):v / 2 ^ (k+1)=v / 2 ^ k / 2:=by rw [Nat.pow_succ,Nat.div_div_eq_div_mul]
theorem rr_lt {P:Nat} (i:Nat) (hP:0 < P):rr P i < 2*P∧(kk P i=0∨P≤rr P i)∧kk P i*P+rr P i=i:=by
 unfold rr kk
 have hm:=Nat.div_add_mod i P
 have hl:=Nat.mod_lt i hP
 rw [Nat.mul_comm] at hm
 generalize hq:i / P=q at *
 rcases Nat.eq_zero_or_pos q with e | e
 ·subst e
  simp at hm ⊢
  omega
 ·obtain ⟨q',rfl⟩:∃ q',q=q'+1:=⟨q - 1,by omega⟩
  rw [Nat.add_mul] at hm
  simp only [Nat.add_sub_cancel]
  omega
theorem between {P i x:Nat} (hP:0 < P) (h1:lo P i≤x) (h2:x < lo P i+2 ^ kk P i):IsK P x (kk P i)∧idx P x (kk P i)=i:=by
 obtain ⟨a1,a2,a3⟩:=rr_lt i hP
 have e:x / 2 ^ kk P i=rr P i:=by
  unfold lo at h1 h2
  apply Nat.div_eq_of_lt_le h1
  rw [Nat.add_mul,Nat.one_mul]
  exact h2
 refine ⟨⟨?_,?_⟩,?_⟩
 ·rw [div_half,e];omega
 ·rw [e];exact a2
 ·unfold idx;rw [e,a3]
theorem kk_top {p i:Nat} (h:i < (64 - p)*2 ^ p) (hp:p≤14):kk (2 ^ p) i+p≤62:=by
 have:i / 2 ^ p < 64 - p:=Nat.div_lt_of_lt_mul (by rw [Nat.mul_comm];exact h)
 unfold kk
 omega
theorem hi_top {p i:Nat} (h:i < (64 - p)*2 ^ p) (hp:p≤14):lo (2 ^ p) i+2 ^ kk (2 ^ p) i≤2 ^ 63:=by
 obtain ⟨a1,_,_⟩:=rr_lt i (Nat.two_pow_pos p)
 have hk:=kk_top h hp
 unfold lo
 generalize kk (2 ^ p) i=k at *
 have e:(rr (2 ^ p) i+1)*2 ^ k≤(2*2 ^ p)*2 ^ k:=Nat.mul_le_mul_right _ a1
 have e2:2*2 ^ p*2 ^ k=2 ^ (1+p+k):=by rw [Nat.pow_add,Nat.pow_add]
 have e3:2 ^ (1+p+k)≤2 ^ 63:=Nat.pow_le_pow_right (by decide) (by omega)
 rw [Nat.add_mul,Nat.one_mul] at e
 omega
end Go.Proofs.YtlgkfeeclgcgbaaGreatDoor
/- THE LEAVES of bucket. Own work of the verifier. -/
namespace Go.Proofs.YtlgkfeeclgcgbaaGreatDoor
open Go.RowKit
theorem retI {k:IntKind} {A B:Int} (h:A=B):Ending.returned (Value.int k A)=.returned (.int k B):=by rw [h]
theorem retB {A B:Bool} (h:A=B):Ending.returned (Value.bool A)=.returned (.bool B):=by rw [h]
theorem pow_lt (p:Nat) (h:p≤14):2 ^ p≤16384:=by
 have:2 ^ p≤2 ^ 14:=Nat.pow_le_pow_right (by decide) h
 omega
theorem pow_lt' (p:Nat) (h:p≤62):2 ^ p≤4611686018427387904:=by
 have:2 ^ p≤2 ^ 62:=Nat.pow_le_pow_right (by decide) h
 omega
theorem cast_pow (p:Nat):(2:Int) ^ p=((2 ^ p:Nat):Int):=by simp
theorem wrap_small {x:Int} (h1:0≤x) (h2:x < 9223372036854775808):wrap64 x=x:=by unfold wrap64;omega
theorem wrap_nat {x:Int} {n:Nat} (h1:x=(n:Int)) (h2:n < 9223372036854775808):wrap64 x=(n:Int):=by rw [h1];exact wrap_small (by omega) (by omega)
theorem wrap_pow (p:Nat) (h:p≤62):wrap64 ((2:Int) ^ p)=((2 ^ p:Nat):Int):=wrap_nat (cast_pow p) (by have:=pow_lt' p h;omega)
theorem len_le (p:Nat) (h:p≤14):(64 - p)*2 ^ p≤1048576:=Nat.mul_le_mul (by omega:64 - p≤64) (pow_lt p h)
theorem len_int (p:Nat) (h:p≤14):((64:Int) - (p:Int))*2 ^ p=(((64 - p)*2 ^ p:Nat):Int):=by
 rw [cast_pow,show (64:Int) - (p:Int)=((64 - p:Nat):Int) by omega,Int.natCast_mul]
theorem pr_yes (p:Nat) (h1:1≤p) (h2:p≤14) (w:World):Calls Tryz.prog 135 #[.int .i64 (p:Int)] w fun e w'=>e=.returned (.bool true)∧w'=w:=by
 have c1:(1:Int)≤(p:Int):=by omega
 have c2:(p:Int)≤14:=by omega
 go_enter Tryz.func135,Tryz.ntmps135
 go_wp2
 go_ret
 exact ⟨rfl,rfl⟩
theorem pr_no (p:Int) (h:¬ (1≤p∧p≤14)) (w:World):Calls Tryz.prog 135 #[.int .i64 p] w fun e w'=>e=.returned (.bool false)∧w'=w:=by
 by_cases c:1≤p
 ·have d:¬ p≤14:=fun k=>h ⟨c,k⟩
  clear h
  go_enter Tryz.func135,Tryz.ntmps135
  go_wp2
  go_ret
  exact ⟨rfl,rfl⟩
 ·clear h
  go_enter Tryz.func135,Tryz.ntmps135
  go_wp2
  go_ret
  exact ⟨rfl,rfl⟩
theorem len_yes (p:Nat) (h1:1≤p) (h2:p≤14) (w:World):Calls Tryz.prog 112 #[.int .i64 (p:Int)] w fun e w'=>e=.returned (.int .i64 (((64 - p)*2 ^ p:Nat):Int))∧w'=w:=by
 have c1:(1:Int)≤(p:Int):=by omega
 have c2:(p:Int)≤14:=by omega
 go_enter Tryz.func112,Tryz.ntmps112
 go_wp2_with (go_at_call 135;with_reducible refine (pr_yes p h1 h2 _).mono ?_;rintro e w1 ⟨rfl,rfl⟩)
 go_ret
 exact ⟨retI (wrap_nat (len_int p h2) (by have:=len_le p h2;omega)),rfl⟩
theorem len_no (p:Int) (h:¬ (1≤p∧p≤14)) (w:World):Calls Tryz.prog 112 #[.int .i64 p] w fun e w'=>e=.returned (.int .i64 0)∧w'=w:=by
 have H:Hid (∀ W,_):=pr_no p h
 clear h
 go_enter Tryz.func112,Tryz.ntmps112
 go_wp2_with (go_at_call 135;with_reducible refine (H.out _).mono ?_;rintro e w1 ⟨rfl,rfl⟩)
 go_ret
 exact ⟨rfl,rfl⟩
theorem window {p v k s:Nat} (h:k+max (2*s) 1≤64∧v / 2 ^ (k+max (2*s) 1) < 2 ^ p∧(k=0∨2 ^ p≤v / 2 ^ k)) (hs:s=1∨s=2∨s=4∨s=8∨s=16∨s=32) :
  (2 ^ p≤v / 2 ^ (k+s)→(k+s)+max (2*(s / 2)) 1≤64∧v / 2 ^ ((k+s)+max (2*(s / 2)) 1) < 2 ^ p∧((k+s)=0∨2 ^ p≤v / 2 ^ (k+s))) ∧
  (¬ 2 ^ p≤v / 2 ^ (k+s)→k+max (2*(s / 2)) 1≤64∧v / 2 ^ (k+max (2*(s / 2)) 1) < 2 ^ p∧(k=0∨2 ^ p≤v / 2 ^ k)):=by
 have e1:max (2*s) 1=2*s:=by omega
 have e2:max (2*(s / 2)) 1=s:=by omega
 rw [e1] at h
 rw [e2]
 obtain ⟨a,b,c⟩:=h
 exact ⟨fun d=>⟨by omega,by rw [show k+s+s=k+2*s by omega];exact b,Or.inr d⟩,fun d=>⟨by omega,by omega,c⟩⟩
end Go.Proofs.YtlgkfeeclgcgbaaGreatDoor
/- THE CALLS of bucket. Own work of the verifier. -/
namespace Go.Proofs.YtlgkfeeclgcgbaaGreatDoor
open Go.RowKit
abbrev two (a e:Int):Ending:=.returned (.tuple #[.int .i64 a,.int .i64 e])
abbrev three (a b e:Int):Ending:=.returned (.tuple #[.int .i64 a,.int .i64 b,.int .i64 e])
theorem three_of {a b c d e:Int} (h:a=b) (h':c=d):three a c e=three b d e:=by rw [h,h']
theorem sub_nat {x y:Nat} (h:y≤x) (hx:x < 9223372036854775808):wrap64 ((x:Int) - (y:Int))=((x - y:Nat):Int):=by unfold wrap64;omega
theorem sub_one {x:Nat} (h:0 < x) (hx:x < 9223372036854775808):wrap64 ((x:Int) - 1)=((x - 1:Nat):Int):=by unfold wrap64;omega
theorem add_nat {x y:Nat} (h:x+y < 9223372036854775808):wrap64 ((x:Int)+(y:Int))=((x+y:Nat):Int):=by unfold wrap64;omega
theorem mul_pow {x k:Nat} (h:x*2 ^ k < 9223372036854775808):wrap64 ((x:Int)*2 ^ k)=((x*2 ^ k:Nat):Int):=wrap_nat (by rw [cast_pow,Int.natCast_mul]) h
theorem div_pow (i p:Nat):(i:Int) / 2 ^ p=((i / 2 ^ p:Nat):Int):=by rw [cast_pow,← Int.natCast_ediv]
theorem ends (p i:Nat) (h2:p≤14) (hi:i < (64 - p)*2 ^ p):∃ k K r l t t1 h:Nat,k≤62∧l=lo (2 ^ p) i∧h=lo (2 ^ p) i+2 ^ kk (2 ^ p) i - 1 ∧
  ((k=0∧(i:Int) / 2 ^ p=0)∨wrap64 ((i:Int) / 2 ^ p - 1)=(k:Int))∧wrap64 ((k:Int)*2 ^ p)=(K:Int)∧wrap64 ((i:Int) - (K:Int))=(r:Int)∧wrap64 ((r:Int)*2 ^ k)=(l:Int)∧wrap64 ((2:Int) ^ k)=(t:Int) ∧
   wrap64 ((t:Int) - 1)=(t1:Int)∧wrap64 ((l:Int)+(t1:Int))=(h:Int):=by
 have hkt:=kk_top hi h2
 have hlo:=hi_top hi h2
 obtain ⟨r1,r2,r3⟩:=rr_lt i (Nat.two_pow_pos p)
 have hile:=len_le p h2
 have hkl:=pow_lt' (kk (2 ^ p) i) (by omega)
 have hp:=Nat.two_pow_pos (kk (2 ^ p) i)
 have e63:(2:Nat) ^ 63=9223372036854775808:=by decide
 rw [e63] at hlo
 have hii:i < 9223372036854775808:=by
  generalize (64 - p)*2 ^ p=z at *
  omega
 have hK:kk (2 ^ p) i*2 ^ p≤i:=by
  generalize kk (2 ^ p) i*2 ^ p=z at *
  omega
 refine ⟨kk (2 ^ p) i,kk (2 ^ p) i*2 ^ p,rr (2 ^ p) i,lo (2 ^ p) i,2 ^ kk (2 ^ p) i,2 ^ kk (2 ^ p) i - 1,lo (2 ^ p) i+2 ^ kk (2 ^ p) i - 1,by omega,rfl,rfl,?_,?_,?_,?_,?_,?_,?_⟩
 ·rw [div_pow]
  rcases Nat.eq_zero_or_pos (i / 2 ^ p) with z | z
  ·exact Or.inl ⟨by unfold kk;omega,by rw [z];rfl⟩
  ·exact Or.inr (sub_one z (Nat.lt_of_le_of_lt (Nat.div_le_self _ _) hii))
 ·exact mul_pow (Nat.lt_of_le_of_lt hK hii)
 ·exact sub_nat hK hii
 ·refine mul_pow ?_
  change lo (2 ^ p) i < _
  generalize lo (2 ^ p) i=z at *
  generalize 2 ^ kk (2 ^ p) i=y at *
  omega
 ·exact wrap_pow _ (by omega)
 ·refine sub_one hp ?_
  generalize 2 ^ kk (2 ^ p) i=y at *
  omega
 ·rw [add_nat]
  ·congr 1
   generalize lo (2 ^ p) i=z at *
   generalize 2 ^ kk (2 ^ p) i=y at *
   omega
  ·generalize lo (2 ^ p) i=z at *
   generalize 2 ^ kk (2 ^ p) i=y at *
   omega
theorem zero_case {i K r l t t1 h:Nat} {x:Int} (hi:i < 9223372036854775808) (e1:wrap64 (((0:Nat):Int)*x)=(K:Int)) (e2:wrap64 ((i:Int) - (K:Int))=(r:Int)) (e3:wrap64 ((r:Int)*2 ^ 0)=(l:Int)) (e4:wrap64 ((2:Int) ^ 0)=(t:Int))
  (e5:wrap64 ((t:Int) - 1)=(t1:Int)) (e6:wrap64 ((l:Int)+(t1:Int))=(h:Int)):l=i∧h=i:=by
 rw [Int.natCast_zero,Int.zero_mul] at e1
 rw [Int.pow_zero,Int.mul_one] at e3
 rw [Int.pow_zero] at e4
 unfold wrap64 at *
 omega
theorem bounds_yes (p i:Nat) (h1:1≤p) (h2:p≤14) (hi:i < (64 - p)*2 ^ p) (w:World) :
  Calls Tryz.prog 115 #[.int .i64 (p:Int),.int .i64 (i:Int)] w fun e w'=>(∃ n,w'=w.drewN n)∧e=three (lo (2 ^ p) i:Nat) ((lo (2 ^ p) i+2 ^ kk (2 ^ p) i - 1:Nat):Int) 0:=by
 have c1:(0:Int)≤(p:Int):=by omega
 have c2:¬ (i:Int) < 0:=by omega
 have c3:¬ (((64 - p)*2 ^ p:Nat):Int)≤(i:Int):=by omega
 have HP:Hid (∀ W,_):=pr_yes p h1 h2
 have HL:Hid (∀ W,_):=len_yes p h1 h2
 obtain ⟨k,K,r,l,t,t1,h,hk,hl,hh,e7,e1,e2,e3,e4,e5,e6⟩:=ends p i h2 hi
 rw [← hh,← hl]
 have hi63:i < 9223372036854775808:=Nat.lt_of_lt_of_le hi (Nat.le_trans (len_le p h2) (by decide))
 clear hi hl hh
 have hk0:(0:Int)≤(k:Int):=by omega
 generalize (64 - p)*2 ^ p=n at *
 rcases e7 with ⟨rfl,z0⟩ | e7
 ·obtain ⟨rfl,rfl⟩:=zero_case hi63 e1 e2 e3 e4 e5 e6
  clear e1 e2 e3 e4 e5 e6 hk hk0
  have hw:wrap64 (h:Int)=(h:Int):=wrap_small (by omega) (by omega)
  go_enter Tryz.func115,Tryz.ntmps115
  go_wp2_with (first
   | (go_at_call 135;with_reducible refine (HP.out _).mono ?_;rintro e w1 ⟨rfl,rfl⟩)
   | (go_at_call 112;with_reducible refine (HL.out _).mono ?_;rintro e w1 ⟨rfl,rfl⟩))
  go_region
  go_wp2_with fail
  go_ret3
  exact ⟨⟨1,rfl⟩,three_of (by first | rfl | exact hw | simp [hw]) (by first | rfl | exact hw | simp [hw])⟩
 ·go_enter Tryz.func115,Tryz.ntmps115
  go_wp2_with (first
   | (go_at_call 135;with_reducible refine (HP.out _).mono ?_;rintro e w1 ⟨rfl,rfl⟩)
   | (go_at_call 112;with_reducible refine (HL.out _).mono ?_;rintro e w1 ⟨rfl,rfl⟩))
  go_region
  go_wp2_with fail
  go_ret3
  exact ⟨⟨1,rfl⟩,three_of e3 e6⟩
theorem low_of {p i l h e:Int} (H:∀ W,Calls Tryz.prog 115 #[.int .i64 p,.int .i64 i] W fun x w'=>(∃ n,w'=W.drewN n)∧x=three l h e) (w:World) :
  Calls Tryz.prog 86 #[.int .i64 p,.int .i64 i] w fun x w'=>(∃ n,w'=w.drewN n)∧x=two l e:=by
 have HP:Hid _:=H
 go_enter Tryz.func86,Tryz.ntmps86
 go_wp2_with (go_at_call 115;with_reducible refine (HP.out _).mono ?_;rintro e w1 ⟨⟨n,rfl⟩,rfl⟩)
 go_ret2
 exact ⟨⟨n,rfl⟩,rfl⟩
theorem high_of {p i l h e:Int} (H:∀ W,Calls Tryz.prog 115 #[.int .i64 p,.int .i64 i] W fun x w'=>(∃ n,w'=W.drewN n)∧x=three l h e) (w:World) :
  Calls Tryz.prog 87 #[.int .i64 p,.int .i64 i] w fun x w'=>(∃ n,w'=w.drewN n)∧x=two h e:=by
 have HP:Hid _:=H
 go_enter Tryz.func87,Tryz.ntmps87
 go_wp2_with (go_at_call 115;with_reducible refine (HP.out _).mono ?_;rintro e w1 ⟨⟨n,rfl⟩,rfl⟩)
 go_ret2
 exact ⟨⟨n,rfl⟩,rfl⟩
end Go.Proofs.YtlgkfeeclgcgbaaGreatDoor
/- LISTS OF COUNTS in memory; Total. Own work of the verifier. -/
namespace Go.Proofs.YtlgkfeeclgcgbaaGreatDoor
open Go.RowKit
def Wc (L:List Cn):Prop:=∀ c ∈ L,-9223372036854775808≤c.1∧c.1 < 9223372036854775808∧c.2 < 18446744073709551616
def RowC (W:World) (b o:Nat) (L:List Cn):Prop:=∀ i (h:i < L.length),W.cell? ⟨b,o+i*2,none⟩=some (.int .i64 L[i].1)∧W.cell? ⟨b,o+i*2+1,none⟩=some (.int .u64 (L[i].2:Int))
theorem lt_of_cell {w:World} {a:Addr} {v:Value} (h:w.cell? a=some v):a.block < w.heap.size:=by
 unfold World.cell? at h
 split at h
 ·rename_i h1
  rcases Nat.lt_or_ge a.block w.heap.size with k | k
  ·exact k
  ·rw [Array.getElem?_eq_none k] at h1;cases h1
 ·cases h
theorem RowC.lt {W:World} {b o:Nat} {L:List Cn} (h:RowC W b o L) (hL:L≠[]):b < W.heap.size:=by
 have h0:0 < L.length:=List.length_pos_iff.2 hL
 exact lt_of_cell (h 0 h0).1
theorem RowC.below {W W1:World} {b o:Nat} {L:List Cn} {B:Nat} (h:RowC W b o L) (hb:Below B W W1) (hB:L≠[]→b < B):RowC W1 b o L:=fun i hi=>by
 have hL:L≠[]:=fun e=>by rw [e] at hi;simp at hi
 rw [hb.cell (p:=⟨b,o+i*2,none⟩) (hB hL),hb.cell (p:=⟨b,o+i*2+1,none⟩) (hB hL)]
 exact h i hi
def tot (L:List Cn):Nat:=(L.map (·.2)).sum % 18446744073709551616
end Go.Proofs.YtlgkfeeclgcgbaaGreatDoor
/- Same and At, the document's. Own work of the verifier. -/
set_option maxHeartbeats 1000000
namespace Go.Proofs.YtlgkfeeclgcgbaaGreatDoor
open Go.RowKit
end Go.Proofs.YtlgkfeeclgcgbaaGreatDoor
/- May, the document's. Own work of the verifier. -/
namespace Go.Proofs.YtlgkfeeclgcgbaaGreatDoor
open Go.RowKit
def bad (N:Nat) (L:List Cn) (i:Nat):Int :=
 if (L.getD i (0,1)).1 < 0∨(N:Int)≤(L.getD i (0,1)).1 then 2
 else if 0 < i∧(L.getD i (0,1)).1≤(L.getD (i - 1) (0,1)).1 then 15
 else if (L.getD i (0,1)).2=0 then 16 else 0
def sumN (L:List Cn):Nat:=(L.map (·.2)).sum
theorem sumN_take (L:List Cn) (i:Nat) (h:i < L.length):sumN (L.take (i+1))=sumN (L.take i)+L[i].2:=by
 unfold sumN
 rw [List.take_succ_eq_append_getElem h,List.map_append,List.sum_append]
 simp
def MayIs (p:Int) (L:List Cn) (e:Int):Prop :=
 (¬ (1≤p∧p≤14)∧e=1)∨((1≤p∧p≤14)∧((∃ i,i < L.length∧(∀ j,j < i→bad ((64 - p.toNat)*2 ^ p.toNat) L j=0)∧bad ((64 - p.toNat)*2 ^ p.toNat) L i≠0∧e=bad ((64 - p.toNat)*2 ^ p.toNat) L i) ∨
  ((∀ j,j < L.length→bad ((64 - p.toNat)*2 ^ p.toNat) L j=0)∧e=if 9223372036854775807 < sumN L then 3 else 0)))
theorem MayIs.uniq {p:Int} {L:List Cn} {e f:Int} (h:MayIs p L e) (k:MayIs p L f):e=f:=by
 rcases h with ⟨h1,rfl⟩ | ⟨h1,h2⟩
 ·rcases k with ⟨_,rfl⟩ | ⟨k1,_⟩
  ·rfl
  ·exact absurd k1 h1
 ·rcases k with ⟨k1,_⟩ | ⟨_,k2⟩
  ·exact absurd h1 k1
  ·rcases h2 with ⟨i,a1,a2,a3,rfl⟩ | ⟨a1,rfl⟩ <;> rcases k2 with ⟨j,b1,b2,b3,rfl⟩ | ⟨b1,rfl⟩
   ·rcases Nat.lt_trichotomy i j with c | c | c
    ·exact absurd (b2 i c) a3
    ·rw [c]
    ·exact absurd (a2 j c) b3
   ·exact absurd (b1 i a1) a3
   ·exact absurd (a1 j b1) b3
   ·rfl
end Go.Proofs.YtlgkfeeclgcgbaaGreatDoor
/- THE PLAIN MATHEMATICS of a division of two words by one (no Go in sight). Own work of the verifier. -/
namespace Go.Proofs.YtlgkfeeclgcgbaaGreatDoor
theorem norm_words (H l:Nat) (k:Nat) (hk:k≤64) (hl:l < 18446744073709551616) (hH:H*2 ^ k < 18446744073709551616) :
  bits .or .u64 (IntKind.u64.wrap ((H:Int)*2 ^ k)) ((l:Int) / 2 ^ (64 - k))=((H*2 ^ k+l / 2 ^ (64 - k):Nat):Int) ∧
  IntKind.u64.wrap ((l:Int)*2 ^ k)=((2 ^ k*(l % 2 ^ (64 - k)):Nat):Int) ∧
  (H*2 ^ k+l / 2 ^ (64 - k))*18446744073709551616+2 ^ k*(l % 2 ^ (64 - k))=(H*18446744073709551616+l)*2 ^ k∧l / 2 ^ (64 - k) < 2 ^ k∧2 ^ k*(l % 2 ^ (64 - k)) < 18446744073709551616:=by
 have hKM:2 ^ k*2 ^ (64 - k)=18446744073709551616:=by rw [← Nat.pow_add,show k+(64 - k)=64 from by omega]
 have hM:0 < 2 ^ (64 - k):=Nat.pow_pos (by decide)
 have hK:0 < 2 ^ k:=Nat.pow_pos (by decide)
 have e1:((H:Int)*2 ^ k)=((H*2 ^ k:Nat):Int):=by push_cast;rfl
 have e2:((l:Int)*2 ^ k)=((l*2 ^ k:Nat):Int):=by push_cast;rfl
 have e3:((l:Int) / 2 ^ (64 - k))=((l / 2 ^ (64 - k):Nat):Int):=by push_cast;rfl
 have ha:l / 2 ^ (64 - k) < 2 ^ k:=by
  rw [Nat.div_lt_iff_lt_mul hM,hKM];exact hl
 have hb:l % 2 ^ (64 - k) < 2 ^ (64 - k):=Nat.mod_lt _ hM
 have hlk:l*2 ^ k=18446744073709551616*(l / 2 ^ (64 - k))+2 ^ k*(l % 2 ^ (64 - k)):=by
  have d:=Nat.div_add_mod l (2 ^ (64 - k))
  calc l*2 ^ k=(2 ^ (64 - k)*(l / 2 ^ (64 - k))+l % 2 ^ (64 - k))*2 ^ k:=by rw [d]
   _=2 ^ k*2 ^ (64 - k)*(l / 2 ^ (64 - k))+2 ^ k*(l % 2 ^ (64 - k)):=by
    rw [Nat.add_mul,Nat.mul_comm (2 ^ (64 - k)*_) (2 ^ k),Nat.mul_assoc,Nat.mul_comm (l % _) (2 ^ k)]
   _=_:=by rw [hKM]
 have hb':2 ^ k*(l % 2 ^ (64 - k)) < 18446744073709551616:=by
  rw [← hKM];exact Nat.mul_lt_mul_of_pos_left hb hK
 refine ⟨?_,?_,?_,ha,hb'⟩
 ·rw [e1,e3,IntKind.wrap_u64,Int.emod_eq_of_lt (by omega) (by omega),u64_or_nat _ _ hH (by have:2 ^ k≤18446744073709551616:=(by rw [← hKM];exact Nat.le_mul_of_pos_right _ hM);omega)]
  rw [nat_join k _ _ (Nat.mul_mod_left _ _) ha]
 ·rw [e2,IntKind.wrap_u64,hlk]
  omega
 ·rw [Nat.add_mul,Nat.add_mul,hlk,Nat.mul_assoc,Nat.mul_comm (2 ^ k) 18446744073709551616,← Nat.mul_assoc]
  omega
end Go.Proofs.YtlgkfeeclgcgbaaGreatDoor
/- THE PLAIN MATHEMATICS of numbers of 128 bits: no Go in sight. Own work of the verifier. -/
namespace Go.Proofs.YtlgkfeeclgcgbaaGreatDoor
def val (h l:Int):Int:=h*18446744073709551616+l
def hiOf (n:Int):Int:=n / 18446744073709551616
def loOf (n:Int):Int:=n % 18446744073709551616
def rnd (n:Int):Int:=(n+170141183460469231731687303715884105728) % 340282366920938463463374607431768211456 - 170141183460469231731687303715884105728
structure Wf (h l:Int):Prop where
 h0:-9223372036854775808≤h
 h1:h≤9223372036854775807
 l0:0≤l
 l1:l < 18446744073709551616
structure InR (n:Int):Prop where
 lo:-170141183460469231731687303715884105728≤n
 hi:n < 170141183460469231731687303715884105728
theorem val_hl (n:Int):val (hiOf n) (loOf n)=n:=by unfold val hiOf loOf;omega
theorem inR_rnd (n:Int):InR (rnd n):=by constructor <;> (unfold rnd;omega)
theorem wf_of {n:Int} (h:InR n):Wf (hiOf n) (loOf n):=by obtain ⟨_,_⟩:=h;constructor <;> (simp only [hiOf,loOf];omega)
theorem rnd_of {n:Int} (h:InR n):rnd n=n:=by obtain ⟨_,_⟩:=h;unfold rnd;omega
theorem val_inj {a b c d:Int} (h:Wf a b) (k:Wf c d):val a b=val c d ↔ a=c∧b=d:=by
 obtain ⟨_,_,_,_⟩:=h;obtain ⟨_,_,_,_⟩:=k;unfold val;constructor
 ·intro e;constructor <;> omega
 ·rintro ⟨rfl,rfl⟩;rfl
theorem val_lt {a b c d:Int} (h:Wf a b) (k:Wf c d):val a b < val c d ↔ a < c∨a=c∧b < d:=by
 obtain ⟨_,_,_,_⟩:=h;obtain ⟨_,_,_,_⟩:=k;unfold val;omega
def cmp (a b:Int):Int:=if a < b then -1 else if a=b then 0 else 1
end Go.Proofs.YtlgkfeeclgcgbaaGreatDoor
/- Rank, AtMost, Quantile, the document's. Own work of the verifier. -/
namespace Go.Proofs.YtlgkfeeclgcgbaaGreatDoor
open Go.RowKit
theorem mayIs_ex (p:Int) (L:List Cn):∃ e,MayIs p L e:=by
 by_cases hp:1≤p∧p≤14
 ·by_cases h:∀ j,j < L.length→bad ((64 - p.toNat)*2 ^ p.toNat) L j=0
  ·exact ⟨_,Or.inr ⟨hp,Or.inr ⟨h,rfl⟩⟩⟩
  ·have:∀ m,(∃ j,j < m∧j < L.length∧bad ((64 - p.toNat)*2 ^ p.toNat) L j≠0)→∃ i,i < L.length∧(∀ j,j < i→bad ((64 - p.toNat)*2 ^ p.toNat) L j=0)∧bad ((64 - p.toNat)*2 ^ p.toNat) L i≠0:=by
    intro m
    induction m with
    | zero=>rintro ⟨j,hj,_⟩;omega
    | succ m ih =>
     rintro ⟨j,hj,hl,hb⟩
     by_cases c:∃ j,j < m∧j < L.length∧bad ((64 - p.toNat)*2 ^ p.toNat) L j≠0
     ·exact ih c
     ·have e:j=m:=by
       by_cases h':j < m
       ·exact absurd ⟨j,h',hl,hb⟩ c
       ·omega
      subst e
      refine ⟨j,hl,fun k hk=>?_,hb⟩
      by_cases h':bad ((64 - p.toNat)*2 ^ p.toNat) L k=0
      ·exact h'
      ·exact absurd ⟨k,hk,by omega,h'⟩ c
   have hex:∃ j,j < L.length∧j < L.length∧bad ((64 - p.toNat)*2 ^ p.toNat) L j≠0:=by
    apply Classical.byContradiction
    intro hn
    exact h fun j hj=>Classical.byContradiction fun hb=>hn ⟨j,hj,hj,hb⟩
   obtain ⟨i,h1,h2,h3⟩:=this _ hex
   exact ⟨_,Or.inr ⟨hp,Or.inl ⟨i,h1,h2,h3,rfl⟩⟩⟩
 ·exact ⟨1,Or.inl ⟨hp,rfl⟩⟩
end Go.Proofs.YtlgkfeeclgcgbaaGreatDoor
