/- THE PLAIN MATHEMATICS of floats of 64 bits (no Go in sight). Own work of the verifier. -/
import Derived.Test.YtlgkfeeclgcgbaaGreatDoorZAA
import Derived.Laws.FloatArith
import Derived.Test.YtlgkfeeclgcgbaaGreatDoorZAB
import Derived.Laws.BitsAllLaws
import Derived.Test.YtlgkfeeclgcgbaaGreatDoorShelf
import Derived.Test.YtlgkfeeclgcgbaaGreatDoorZAC
import Derived.Lib.ItoaMem
import Derived.Laws.Strings
import Derived.Lib.ItoaNum
import Derived.Lib.Repeat
import Derived.Deep.RegionWith
namespace Go.Proofs.YtlgkfeeclgcgbaaGreatDoor.Wi
def uV (a:Nat):Nat:=if a < 4503599627370496 then a else (4503599627370496+a % 4503599627370496)*2 ^ (a / 4503599627370496 - 1)
theorem uV_succ (a:Nat):uV a < uV (a+1):=by
 unfold uV
 by_cases h1:a+1 < 4503599627370496
 ·rw [if_pos (by omega),if_pos h1];omega
 ·by_cases h2:a < 4503599627370496
  ·obtain rfl:a=4503599627370495:=by omega
   decide
  ·rw [if_neg h2,if_neg h1]
   have hp:0 < 2 ^ (a / 4503599627370496 - 1):=Nat.pow_pos (by decide)
   by_cases h3:(a+1) % 4503599627370496=0
   ·have e1:(a+1) / 4503599627370496 - 1=(a / 4503599627370496 - 1)+1:=by omega
    rw [h3,e1,Nat.pow_succ]
    have e2:a % 4503599627370496=4503599627370495:=by omega
    rw [e2]
    generalize 2 ^ (a / 4503599627370496 - 1)=p at *
    omega
   ·have e1:(a+1) / 4503599627370496=a / 4503599627370496:=by omega
    have e2:(a+1) % 4503599627370496=a % 4503599627370496+1:=by omega
    rw [e1,e2]
    exact Nat.mul_lt_mul_of_pos_right (by omega) hp
theorem uV_mono {a b:Nat} (h:a < b):uV a < uV b:=by
 induction b with
 | zero=>omega
 | succ b ih =>
  rcases Nat.lt_or_eq_of_le (Nat.le_of_lt_succ h) with k | k
  ·exact Nat.lt_trans (ih k) (uV_succ b)
  ·rw [k];exact uV_succ b
def magOf (a:Nat):Nat:=if a < 4503599627370496 then a else 4503599627370496+a % 4503599627370496
def upOf (a:Nat):Nat:=if a < 4503599627370496 then 0 else a / 4503599627370496 - 1
theorem uV_eq (a:Nat):magOf a*2 ^ upOf a=uV a:=by
 unfold magOf upOf uV;split <;> simp
theorem fmt:Ieee.double.signWeight=9223372036854775808∧Ieee.double.binade=4503599627370496∧Ieee.double.infRung=9218868437227405312∧Ieee.double.leastPlace=-1074:=by decide
theorem read_pos (a:Nat) (h:a < 9218868437227405312):Ieee.double.read a=.number false (magOf a) (-1074+(upOf a:Int)):=by
 obtain ⟨f1,f2,f3,f4⟩:=fmt
 have e1:(a / 9223372036854775808 % 2 == 1)=false:=by rw [beq_eq_false_iff_ne];omega
 have e2:a % 9223372036854775808=a:=by omega
 unfold Ieee.Format.read magOf upOf
 simp only [f1,f2,f3,f4,e1,e2]
 by_cases hl:a < 4503599627370496
 ·rw [if_pos hl,if_pos hl,if_pos hl];rfl
 ·rw [if_neg hl,if_neg hl,if_neg hl,if_pos h]
theorem cmp_nat (x y:Nat):compare ((x:Nat):Int) ((y:Nat):Int)=compare x y:=by
 rcases Nat.lt_trichotomy x y with h | h | h
 ·rw [Nat.compare_eq_lt.2 h];exact Int.compare_eq_lt.2 (by omega)
 ·subst h;simp
 ·rw [Nat.compare_eq_gt.2 h];exact Int.compare_eq_gt.2 (by omega)
theorem cmp_mul (x y p:Nat) (hp:0 < p):compare (x*p) (y*p)=compare x y:=by
 rcases Nat.lt_trichotomy x y with h | h | h
 ·rw [Nat.compare_eq_lt.2 h,Nat.compare_eq_lt.2 (Nat.mul_lt_mul_of_pos_right h hp)]
 ·subst h;simp
 ·rw [Nat.compare_eq_gt.2 h,Nat.compare_eq_gt.2 (Nat.mul_lt_mul_of_pos_right h hp)]
theorem cmp_uV (a b:Nat):compare (uV a) (uV b)=compare a b:=by
 rcases Nat.lt_trichotomy a b with h | h | h
 ·rw [Nat.compare_eq_lt.2 h,Nat.compare_eq_lt.2 (uV_mono h)]
 ·subst h;simp
 ·rw [Nat.compare_eq_gt.2 h,Nat.compare_eq_gt.2 (uV_mono h)]
theorem order_pos (a b:Nat) (ha:a < 9218868437227405312) (hb:b < 9218868437227405312):Ieee.double.order a b=some (compare a b):=by
 unfold Ieee.Format.order
 rw [read_pos a ha,read_pos b hb]
 simp only [Ieee.Datum.order,Ieee.signed]
 congr 1
 rw [if_neg (by decide),if_neg (by decide),cmp_nat]
 have s1:∀ (m k:Nat),m <<< k=m*2 ^ k:=fun m k=>Nat.shiftLeft_eq m k
 rw [s1,s1,← cmp_uV a b,← uV_eq a,← uV_eq b]
 have hx:∃ c:Nat,upOf a=(-1074+(upOf a:Int) - min (-1074+(upOf a:Int)) (-1074+(upOf b:Int))).toNat+c∧upOf b=(-1074+(upOf b:Int) - min (-1074+(upOf a:Int)) (-1074+(upOf b:Int))).toNat+c:=by
  refine ⟨min (upOf a) (upOf b),?_,?_⟩ <;> omega
 obtain ⟨c,h1,h2⟩:=hx
 generalize (-1074+(upOf a:Int) - min (-1074+(upOf a:Int)) (-1074+(upOf b:Int))).toNat=x at *
 generalize (-1074+(upOf b:Int) - min (-1074+(upOf a:Int)) (-1074+(upOf b:Int))).toNat=y at *
 rw [h1,h2,Nat.pow_add,Nat.pow_add,← Nat.mul_assoc,← Nat.mul_assoc,cmp_mul _ _ _ (Nat.pow_pos (by decide))]
def rb (N d:Nat):Nat:=if 2 ^ d < 2*(N % 2 ^ d)∨2 ^ d=2*(N % 2 ^ d)∧N / 2 ^ d % 2=1 then 1 else 0
def fword (N:Nat):Nat:=Ieee.double.nearest false N 0
theorem fword_small (N:Nat) (hN:N≠0) (h:N.log2≤52):fword N=(N.log2+1022)*4503599627370496+N*2 ^ (52 - N.log2):=by
 obtain ⟨f1,f2,f3,f4⟩:=fmt
 have hlt:N < 2 ^ (N.log2+1):=Nat.lt_log2_self
 unfold fword Ieee.Format.nearest
 rw [if_neg hN]
 simp only [f2,f3,f4]
 have e0:(Ieee.double.fractionBits:Int)=52:=rfl
 have e1:max ((0:Int)+(N.log2:Int) - (Ieee.double.fractionBits:Int)) (-1074)=(N.log2:Int) - 52:=by rw [e0];omega
 rw [e1]
 have e2:((0:Int) - ((N.log2:Int) - 52)).toNat=52 - N.log2:=by omega
 have e3:((N.log2:Int) - 52 - 0).toNat=0:=by omega
 have e4:((N.log2:Int) - 52 - -1074).toNat=N.log2+1022:=by omega
 rw [e2,e3,e4]
 have hc:Ieee.Toward.even.cut false (N <<< (52 - N.log2)) 0=N*2 ^ (52 - N.log2):=by
  unfold Ieee.Toward.cut
  rw [Nat.shiftLeft_eq]
  simp [Nat.mod_one,Nat.shiftLeft_eq]
 rw [hc]
 have hk:N*2 ^ (52 - N.log2) < 9007199254740992:=by
  calc N*2 ^ (52 - N.log2) < 2 ^ (N.log2+1)*2 ^ (52 - N.log2):=Nat.mul_lt_mul_of_pos_right hlt (Nat.pow_pos (by decide))
   _=9007199254740992:=by rw [← Nat.pow_add,show N.log2+1+(52 - N.log2)=53 from by omega]
 unfold Ieee.Format.word
 rw [if_neg (by decide),Nat.min_eq_left (by omega)]
theorem fword_big (N:Nat) (h:52 < N.log2) (h2:N.log2≤127):fword N=(N.log2+1022)*4503599627370496+(N / 2 ^ (N.log2 - 52)+rb N (N.log2 - 52)):=by
 obtain ⟨f1,f2,f3,f4⟩:=fmt
 have hN:N≠0:=by intro e;subst e;simp at h
 have hlt:N < 2 ^ (N.log2+1):=Nat.lt_log2_self
 unfold fword Ieee.Format.nearest
 rw [if_neg hN]
 simp only [f2,f3,f4]
 have e0:(Ieee.double.fractionBits:Int)=52:=rfl
 have e1:max ((0:Int)+(N.log2:Int) - (Ieee.double.fractionBits:Int)) (-1074)=(N.log2:Int) - 52:=by rw [e0];omega
 rw [e1]
 have e2:((0:Int) - ((N.log2:Int) - 52)).toNat=0:=by omega
 have e3:((N.log2:Int) - 52 - 0).toNat=N.log2 - 52:=by omega
 have e4:((N.log2:Int) - 52 - -1074).toNat=N.log2+1022:=by omega
 rw [e2,e3,e4]
 have hc:Ieee.Toward.even.cut false (N <<< 0) (N.log2 - 52)=N / 2 ^ (N.log2 - 52)+rb N (N.log2 - 52):=by
  unfold Ieee.Toward.cut rb
  rw [Nat.shiftLeft_zero,Nat.min_eq_left (by omega),Nat.shiftLeft_eq,Nat.one_mul]
  simp only
  by_cases c:2 ^ (N.log2 - 52) < 2*(N % 2 ^ (N.log2 - 52))∨2 ^ (N.log2 - 52)=2*(N % 2 ^ (N.log2 - 52))∧N / 2 ^ (N.log2 - 52) % 2=1
  ·rw [if_pos c]
   have:(decide (2 ^ (N.log2 - 52) < 2*(N % 2 ^ (N.log2 - 52))) || (2 ^ (N.log2 - 52) == 2*(N % 2 ^ (N.log2 - 52)) && N / 2 ^ (N.log2 - 52) % 2 == 1))=true:=by simpa using c
   rw [this];rfl
  ·rw [if_neg c]
   have:(decide (2 ^ (N.log2 - 52) < 2*(N % 2 ^ (N.log2 - 52))) || (2 ^ (N.log2 - 52) == 2*(N % 2 ^ (N.log2 - 52)) && N / 2 ^ (N.log2 - 52) % 2 == 1))=false:=by
    rw [← Bool.not_eq_true];simpa using c
   rw [this];rfl
 rw [hc]
 have hk:N / 2 ^ (N.log2 - 52) < 9007199254740992:=by
  rw [Nat.div_lt_iff_lt_mul (Nat.pow_pos (by decide))]
  calc N < 2 ^ (N.log2+1):=hlt
   _=9007199254740992*2 ^ (N.log2 - 52):=by rw [show (9007199254740992:Nat)=2 ^ 53 from by decide,← Nat.pow_add,show 53+(N.log2 - 52)=N.log2+1 from by omega]
 have hr:rb N (N.log2 - 52)≤1:=by unfold rb;split <;> omega
 unfold Ieee.Format.word
 rw [if_neg (by decide),Nat.min_eq_left (by omega)]
theorem mul_one_pos (y:Nat) (h1:4503599627370496≤y) (h2:y < 9218868437227405312):Ieee.double.mul 4607182418800017408 y=some y:=by
 obtain ⟨f1,f2,f3,f4⟩:=fmt
 unfold Ieee.Format.mul
 rw [read_pos _ (by decide),read_pos y h2]
 have hm:magOf 4607182418800017408=4503599627370496:=by decide
 have hu:upOf 4607182418800017408=1022:=by decide
 rw [hm,hu]
 simp only [Ieee.Datum.product,Option.map_some]
 congr 1
 show Ieee.double.nearest false (4503599627370496*magOf y) (-1074+((1022:Nat):Int)+(-1074+(upOf y:Int)))=y
 unfold Ieee.Format.nearest
 have hM1:4503599627370496≤magOf y:=by unfold magOf;rw [if_neg (by omega)];omega
 have hM2:magOf y < 9007199254740992:=by unfold magOf;rw [if_neg (by omega)];omega
 have hY:upOf y*4503599627370496+magOf y=y:=by unfold upOf magOf;rw [if_neg (by omega),if_neg (by omega)];omega
 have hne:4503599627370496*magOf y≠0:=by omega
 have hlog:(4503599627370496*magOf y).log2=104:=by
  rw [Nat.log2_eq_iff hne]
  rw [show (2:Nat) ^ 104=4503599627370496*4503599627370496 from by decide,show (2:Nat) ^ (104+1)=4503599627370496*9007199254740992 from by decide]
  exact ⟨Nat.mul_le_mul_left _ hM1,Nat.mul_lt_mul_of_pos_left hM2 (by decide)⟩
 rw [if_neg hne]
 simp only [f2,f3,f4,hlog]
 have e0:(Ieee.double.fractionBits:Int)=52:=rfl
 rw [show max ((-1074:Int)+((1022:Nat):Int)+(-1074+(upOf y:Int))+((104:Nat):Int) - (Ieee.double.fractionBits:Int)) (-1074)=-1074+(upOf y:Int) from by rw [e0];omega]
 rw [show ((-1074:Int)+((1022:Nat):Int)+(-1074+(upOf y:Int)) - (-1074+(upOf y:Int))).toNat=0 from by omega]
 rw [show ((-1074:Int)+(upOf y:Int) - (-1074+((1022:Nat):Int)+(-1074+(upOf y:Int)))).toNat=52 from by omega]
 rw [show ((-1074:Int)+(upOf y:Int) - -1074).toNat=upOf y from by omega]
 have hc:∀ s,Ieee.Toward.even.cut s ((4503599627370496*magOf y) <<< 0) 52=magOf y:=by
  intro s
  unfold Ieee.Toward.cut
  rw [Nat.shiftLeft_zero,hlog,show (1:Nat) <<< min 52 (104+2)=4503599627370496 from by decide]
  simp only [Nat.mul_mod_right,Nat.mul_zero]
  rw [Nat.mul_div_cancel_left _ (by decide)]
  simp
 rw [hc,hY]
 unfold Ieee.Format.word
 rw [if_neg (by decide),Nat.min_eq_left (by omega)]
end Go.Proofs.YtlgkfeeclgcgbaaGreatDoor.Wi
/- math.Ldexp AT A NORMAL FLOAT. Own work of the verifier. -/
set_option maxRecDepth 100000
set_option maxHeartbeats 1000000
namespace Go.Proofs.YtlgkfeeclgcgbaaGreatDoor.Wi
open Go.RowKit
theorem f64bits (x:Nat) (w:World):(callFunc 140 #[.float .f64 x]).run Tryz.prog w=.ok (.value (.int .u64 (x:Int))) w:=by
 rw [run_callFunc_extern Tryz.func140 (by kernel_rfl) (by kernel_rfl) (by kernel_rfl) (e:=Extern.MathFloatBits.float64bits) (by kernel_rfl)]
 rfl
theorem f64from (x:Int) (w:World):(callFunc 139 #[.int .u64 x]).run Tryz.prog w=.ok (.value (.float .f64 x.toNat)) w:=by
 rw [run_callFunc_extern Tryz.func139 (by kernel_rfl) (by kernel_rfl) (by kernel_rfl) (e:=Extern.MathFloatBits.float64frombits) (by kernel_rfl)]
 rfl
theorem clear_sign (x:Nat) (h:x < 9223372036854775808):bits .andNot .u64 (x:Int) 9223372036854775808=(x:Int):=by
 have:=u64_andNot_nat x 9223372036854775808 (by omega) (by decide)
 rw [show ((9223372036854775808:Nat):Int)=9223372036854775808 from rfl] at this
 rw [this,show 18446744073709551615 - 9223372036854775808=2 ^ 63 - 1 from by decide,Nat.and_two_pow_sub_one_eq_mod]
 omega
theorem ord_gt {x y:Nat} (hx:x < 9218868437227405312) (hy:y < 9218868437227405312) (h:y < x):FloatKind.f64.format.order x y=some .gt:=by
 have:=order_pos x y hx hy
 rw [Nat.compare_eq_gt.2 h] at this
 exact this
theorem ord_lt {x y:Nat} (hx:x < 9218868437227405312) (hy:y < 9218868437227405312) (h:x < y):FloatKind.f64.format.order x y=some .lt:=by
 have:=order_pos x y hx hy
 rw [Nat.compare_eq_lt.2 h] at this
 exact this
theorem ord_eq {x:Nat} (hx:x < 9218868437227405312):FloatKind.f64.format.order x x=some .eq:=by
 have:=order_pos x x hx hx
 rw [Nat.compare_eq_eq.2 rfl] at this
 exact this
theorem abs_any (x:Nat) (h:x < 9223372036854775808) (w:World):Calls Tryz.prog 118 #[.float .f64 x] w fun e w'=>e=.returned (.float .f64 x)∧w'=w:=by
 have hc:=clear_sign x h
 go_enter Tryz.func118,Tryz.ntmps118
 go_wp2_with (first | simp only [f64bits] | simp only [f64from])
 go_ret
 exact ⟨rfl,rfl⟩
theorem isinf_any (x:Nat) (h:x < 9218868437227405312) (w:World):Calls Tryz.prog 311 #[.float .f64 x,.int .i64 0] w fun e w'=>e=.returned (.bool false)∧w'=w:=by
 have o1:(FloatKind.f64.format.order x 9218868437227405311 == some .gt)=false:=by
  rcases Nat.lt_or_eq_of_le (show x≤9218868437227405311 by omega) with k | k
  ·rw [ord_lt h (by decide) k];decide
  ·rw [k,ord_eq (by decide)];decide
 go_enter Tryz.func311,Tryz.ntmps311
 go_wp2_with (go_at_call 118;refine (abs_any x (by omega) _).mono ?_;rintro e w' ⟨rfl,rfl⟩)
 go_ret
 exact ⟨rfl,rfl⟩
theorem isnan_any (x:Nat) (h:x < 9218868437227405312) (w:World):Calls Tryz.prog 312 #[.float .f64 x] w fun e w'=>e=.returned (.bool false)∧w'=w:=by
 have o1:(FloatKind.f64.format.order x x != some .eq)=false:=by rw [ord_eq h];decide
 go_enter Tryz.func312,Tryz.ntmps312
 go_wp2
 go_ret
 exact ⟨rfl,rfl⟩
theorem normalize_any (x:Nat) (hx:4503599627370496≤x) (h:x < 9218868437227405312) (w:World):Calls Tryz.prog 313 #[.float .f64 x] w fun e w'=>e=.returned (.tuple #[.float .f64 x,.int .i64 0])∧w'=w:=by
 have o1:(FloatKind.f64.format.order x 4503599627370496 == some .lt)=false:=by
  rcases Nat.lt_or_eq_of_le hx with k | k
  ·rw [ord_gt h (by decide) k];decide
  ·rw [← k,ord_eq (by decide)];decide
 go_enter Tryz.func313,Tryz.ntmps313
 go_wp2_with (go_at_call 118;refine (abs_any x (by omega) _).mono ?_;rintro e w' ⟨rfl,rfl⟩)
 go_ret2
 exact ⟨rfl,rfl⟩
theorem exp_field (x:Nat) (h:x < 9218868437227405312):bits .and .i64 ((x:Int) / 4503599627370496) 2047=((x / 4503599627370496:Nat):Int):=by
 have e:((x:Int) / 4503599627370496)=((x / 4503599627370496:Nat):Int):=by omega
 rw [e]
 show IntKind.i64.wrap ((BitVec.ofInt 64 ((x / 4503599627370496:Nat):Int) &&& BitVec.ofInt 64 ((2047:Nat):Int)).toNat:Int)=_
 rw [BitVec.toNat_and,ofInt_u64 _ (by omega),ofInt_u64 _ (by decide),show (2047:Nat)=2 ^ 11 - 1 from by decide,Nat.and_two_pow_sub_one_eq_mod,IntKind.wrap_i64]
 omega
theorem frac_field (x:Nat) (h:x < 9218868437227405312):bits .andNot .u64 (x:Int) 9218868437227405312=((x % 4503599627370496:Nat):Int):=by
 have:=u64_andNot_nat x 9218868437227405312 (by omega) (by decide)
 rw [show ((9218868437227405312:Nat):Int)=9218868437227405312 from rfl] at this
 rw [this]
 congr 1
 have e1:18446744073709551615 - 9218868437227405312=2 ^ 63+(2 ^ 52 - 1):=by decide
 rw [e1]
 apply Nat.eq_of_testBit_eq
 intro i
 rw [Nat.testBit_and,show (4503599627370496:Nat)=2 ^ 52 from by decide,Nat.testBit_mod_two_pow]
 by_cases hi:i < 52
 ·have:(2 ^ 63+(2 ^ 52 - 1)).testBit i=true:=by
   rw [show 2 ^ 63+(2 ^ 52 - 1)=2 ^ 63 ||| (2 ^ 52 - 1) from by decide,Nat.testBit_or,Nat.testBit_two_pow_sub_one]
   simp [hi]
  rw [this];simp [hi]
 ·by_cases hb:i < 63
  ·have:(2 ^ 63+(2 ^ 52 - 1)).testBit i=false:=by
    rw [show 2 ^ 63+(2 ^ 52 - 1)=2 ^ 63 ||| (2 ^ 52 - 1) from by decide,Nat.testBit_or,Nat.testBit_two_pow_sub_one,Nat.testBit_two_pow_of_ne (by omega)]
    simp [hi]
   rw [this];simp [hi]
  ·have:x.testBit i=false:=Nat.testBit_lt_two_pow (Nat.lt_of_lt_of_le (show x < 2 ^ 63 by omega) (Nat.pow_le_pow_right (by decide) (by omega)))
   rw [this];simp
theorem ldexp_w (x j E f Y:Nat) (hx:4503599627370496≤x) (hx2:x < 9218868437227405312) (hE1:1≤E) (hj:E+j≤2046) (w:World)
  (e1:bits .and .i64 ((x:Int) / 4503599627370496) 2047=(E:Int)) (e2:bits .andNot .u64 (x:Int) 9218868437227405312=(f:Int))
  (e3:bits .or .u64 (f:Int) (((j:Int)+((E:Int) - 1023)+1023)*4503599627370496)=(Y:Int)) (hm:floatBits .mul .f64 4607182418800017408 Y=some Y) :
  Calls Tryz.prog 306 #[.float .f64 x,.int .i64 j] w fun e w'=>e=.returned (.float .f64 Y)∧w'=w:=by
 have o1:(FloatKind.f64.format.order x 0 == some .eq)=false:=by rw [ord_gt hx2 (by decide) (by omega)];decide
 have m1:∀ W,(binOp .mul 57 (.float .f64 4607182418800017408) (.float .f64 Y)).run Tryz.prog W=.ok (.float .f64 Y) W:=fun W=>run_float_arith W .mul 57 .f64 _ _ _ hm
 clear hm
 go_enter Tryz.func306,Tryz.ntmps306
 go_wp2_with (first
  | simp only [f64bits]
  | simp only [f64from]
  | (go_at_call 311;refine (isinf_any x hx2 _).mono ?_;rintro e w' ⟨rfl,rfl⟩)
  | (go_at_call 312;refine (isnan_any x hx2 _).mono ?_;rintro e w' ⟨rfl,rfl⟩)
  | (go_at_call 313;refine (normalize_any x hx hx2 _).mono ?_;rintro e w' ⟨rfl,rfl⟩))
 go_ret
 exact ⟨rfl,rfl⟩
theorem join_fields (f E:Nat) (hf:f < 4503599627370496) (hE:E≤2046):bits .or .u64 (f:Int) ((E:Int)*4503599627370496)=((E*4503599627370496+f:Nat):Int):=by
 have:=u64_or_nat f (E*4503599627370496) (by omega) (by omega)
 rw [show ((E*4503599627370496:Nat):Int)=(E:Int)*4503599627370496 from by omega] at this
 rw [this,Nat.or_comm,nat_join 52 _ _ (by rw [show (2:Nat) ^ 52=4503599627370496 from by decide];omega) (by rw [show (2:Nat) ^ 52=4503599627370496 from by decide];exact hf)]
theorem ldexp_any (x j:Nat) (hx:4503599627370496≤x) (hx2:x < 9218868437227405312) (hj:x / 4503599627370496+j≤2046) (w:World) :
  Calls Tryz.prog 306 #[.float .f64 x,.int .i64 j] w fun e w'=>e=.returned (.float .f64 (x+j*4503599627370496))∧w'=w:=by
 have hY:=join_fields (x % 4503599627370496) (x / 4503599627370496+j) (by omega) hj
 rw [show (x / 4503599627370496+j)*4503599627370496+x % 4503599627370496=x+j*4503599627370496 from by omega] at hY
 refine ldexp_w x j (x / 4503599627370496) (x % 4503599627370496) _ hx hx2 (by omega) hj w (exp_field x hx2) (frac_field x hx2) ?_ (mul_one_pos _ (by omega) (by omega))
 rw [show ((j:Int)+(((x / 4503599627370496:Nat):Int) - 1023)+1023)=((x / 4503599627370496+j:Nat):Int) from by omega]
 exact hY
theorem ldexp_zero (j:Int) (w:World):Calls Tryz.prog 306 #[.float .f64 0,.int .i64 j] w fun e w'=>e=.returned (.float .f64 0)∧w'=w:=by
 have o1:(FloatKind.f64.format.order 0 0 == some .eq)=true:=by rw [ord_eq (by decide)];decide
 go_enter Tryz.func306,Tryz.ntmps306
 go_wp2
 go_ret
 exact ⟨rfl,rfl⟩
theorem Ldexp_of (x Y:Nat) (j:Int) (h:∀ W,Calls Tryz.prog 306 #[.float .f64 x,.int .i64 j] W fun e w'=>e=.returned (.float .f64 Y)∧w'=W) (w:World) :
  Calls Tryz.prog 300 #[.float .f64 x,.int .i64 j] w fun e w'=>e=.returned (.float .f64 Y)∧w'=w:=by
 have H:Hid _:=h
 clear h
 go_enter Tryz.func300,Tryz.ntmps300
 go_wp2_with fail
 refine (H.out _).mono ?_
 rintro e w' ⟨rfl,rfl⟩
 go_wp2
 go_ret
 exact ⟨rfl,rfl⟩
end Go.Proofs.YtlgkfeeclgcgbaaGreatDoor.Wi
/- Own work of the verifier. -/
set_option maxHeartbeats 400000
namespace Go.Proofs.YtlgkfeeclgcgbaaGreatDoor.Wi
open Go.RowKit
theorem bcell {W w1:World} (hb:Below W.heap.size W w1):(∀ b o,b < W.heap.size→w1.cell? ⟨b,o,none⟩=W.cell? ⟨b,o,none⟩)∧(∀ b o,b < W.heap.size→w1.frozen? ⟨b,o,none⟩=W.frozen? ⟨b,o,none⟩) :=
 ⟨fun b o h=>hb.cell (p:=⟨b,o,none⟩) h,fun b o h=>hb.frozen (p:=⟨b,o,none⟩) h⟩
theorem Below.drewN' {B:Nat} {a w:World} (h:Below B a w) (n:Nat):Below B a (w.drewN n):=by
 induction n with
 | zero=>exact h
 | succ n ih=>exact ⟨ih.os,ih.tape,ih.output,ih.size,ih.block⟩
theorem neg_any (ah al:Int) (h1:Wf ah al) (w:World) :
  Calls Tryz.prog 304 #[.agg #[.int .i64 ah,.int .u64 al]] w fun e w' =>
   e=.returned (num (rnd (- val ah al)))∧Below w.heap.size w w':=by
 have hs:=sub_any 0 0 ah al ⟨by decide,by decide,by decide,by decide⟩ h1
 rw [show val 0 0 - val ah al=- val ah al from by rw [show val 0 0=0 from by decide];omega] at hs
 have HS:Hid _:=hs
 clear hs
 go_enter Tryz.func304,Tryz.ntmps304
 go_wp2_with fail
 refine (HS.out _).mono ?_
 rintro e w1 ⟨rfl,hb⟩
 obtain ⟨hc,hf⟩:=bcell hb
 have hz:w.heap.size+1 < w1.heap.size:=by have:=hb.size;simp at this;omega
 go_wp2
 simp [bodyPost,results,Tryz.results304,go_sem,hc]
 exact (((bel2 w _ _).trans (hb.mono (by simp;omega))).setCell (by simp) _).setCell (by simp) _
def mag (n:Int):Int:=if n < 0 then -n else n
theorem mag_words {ah al:Int} (h1:Wf ah al) (hn:0≤ah):ah=hiOf (mag (val ah al))∧al=loOf (mag (val ah al)):=by
 obtain ⟨_,_,_,_⟩:=h1
 have:mag (val ah al)=val ah al:=by unfold mag;rw [if_neg (by unfold val;omega)]
 rw [this];unfold hiOf loOf val;constructor <;> omega
theorem mag_words' {ah al:Int} (h1:Wf ah al) (hn:ah < 0):IntKind.u64.wrap (hiOf (rnd (- val ah al)))=hiOf (mag (val ah al))∧loOf (rnd (- val ah al))=loOf (mag (val ah al)):=by
 obtain ⟨_,_,_,_⟩:=h1
 have:mag (val ah al)=- val ah al:=by unfold mag;rw [if_pos (by unfold val;omega)]
 rw [this,IntKind.wrap_u64];unfold hiOf loOf rnd val;constructor <;> omega
theorem mag_any (ah al:Int) (h1:Wf ah al) (w:World) :
  Calls Tryz.prog 298 #[.agg #[.int .i64 ah,.int .u64 al]] w fun e w' =>
   e=.returned (.tuple #[.int .u64 (hiOf (mag (val ah al))),.int .u64 (loOf (mag (val ah al)))])∧Below w.heap.size w w':=by
 by_cases hn:0≤ah
 ·obtain ⟨e1,e2⟩:=mag_words h1 hn
  rw [← e1,← e2]
  clear e1 e2
  obtain ⟨a1,a2,a3,a4⟩:=h1
  go_enter Tryz.func298,Tryz.ntmps298
  go_wp2
  go_quiet (fail)
  go_wp2
  go_ret2
  exact ⟨rfl,Below.drewN' (bel1 w _) _⟩
 ·obtain ⟨e1,e2⟩:=mag_words' h1 (by omega)
  rw [← e1,← e2]
  clear e1 e2
  have hn':ah < 0:=by omega
  go_enter Tryz.func298,Tryz.ntmps298
  go_wp2_with fail
  refine (neg_any _ _ h1 _).mono ?_
  rintro e w1 ⟨rfl,hb⟩
  obtain ⟨hc,hf⟩:=bcell hb
  have hz:w.heap.size < w1.heap.size:=by have:=hb.size;simp at this;omega
  go_wp2
  go_quiet (fail)
  go_wp2
  go_ret2
  exact ⟨rfl,Below.drewN' ((((bel1 w _).trans (hb.mono (by simp))).setCell (by simp) _).setCell (by simp) _) _⟩
end Go.Proofs.YtlgkfeeclgcgbaaGreatDoor.Wi
/- Own work of the verifier. -/
namespace Go.Proofs.YtlgkfeeclgcgbaaGreatDoor.Wi
open Go.RowKit Go.Sort
theorem mag_0 (n:Int):0≤mag n:=by unfold mag;split <;> omega
theorem mag_le {ah al:Int} (h1:Wf ah al):0≤hiOf (mag (val ah al))∧hiOf (mag (val ah al))≤9223372036854775808∧0≤loOf (mag (val ah al))∧loOf (mag (val ah al)) < 18446744073709551616:=by
 obtain ⟨_,_,_,_⟩:=h1
 unfold mag hiOf loOf val;split <;> omega
theorem val_neg {ah al:Int} (h1:Wf ah al):val ah al < 0 ↔ ah < 0:=by
 obtain ⟨_,_,_,_⟩:=h1;unfold val;omega
end Go.Proofs.YtlgkfeeclgcgbaaGreatDoor.Wi
/- Own work of the verifier. -/
namespace Go.Proofs.YtlgkfeeclgcgbaaGreatDoor.Wi
open Go.RowKit Go.Sort
theorem own2 {w w1:World} {a b:Value} {t:TypeId} (hb:Below (w.alloc (.cells #[a,b] t)).heap.size (w.alloc (.cells #[a,b] t)) w1) :
  w1.cell? ⟨w.heap.size,0,none⟩=some a∧w1.cell? ⟨w.heap.size,1,none⟩=some b∧w1.frozen? ⟨w.heap.size,0,none⟩=false∧w1.frozen? ⟨w.heap.size,1,none⟩=false∧w.heap.size < w1.heap.size:=by
 refine ⟨?_,?_,?_,?_,by have:=hb.size;simp at this;omega⟩
 ·rw [hb.cell (p:=⟨w.heap.size,0,none⟩) (by simp)];simp [go_sem]
 ·rw [hb.cell (p:=⟨w.heap.size,1,none⟩) (by simp)];simp [go_sem]
 ·rw [hb.frozen (p:=⟨w.heap.size,0,none⟩) (by simp)];simp [go_sem]
 ·rw [hb.frozen (p:=⟨w.heap.size,1,none⟩) (by simp)];simp [go_sem]
end Go.Proofs.YtlgkfeeclgcgbaaGreatDoor.Wi
/- THE PLAIN MATHEMATICS of the float nearest to a number of 128 bits (no Go in sight). Own work of the verifier. -/
namespace Go.Proofs.YtlgkfeeclgcgbaaGreatDoor.Wi
theorem fword_bounds (N:Nat) (hN:N≠0) (h2:N.log2≤127):(N.log2+1023)*4503599627370496≤fword N∧fword N≤(N.log2+1024)*4503599627370496:=by
 have hle:2 ^ N.log2≤N:=Nat.log2_self_le hN
 have hlt:N < 2 ^ (N.log2+1):=Nat.lt_log2_self
 by_cases h:N.log2≤52
 ·rw [fword_small N hN h]
  have a:4503599627370496≤N*2 ^ (52 - N.log2):=by
   calc 4503599627370496=2 ^ N.log2*2 ^ (52 - N.log2):=by rw [← Nat.pow_add,show N.log2+(52 - N.log2)=52 from by omega]
    _≤_:=Nat.mul_le_mul_right _ hle
  have b:N*2 ^ (52 - N.log2) < 9007199254740992:=by
   calc N*2 ^ (52 - N.log2) < 2 ^ (N.log2+1)*2 ^ (52 - N.log2):=Nat.mul_lt_mul_of_pos_right hlt (Nat.pow_pos (by decide))
    _=9007199254740992:=by rw [← Nat.pow_add,show N.log2+1+(52 - N.log2)=53 from by omega]
  omega
 ·rw [fword_big N (by omega) h2]
  have hp:0 < 2 ^ (N.log2 - 52):=Nat.pow_pos (by decide)
  have a:4503599627370496≤N / 2 ^ (N.log2 - 52):=by
   rw [Nat.le_div_iff_mul_le hp]
   calc 4503599627370496*2 ^ (N.log2 - 52)=2 ^ N.log2:=by rw [show (4503599627370496:Nat)=2 ^ 52 from by decide,← Nat.pow_add,show 52+(N.log2 - 52)=N.log2 from by omega]
    _≤N:=hle
  have b:N / 2 ^ (N.log2 - 52) < 9007199254740992:=by
   rw [Nat.div_lt_iff_lt_mul hp]
   calc N < 2 ^ (N.log2+1):=hlt
    _=9007199254740992*2 ^ (N.log2 - 52):=by rw [show (9007199254740992:Nat)=2 ^ 53 from by decide,← Nat.pow_add,show 53+(N.log2 - 52)=N.log2+1 from by omega]
  have hr:rb N (N.log2 - 52)≤1:=by unfold rb;split <;> omega
  omega
def sticky (N j:Nat):Nat:=if N % 2 ^ j=0 then N / 2 ^ j else N / 2 ^ j / 2*2+1
theorem sticky_log (N j:Nat) (h:N.log2=63+j):(sticky N j).log2=63:=by
 have hN:N≠0:=by intro e;subst e;simp at h;omega
 have hle:2 ^ N.log2≤N:=Nat.log2_self_le hN
 have hlt:N < 2 ^ (N.log2+1):=Nat.lt_log2_self
 rw [h] at hle hlt
 have hp:0 < 2 ^ j:=Nat.pow_pos (by decide)
 have a:9223372036854775808≤N / 2 ^ j:=by
  rw [Nat.le_div_iff_mul_le hp,show (9223372036854775808:Nat)=2 ^ 63 from by decide,← Nat.pow_add];exact hle
 have b:N / 2 ^ j < 18446744073709551616:=by
  rw [Nat.div_lt_iff_lt_mul hp,show (18446744073709551616:Nat)=2 ^ 64 from by decide,← Nat.pow_add,show 64+j=63+j+1 from by omega];exact hlt
 have c:9223372036854775808≤sticky N j∧sticky N j < 18446744073709551616:=by unfold sticky;split <;> omega
 rw [Nat.log2_eq_iff (by omega),show (2:Nat) ^ 63=9223372036854775808 from by decide,show (2:Nat) ^ (63+1)=18446744073709551616 from by decide]
 exact c
theorem sticky_fword (N j:Nat) (h:N.log2=63+j) (hj:j≤64):fword N=fword (sticky N j)+j*4503599627370496:=by
 have hl:=sticky_log N j h
 rw [fword_big N (by omega) (by omega),fword_big (sticky N j) (by omega) (by omega),hl,h,show 63+j - 52=j+11 from by omega,show 63 - 52=11 from rfl]
 have hp:0 < 2 ^ j:=Nat.pow_pos (by decide)
 have hpe:2 ^ (j+11)=2 ^ j*2048:=by rw [Nat.pow_add]
 have q1:N / 2 ^ (j+11)=N / 2 ^ j / 2048:=by rw [hpe,Nat.div_div_eq_div_mul]
 have q2:sticky N j / 2 ^ 11=N / 2 ^ j / 2048:=by
  unfold sticky;rw [show (2:Nat) ^ 11=2048 from by decide];split <;> omega
 have hr:rb N (j+11)=rb (sticky N j) 11:=by
  unfold rb
  rw [q1,q2,hpe,show (2:Nat) ^ 11=2048 from by decide]
  have hm:N % (2 ^ j*2048)=(N / 2 ^ j % 2048)*2 ^ j+N % 2 ^ j:=by
   rw [Nat.mod_mul,Nat.add_comm,Nat.mul_comm]
  have hs:N % 2 ^ j < 2 ^ j:=Nat.mod_lt _ hp
  rw [hm]
  have hst:sticky N j % 2048=if N % 2 ^ j=0 then N / 2 ^ j % 2048 else N / 2 ^ j % 2048 / 2*2+1:=by
   unfold sticky;split <;> omega
  rw [hst]
  generalize N / 2 ^ j=T at *
  generalize N % 2 ^ j=s at *
  generalize 2 ^ j=p at *
  clear q1 q2 hst hm hpe hl h
  have key:∀ t,t=T % 2048→((p*2048 < 2*(t*p+s)) ↔ (2048 < 2*(if s=0 then t else t / 2*2+1)))∧((p*2048=2*(t*p+s)) ↔ (2048=2*(if s=0 then t else t / 2*2+1))):=by
   intro t _
   rcases Nat.lt_trichotomy t 1024 with k | k | k
   ·have h1:t*p+s < 1024*p:=by
     have:=Nat.mul_le_mul_right p (show t+1≤1024 by omega)
     rw [Nat.add_mul,Nat.one_mul] at this
     omega
    split <;> constructor <;> constructor <;> intro h' <;> omega
   ·subst k
    split <;> constructor <;> constructor <;> intro h' <;> omega
   ·have h1:1025*p≤t*p:=Nat.mul_le_mul_right p (show 1025≤t by omega)
    split <;> constructor <;> constructor <;> intro h' <;> omega
  obtain ⟨k1,k2⟩:=key (T % 2048) rfl
  by_cases c:2048 < 2*(if s=0 then T % 2048 else T % 2048 / 2*2+1)∨2048=2*(if s=0 then T % 2048 else T % 2048 / 2*2+1)∧T / 2048 % 2=1
  ·rw [if_pos c,if_pos (by rw [k1,k2];exact c)]
  ·rw [if_neg c,if_neg (by rw [k1,k2];exact c)]
 rw [q1,q2,hr]
 omega
end Go.Proofs.YtlgkfeeclgcgbaaGreatDoor.Wi
/- wide.Float: THE WALK. Own work of the verifier. -/
set_option maxRecDepth 100000
set_option maxHeartbeats 1000000
namespace Go.Proofs.YtlgkfeeclgcgbaaGreatDoor.Wi
open Go.RowKit
theorem neg_word (Y:Nat) (h:Y < 9223372036854775808):Op.negFloat .f64 Y=9223372036854775808+Y:=by
 show Y ^^^ 2 ^ 63=_
 have e:9223372036854775808+Y=2 ^ 63 ||| Y:=by
  rw [nat_join 63 (2 ^ 63) Y (Nat.mod_self _) (by rw [show (2:Nat) ^ 63=9223372036854775808 from by decide];exact h)]
 rw [e]
 apply Nat.eq_of_testBit_eq
 intro i
 rw [Nat.testBit_xor,Nat.testBit_or,Nat.testBit_two_pow]
 by_cases hi:63=i
 ·subst hi
  have:Y.testBit 63=false:=Nat.testBit_lt_two_pow (by rw [show (2:Nat) ^ 63=9223372036854775808 from by decide];exact h)
  simp [this]
 ·simp [hi]
theorem run_neg_float (P:Program) (Y:Nat) (h:Y < 9223372036854775808) (W:World):(Op.unary .neg (.float .f64 Y)).run P W=.ok (.float .f64 (9223372036854775808+Y)) W:=by
 rw [← neg_word Y h];rfl
theorem float_w (ah al s T T':Int) (X Y:Nat) (hs0:0≤s) (hs1:s≤64)
  (mh ml:Int) (HM:Hid (∀ W,Calls Tryz.prog 298 #[.agg #[.int .i64 ah,.int .u64 al]] W fun e w'=>e=.returned (.tuple #[.int .u64 mh,.int .u64 ml])∧Below W.heap.size W w'))
  (HS:Hid (64 - (Lib.bitLen mh.toNat:Int)=s)) (mh0:0≤mh) (mh1:mh≤18446744073709551615)
  (eT:bits .or .u64 (IntKind.u64.wrap (mh*2 ^ s.toNat)) (ml / 2 ^ (64 - s).toNat)=T)
  (eS:(IntKind.u64.wrap (ml*2 ^ s.toNat) != 0)=true∧bits .or .u64 T 1=T'∨(IntKind.u64.wrap (ml*2 ^ s.toNat) != 0)=false∧T'=T) (eX:floatOfInt .f64 T'=X) (hY:Y < 9223372036854775808)
  (HL:Hid (∀ W,Calls Tryz.prog 300 #[.float .f64 X,.int .i64 (64 - s)] W fun e w'=>e=.returned (.float .f64 Y)∧w'=W)) (w:World) :
  Calls Tryz.prog 291 #[.agg #[.int .i64 ah,.int .u64 al]] w fun e w' =>
   e=.returned (.float .f64 (if ah < 0 then 9223372036854775808+Y else Y))∧Below w.heap.size w w':=by
 have hs2:0≤64 - s:=by omega
 have hng:=run_neg_float Tryz.prog Y hY
 have hY':Hid _:=hY
 clear hY
 rcases eS with ⟨eS,eT'⟩ | ⟨eS,eT'⟩
 ·by_cases hn:ah < 0
  all_goals
   first | rw [if_pos hn] | rw [if_neg hn]
   go_enter Tryz.func291,Tryz.ntmps291
   go_wp2_with fail
   refine (HM.out _).mono ?_
   rintro e w1 ⟨rfl,hb1⟩
   have hc:w1.cell? ⟨w.heap.size,0,none⟩=some (.int .i64 ah):=(own2 hb1).1
   go_wp2_with (go_at_call 299;refine (Tryz.bits_LeadingZeros64 _ _ mh0 mh1).mono ?_;rw [HS.out];rintro e w' ⟨rfl,rfl⟩)
   go_quiet (fail)
   go_wp2_with fail
   refine (HL.out _).mono ?_
   rintro e w2 ⟨rfl,rfl⟩
   go_wp2
   go_ret
   exact ⟨rfl,Below.drewN' ((bel1 w _).trans (hb1.mono (by simp))) _⟩
 ·subst eT'
  by_cases hn:ah < 0
  all_goals
   first | rw [if_pos hn] | rw [if_neg hn]
   go_enter Tryz.func291,Tryz.ntmps291
   go_wp2_with fail
   refine (HM.out _).mono ?_
   rintro e w1 ⟨rfl,hb1⟩
   have hc:w1.cell? ⟨w.heap.size,0,none⟩=some (.int .i64 ah):=(own2 hb1).1
   go_wp2_with (go_at_call 299;refine (Tryz.bits_LeadingZeros64 _ _ mh0 mh1).mono ?_;rw [HS.out];rintro e w' ⟨rfl,rfl⟩)
   go_quiet (fail)
   go_wp2_with fail
   refine (HL.out _).mono ?_
   rintro e w2 ⟨rfl,rfl⟩
   go_wp2
   go_ret
   exact ⟨rfl,Below.drewN' ((bel1 w _).trans (hb1.mono (by simp))) _⟩
theorem floatOf_nat (t:Nat):floatOfInt .f64 (t:Int)=fword t:=by
 show Ieee.double.nearest (decide ((t:Int) < 0)) (t:Int).natAbs 0=fword t
 rw [show decide ((t:Int) < 0)=false from by simp,Int.natAbs_natCast]
 rfl
def fbits (n:Int):Nat:=if n < 0 then 9223372036854775808+fword (mag n).toNat else fword (mag n).toNat
theorem bitLen_zero:Lib.bitLen 0=0:=by decide
theorem float_any (ah al:Int) (h1:Wf ah al) (w:World) :
  Calls Tryz.prog 291 #[.agg #[.int .i64 ah,.int .u64 al]] w fun e w'=>e=.returned (.float .f64 (fbits (val ah al)))∧Below w.heap.size w w':=by
 obtain ⟨m0,m1,m2,m3⟩:=mag_le h1
 have hm:=mag_any ah al h1
 have hN0:=mag_0 (val ah al)
 have hif:fbits (val ah al)=if ah < 0 then 9223372036854775808+fword (mag (val ah al)).toNat else fword (mag (val ah al)).toNat:=by
  unfold fbits
  by_cases hn:ah < 0
  ·rw [if_pos hn,if_pos ((val_neg h1).2 hn)]
  ·rw [if_neg hn,if_neg (fun h=>hn ((val_neg h1).1 h))]
 rw [hif]
 obtain ⟨H,hH⟩:∃ H:Nat,(H:Int)=hiOf (mag (val ah al)):=⟨(hiOf (mag (val ah al))).toNat,by omega⟩
 obtain ⟨l,hl⟩:∃ l:Nat,(l:Int)=loOf (mag (val ah al)):=⟨(loOf (mag (val ah al))).toNat,by omega⟩
 have hN:(mag (val ah al)).toNat=H*18446744073709551616+l:=by
  have:=val_hl (mag (val ah al))
  rw [← hH,← hl] at this
  generalize mag (val ah al)=M at this hN0
  unfold val at this
  omega
 rw [hN]
 rw [← hH,← hl] at hm
 rw [← hH] at m0 m1
 rw [← hl] at m2 m3
 clear hN hH hl hif hN0
 by_cases hz:H=0
 ·subst hz
  have e1:(64 - (Lib.bitLen ((0:Nat):Int).toNat:Int))=64:=by rw [show ((0:Nat):Int).toNat=0 from rfl,bitLen_zero];rfl
  have eT:bits .or .u64 (IntKind.u64.wrap (((0:Nat):Int)*2 ^ (64:Int).toNat)) ((l:Int) / 2 ^ (64 - (64:Int)).toNat)=(l:Int):=by
   rw [show ((0:Nat):Int)*2 ^ (64:Int).toNat=((0:Nat):Int) from by simp,show (2:Int) ^ (64 - (64:Int)).toNat=1 from by decide,Int.ediv_one,IntKind.wrap_u64,show ((0:Nat):Int) % 18446744073709551616=((0:Nat):Int) from rfl,u64_or_nat 0 l (by decide) (by omega)]
   simp
  have eS:(IntKind.u64.wrap ((l:Int)*2 ^ (64:Int).toNat) != 0)=false:=by
   rw [show (2:Int) ^ (64:Int).toNat=18446744073709551616 from by decide,IntKind.wrap_u64]
   simp
  rw [Nat.zero_mul,Nat.zero_add]
  by_cases hl0:l=0
  ·subst hl0
   exact float_w ah al 64 _ _ 0 (fword 0) (by decide) (by decide) _ _ hm e1 m0 (by omega) eT (Or.inr ⟨eS,rfl⟩) (by decide) (by decide) (fun W=>Ldexp_of 0 0 _ (fun W=>ldexp_zero _ W) W) w
  ·have hlog:l.log2≤63:=by
    have:=(Nat.log2_lt hl0 (k:=64)).2 (by omega)
    omega
   have hb:=fword_bounds l hl0 (by omega)
   have hq:fword l / 4503599627370496+0≤2046:=by omega
   refine float_w ah al 64 _ _ (fword l) (fword l) (by decide) (by decide) _ _ hm e1 m0 (by omega) eT (Or.inr ⟨eS,rfl⟩) (floatOf_nat l) (by omega) (fun W=>Ldexp_of (fword l) (fword l) _ (fun W=>?_) W) w
   have h:=ldexp_any (fword l) 0 (by omega) (by omega) hq W
   rw [Nat.zero_mul,Nat.add_zero] at h
   exact h
 ·obtain ⟨b1,b2,b3,b4⟩:=bitLen_norm H (by omega) (by omega)
  obtain ⟨n1,n2,n3,n4,n5⟩:=norm_words H l (64 - Lib.bitLen H) (by omega) (by omega) b4
  have ej:64 - (64 - Lib.bitLen H)=Lib.bitLen H:=by omega
  rw [ej] at n1 n2 n3 n4 n5
  obtain ⟨j,hj⟩:∃ j,j=Lib.bitLen H:=⟨_,rfl⟩
  have e1:(64 - (Lib.bitLen ((H:Nat):Int).toNat:Int))=((64 - j:Nat):Int):=by rw [Int.toNat_natCast,← hj];omega
  rw [← hj] at b1 b2 b3 b4 n1 n2 n3 n4 n5
  have hp:0 < 2 ^ j:=Nat.pow_pos (by decide)
  have h64:2 ^ (64 - j)*2 ^ j=18446744073709551616:=by rw [← Nat.pow_add,show 64 - j+j=64 from by omega]
  have htop:(H*18446744073709551616+l) / 2 ^ j=H*2 ^ (64 - j)+l / 2 ^ j:=by
   rw [← h64,← Nat.mul_assoc,Nat.mul_comm (H*2 ^ (64 - j)) (2 ^ j),Nat.mul_add_div hp]
  have hrest:(H*18446744073709551616+l) % 2 ^ j=l % 2 ^ j:=by
   rw [← h64,← Nat.mul_assoc,Nat.mul_comm (H*2 ^ (64 - j)) (2 ^ j),Nat.mul_add_mod]
  have hT1:9223372036854775808≤H*2 ^ (64 - j)+l / 2 ^ j:=Nat.le_trans b3 (Nat.le_add_right _ _)
  have hT2:H*2 ^ (64 - j)+l / 2 ^ j < 18446744073709551616:=by
   have:(H+1)*2 ^ (64 - j)≤18446744073709551616:=by
    have hlt:H < 2 ^ j:=by
     have:=(Lib.bitLenAux_bounds 64 H (by omega) hz).2.2
     change H < 2 ^ Lib.bitLen H at this
     rw [← hj] at this;exact this
    rw [← h64,Nat.mul_comm (2 ^ (64 - j))]
    exact Nat.mul_le_mul_right _ hlt
   rw [Nat.add_mul,Nat.one_mul] at this
   omega
  have hlogN:(H*18446744073709551616+l).log2=63+j:=by
   have hne:H*18446744073709551616+l≠0:=by omega
   rw [Nat.log2_eq_iff hne]
   rw [show 63+j+1=64+j from by omega,Nat.pow_add,Nat.pow_add,show (2:Nat) ^ 63=9223372036854775808 from by decide,show (2:Nat) ^ 64=18446744073709551616 from by decide]
   rw [← htop] at hT1 hT2
   exact ⟨(Nat.le_div_iff_mul_le hp).1 hT1,(Nat.div_lt_iff_lt_mul hp).1 hT2⟩
  have hst:=sticky_fword (H*18446744073709551616+l) j hlogN (by omega)
  have hsl:=sticky_log (H*18446744073709551616+l) j hlogN
  have hse:sticky (H*18446744073709551616+l) j=if l % 2 ^ j=0 then H*2 ^ (64 - j)+l / 2 ^ j else (H*2 ^ (64 - j)+l / 2 ^ j) / 2*2+1:=by
   unfold sticky;rw [hrest,htop]
  have hsn:sticky (H*18446744073709551616+l) j≠0:=by intro e;rw [e] at hsl;simp at hsl
  have hb:=fword_bounds (sticky (H*18446744073709551616+l) j) hsn (by omega)
  rw [hsl] at hb
  have hkt:((64 - j:Nat):Int).toNat=64 - j:=by omega
  have hkt2:(64 - ((64 - j:Nat):Int)).toNat=j:=by omega
  have hS:(IntKind.u64.wrap ((l:Int)*2 ^ ((64 - j:Nat):Int).toNat) != 0)=true∧bits .or .u64 ((H*2 ^ (64 - j)+l / 2 ^ j:Nat):Int) 1=((sticky (H*18446744073709551616+l) j:Nat):Int) ∨
    (IntKind.u64.wrap ((l:Int)*2 ^ ((64 - j:Nat):Int).toNat) != 0)=false∧((sticky (H*18446744073709551616+l) j:Nat):Int)=((H*2 ^ (64 - j)+l / 2 ^ j:Nat):Int):=by
   rw [hkt,n2,hse]
   have hpk:0 < 2 ^ (64 - j):=Nat.pow_pos (by decide)
   by_cases c:l % 2 ^ j=0
   ·right
    rw [if_pos c,c,Nat.mul_zero]
    exact ⟨rfl,rfl⟩
   ·left
    rw [if_neg c]
    have hpos:0 < 2 ^ (64 - j)*(l % 2 ^ j):=Nat.mul_pos hpk (by omega)
    refine ⟨by rw [bne_iff_ne];omega,?_⟩
    have:=u64_or_nat (H*2 ^ (64 - j)+l / 2 ^ j) 1 hT2 (by decide)
    rw [show ((1:Nat):Int)=1 from rfl] at this
    rw [this]
    congr 1
    generalize H*2 ^ (64 - j)+l / 2 ^ j=t
    have e:=nat_join 1 (t / 2*2) 1 (by omega) (by decide)
    rw [← e]
    apply Nat.eq_of_testBit_eq
    intro i
    rw [Nat.testBit_or,Nat.testBit_or]
    cases i with
    | zero=>simp
    | succ i=>rw [Nat.testBit_succ,Nat.testBit_succ,Nat.testBit_succ,show t / 2*2 / 2=t / 2 from by omega]
  have hY:fword (H*18446744073709551616+l) < 9223372036854775808:=by omega
  refine float_w ah al ((64 - j:Nat):Int) _ _ (fword (sticky (H*18446744073709551616+l) j)) (fword (H*18446744073709551616+l)) (by omega) (by omega) _ _ hm e1 m0 (by omega) (by rw [hkt,hkt2];exact n1) hS (floatOf_nat _) hY (fun W=>Ldexp_of _ _ _ (fun W=>?_) W) w
  have hq:fword (sticky (H*18446744073709551616+l) j) / 4503599627370496+j≤2046:=by omega
  have h:=ldexp_any (fword (sticky (H*18446744073709551616+l) j)) j (by omega) (by omega) hq W
  rw [← hst] at h
  rw [show (64 - ((64 - j:Nat):Int))=(j:Int) from by omega]
  exact h
end Go.Proofs.YtlgkfeeclgcgbaaGreatDoor.Wi
