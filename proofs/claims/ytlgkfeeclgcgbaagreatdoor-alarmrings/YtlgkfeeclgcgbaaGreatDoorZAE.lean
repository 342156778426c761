/- FLOATS: how they stand, which are finite, the code's and the document's. Own work of the verifier. -/
import Derived.Test.YtlgkfeeclgcgbaaGreatDoorRows
import Derived.WalkKit
import Derived.WalkSpells
import Derived.RowKit3
import Derived.Below
import Derived.Laws.Externs
import Derived.Outline
import Derived.Deep.QuietTactic
import Derived.BigQuiet
import Derived.Laws.Bits64
import Derived.Laws.BitsAllLaws
import Derived.Test.YtlgkfeeclgcgbaaGreatDoorZAA
set_option maxHeartbeats 1000000
namespace Go.Proofs.YtlgkfeeclgcgbaaGreatDoor.Re
open Go.RowKit Go.Proofs.YtlgkfeeclgcgbaaGreatDoor
def isN (x:Nat):Bool:=decide (9218868437227405312 < x % 9223372036854775808)
def ov (x:Nat):Int:=if x < 9223372036854775808 then (x:Int) else 9223372036854775808 - (x:Int)
theorem ov_sw (s:Bool) (a:Nat) (h:a < 9223372036854775808):ov (sw s a)=sr s a:=by
 unfold ov sw sr;cases s <;> simp <;> omega
theorem isN_sw (s:Bool) (a:Nat) (h:a < 9223372036854775808):isN (sw s a)=decide (9218868437227405312 < a):=by
 unfold isN sw;congr 2;cases s <;> simp <;> omega
theorem ord_nan {x:Nat} (hx:x < 18446744073709551616) (h:isN x=true) (y:Nat):FloatKind.f64.format.order x y=none∧FloatKind.f64.format.order y x=none:=by
 obtain ⟨s,a,rfl,ha⟩:=sw_of x hx
 rw [isN_sw s a ha] at h
 have h:=of_decide_eq_true h
 exact ⟨order_nan1 s a y h ha,order_nan2 s a y h ha⟩
theorem ord_num {x y:Nat} (hx:x < 18446744073709551616) (hy:y < 18446744073709551616) (h:isN x=false) (k:isN y=false):FloatKind.f64.format.order x y=some (compare (ov x) (ov y)):=by
 obtain ⟨s,a,rfl,ha⟩:=sw_of x hx
 obtain ⟨t,b,rfl,hb⟩:=sw_of y hy
 rw [isN_sw s a ha] at h
 rw [isN_sw t b hb] at k
 have h:=of_decide_eq_false h
 have k:=of_decide_eq_false k
 rw [ov_sw s a ha,ov_sw t b hb]
 exact order_all s t a b (by omega) (by omega)
theorem ord_self {x:Nat} (hx:x < 18446744073709551616):(FloatKind.f64.format.order x x != some .eq)=isN x:=by
 cases h:isN x
 ·rw [ord_num hx hx h h];simp
 ·rw [(ord_nan hx h x).1];decide
theorem isnan_f (x:Nat) (hx:x < 18446744073709551616) (w:World) :
  Calls Tryz.prog 141 #[.float .f64 x] w fun e w'=>e=.returned (.bool (isN x))∧w'=w:=by
 have o1:=ord_self hx
 go_enter Tryz.func141,Tryz.ntmps141
 go_wp2
 go_ret
 exact ⟨rfl,rfl⟩
def cmpF (x y:Nat):Int:=if isN x then (if isN y then 0 else -1) else if isN y then 1 else if ov x < ov y then -1 else if ov y < ov x then 1 else 0
theorem cmpf_any (x y:Nat) (hx:x < 18446744073709551616) (hy:y < 18446744073709551616) (w:World) :
  Calls Tryz.prog 119 #[.float .f64 x,.float .f64 y] w fun e w'=>e=.returned (.int .i64 (cmpF x y))∧w'=w:=by
 have HX:Hid _:=isnan_f x hx
 have HY:Hid _:=isnan_f y hy
 unfold cmpF
 cases hn:isN x
 ·cases hm:isN y
  ·have o:=ord_num hx hy hn hm
   rw [hn] at HX;rw [hm] at HY
   rcases Int.lt_trichotomy (ov x) (ov y) with k | k | k
   ·rw [Int.compare_eq_lt.2 k] at o
    have o1:(FloatKind.f64.format.order x y == some .lt)=true:=by rw [o];decide
    rw [if_neg (by decide),if_neg (by decide),if_pos k]
    clear o
    go_enter Tryz.func119,Tryz.ntmps119
    go_wp2_with (go_at_call 141;(first | (with_reducible refine (HX.out _).mono ?_) | (with_reducible refine (HY.out _).mono ?_));rintro e w' ⟨rfl,rfl⟩)
    go_ret
    exact ⟨rfl,rfl⟩
   ·have o0:compare (ov x) (ov y)=.eq:=by rw [k];simp
    rw [o0] at o
    have o1:(FloatKind.f64.format.order x y == some .lt)=false:=by rw [o];decide
    have o2:(FloatKind.f64.format.order x y == some .gt)=false:=by rw [o];decide
    rw [if_neg (by decide),if_neg (by decide),if_neg (by omega),if_neg (by omega)]
    clear o o0
    go_enter Tryz.func119,Tryz.ntmps119
    go_wp2_with (go_at_call 141;(first | (with_reducible refine (HX.out _).mono ?_) | (with_reducible refine (HY.out _).mono ?_));rintro e w' ⟨rfl,rfl⟩)
    go_ret
    exact ⟨rfl,rfl⟩
   ·rw [Int.compare_eq_gt.2 k] at o
    have o1:(FloatKind.f64.format.order x y == some .lt)=false:=by rw [o];decide
    have o2:(FloatKind.f64.format.order x y == some .gt)=true:=by rw [o];decide
    rw [if_neg (by decide),if_neg (by decide),if_neg (by omega),if_pos k]
    clear o
    go_enter Tryz.func119,Tryz.ntmps119
    go_wp2_with (go_at_call 141;(first | (with_reducible refine (HX.out _).mono ?_) | (with_reducible refine (HY.out _).mono ?_));rintro e w' ⟨rfl,rfl⟩)
    go_ret
    exact ⟨rfl,rfl⟩
  ·rw [hn] at HX;rw [hm] at HY
   go_enter Tryz.func119,Tryz.ntmps119
   go_wp2_with (go_at_call 141;(first | (with_reducible refine (HX.out _).mono ?_) | (with_reducible refine (HY.out _).mono ?_));rintro e w' ⟨rfl,rfl⟩)
   go_ret
   exact ⟨rfl,rfl⟩
 ·rw [hn] at HX
  cases hm:isN y <;> rw [hm] at HY
  all_goals
   go_enter Tryz.func119,Tryz.ntmps119
   go_wp2_with (go_at_call 141;(first | (with_reducible refine (HX.out _).mono ?_) | (with_reducible refine (HY.out _).mono ?_));rintro e w' ⟨rfl,rfl⟩)
   go_ret
   exact ⟨rfl,rfl⟩
theorem mf64bits (x:Nat) (w:World):(callFunc 140 #[.float .f64 x]).run Tryz.prog w=.ok (.value (.int .u64 (x:Int))) w:=by
 rw [run_callFunc_extern Tryz.func140 (by kernel_rfl) (by kernel_rfl) (by kernel_rfl) (e:=Extern.MathFloatBits.float64bits) (by kernel_rfl)]
 rfl
theorem mf64from (x:Int) (w:World):(callFunc 139 #[.int .u64 x]).run Tryz.prog w=.ok (.value (.float .f64 x.toNat)) w:=by
 rw [run_callFunc_extern Tryz.func139 (by kernel_rfl) (by kernel_rfl) (by kernel_rfl) (e:=Extern.MathFloatBits.float64frombits) (by kernel_rfl)]
 rfl
theorem clear_sign (x:Nat) (h:x < 18446744073709551616):bits .andNot .u64 (x:Int) 9223372036854775808=((x % 9223372036854775808:Nat):Int):=by
 have:=u64_andNot_nat x 9223372036854775808 (by omega) (by decide)
 rw [show ((9223372036854775808:Nat):Int)=9223372036854775808 from rfl] at this
 rw [this,show 18446744073709551615 - 9223372036854775808=2 ^ 63 - 1 from by decide,Nat.and_two_pow_sub_one_eq_mod]
theorem abs_any (x:Nat) (h:x < 18446744073709551616) (w:World):Calls Tryz.prog 118 #[.float .f64 x] w fun e w'=>e=.returned (.float .f64 (x % 9223372036854775808))∧w'=w:=by
 have hc:=clear_sign x h
 generalize x % 9223372036854775808=y at *
 go_enter Tryz.func118,Tryz.ntmps118
 go_wp2_with (first | simp only [mf64bits] | simp only [mf64from])
 go_ret
 exact ⟨rfl,rfl⟩
theorem sign_bit (x:Nat) (h:x < 18446744073709551616):bits .and .u64 (x:Int) 9223372036854775808=((x / 9223372036854775808*9223372036854775808:Nat):Int):=by
 have:=u64_and_nat x 9223372036854775808 h (by decide)
 rw [show ((9223372036854775808:Nat):Int)=9223372036854775808 from rfl] at this
 rw [this]
 congr 1
 apply Nat.eq_of_testBit_eq
 intro i
 rw [Nat.testBit_and,show (9223372036854775808:Nat)=2 ^ 63 from by decide,Nat.testBit_mul_two_pow,Nat.testBit_two_pow,Nat.testBit_div_two_pow]
 by_cases hi:63=i
 ·subst hi;simp
 ·rcases Nat.lt_or_ge i 63 with k | k
  ·simp [hi,show ¬ 63≤i from by omega]
  ·have:x.testBit (i - 63+63)=false:=Nat.testBit_lt_two_pow (Nat.lt_of_lt_of_le h (by rw [show (18446744073709551616:Nat)=2 ^ 64 from by decide];exact Nat.pow_le_pow_right (by decide) (by omega)))
   simp [hi,this]
def oneS (x:Nat):Nat:=x / 9223372036854775808*9223372036854775808+4607182418800017408
theorem one_or (x:Nat) (h:x < 18446744073709551616):bits .or .u64 4607182418800017408 ((x / 9223372036854775808*9223372036854775808:Nat):Int)=((oneS x:Nat):Int):=by
 have:=u64_or_nat 4607182418800017408 (x / 9223372036854775808*9223372036854775808) (by decide) (by omega)
 rw [show ((4607182418800017408:Nat):Int)=4607182418800017408 from rfl] at this
 rw [this]
 unfold oneS
 congr 1
 rw [Nat.or_comm,nat_join 63 _ _ (by rw [show (2:Nat) ^ 63=9223372036854775808 from by decide];omega) (by decide)]
theorem one_not:bits .andNot .u64 4607182418800017408 9223372036854775808=4607182418800017408:=by decide +kernel
theorem copysign_any (x:Nat) (h:x < 18446744073709551616) (w:World):Calls Tryz.prog 120 #[.float .f64 4607182418800017408,.float .f64 x] w fun e w'=>e=.returned (.float .f64 (oneS x))∧w'=w:=by
 have h1:=sign_bit x h
 have h2:=one_or x h
 have h3:=one_not
 generalize x / 9223372036854775808*9223372036854775808=y at *
 generalize oneS x=z at *
 go_enter Tryz.func120,Tryz.ntmps120
 go_wp2_with (first | simp only [mf64bits] | simp only [mf64from])
 go_ret
 exact ⟨rfl,rfl⟩
def rk (x:Nat):Nat:=if isN x then 0 else if 9223372036854775808≤x then 18446744073709551615 - x else x+9223372036854775808
def sg (a b:Nat):Int:=if a < b then -1 else if b < a then 1 else 0
theorem rk_nan {x:Nat} (h:isN x=true):rk x=0:=by unfold rk;rw [if_pos h]
theorem rk_num {x:Nat} (hx:x < 18446744073709551616) (h:isN x=false):(rk x:Int)=if 9223372036854775808≤x then 18446744073709551615 - (x:Int) else (x:Int)+9223372036854775808:=by
 unfold rk;rw [if_neg (by rw [h];decide)];split <;> omega
theorem isN_oneS (x:Nat) (_hx:x < 18446744073709551616):isN (oneS x)=false:=by
 unfold isN oneS;apply decide_eq_false;omega
theorem oneS_lt (x:Nat) (hx:x < 18446744073709551616):oneS x < 18446744073709551616:=by unfold oneS;omega
theorem nan_size {x:Nat} (h:isN x=false):x % 9223372036854775808≤9218868437227405312:=by
 have:=of_decide_eq_false h;omega
theorem cmp_rk_ne (x y : Nat) (hx : x < 18446744073709551616) (hy : y < 18446744073709551616) (h : isN x = true ∨ isN y = true ∨ ov x ≠ ov y) : cmpF x y = sg (rk x) (rk y) := by
  unfold cmpF sg
  cases hn : isN x <;> cases hm : isN y
  · have n1 := rk_num hx hn
    have n2 := rk_num hy hm
    have z1 := nan_size hn
    have z2 := nan_size hm
    have ho : ov x ≠ ov y := by rcases h with h | h | h; · rw [hn] at h; cases h
                                · rw [hm] at h; cases h
                                · exact h
    unfold ov at ho ⊢
    simp only [Bool.false_eq_true, if_false]
    generalize rk x = A at *
    generalize rk y = B at *
    split at n1 <;> split at n2 <;> split at ho <;> split at ho <;> split <;> split <;> (try split) <;> (try split) <;> omega
  · rw [rk_nan hm]
    have n1 := rk_num hx hn
    have z1 := nan_size hn
    simp only [Bool.false_eq_true, if_false, if_true]
    rw [if_neg (by omega), if_pos (by split at n1 <;> omega)]
  · rw [rk_nan hn]
    have n2 := rk_num hy hm
    have z2 := nan_size hm
    simp only [Bool.false_eq_true, if_false, if_true]
    rw [if_pos (by split at n2 <;> omega)]
  · rw [rk_nan hn, rk_nan hm]
    simp
theorem cmp_rk_eq (x y:Nat) (hx:x < 18446744073709551616) (hy:y < 18446744073709551616) (hn:isN x=false) (hm:isN y=false) (h:ov x=ov y):cmpF (oneS x) (oneS y)=sg (rk x) (rk y):=by
 unfold cmpF sg
 rw [isN_oneS x hx,isN_oneS y hy]
 have n1:=rk_num hx hn
 have n2:=rk_num hy hm
 have z1:=nan_size hn
 have z2:=nan_size hm
 unfold ov oneS at *
 simp only [Bool.false_eq_true,if_false]
 generalize rk x=A at *
 generalize rk y=B at *
 split at n1 <;> split at n2 <;> split at h <;> split at h <;> split <;> split <;> (try split) <;> (try split) <;> (try split) <;> (try split) <;> omega
theorem compare_any (x y:Nat) (hx:x < 18446744073709551616) (hy:y < 18446744073709551616) (w:World) :
  Calls Tryz.prog 91 #[.float .f64 x,.float .f64 y] w fun e w'=>e=.returned (.int .i64 (sg (rk x) (rk y)))∧w'=w:=by
 by_cases h:isN x=true∨isN y=true∨ov x≠ov y
 ·rw [← cmp_rk_ne x y hx hy h]
  have o1:(FloatKind.f64.format.order x y == some .eq)=false:=by
   cases hn:isN x
   ·cases hm:isN y
    ·rw [ord_num hx hy hn hm]
     rcases h with h | h | h
     ·rw [hn] at h;cases h
     ·rw [hm] at h;cases h
     ·rcases Int.lt_trichotomy (ov x) (ov y) with k | k | k
      ·rw [Int.compare_eq_lt.2 k];decide
      ·exact absurd k h
      ·rw [Int.compare_eq_gt.2 k];decide
    ·rw [(ord_nan hy hm x).2];decide
   ·rw [(ord_nan hx hn y).1];decide
  clear h
  go_enter Tryz.func91,Tryz.ntmps91
  go_wp2_with fail
  refine (cmpf_any x y hx hy w).mono ?_
  rintro e w ⟨rfl,rfl⟩
  go_wp2
  go_ret
  exact ⟨rfl,rfl⟩
 ·have hn:isN x=false:=by cases hh:isN x <;> simp_all
  have hm:isN y=false:=by cases hh:isN y <;> simp_all
  have ho:ov x=ov y:=Classical.byContradiction fun k=>h (Or.inr (Or.inr k))
  rw [← cmp_rk_eq x y hx hy hn hm ho]
  have o1:(FloatKind.f64.format.order x y == some .eq)=true:=by rw [ord_num hx hy hn hm,ho];simp
  clear h ho hn hm
  have HX:Hid _:=copysign_any x hx
  have HY:Hid _:=copysign_any y hy
  have HC:Hid _:=cmpf_any (oneS x) (oneS y) (oneS_lt x hx) (oneS_lt y hy)
  go_enter Tryz.func91,Tryz.ntmps91
  go_wp2_with (first
   | (go_at_call 120;(first | (with_reducible refine (HX.out _).mono ?_) | (with_reducible refine (HY.out _).mono ?_));rintro e w ⟨rfl,rfl⟩)
   | (go_at_call 119;with_reducible refine (HC.out _).mono ?_;rintro e w ⟨rfl,rfl⟩)
   | fail)
  go_ret
  exact ⟨rfl,rfl⟩
theorem same_any (x y:Nat) (hx:x < 18446744073709551616) (hy:y < 18446744073709551616) (w:World) :
  Calls Tryz.prog 111 #[.float .f64 x,.float .f64 y] w fun e w'=>e=.returned (.bool (sg (rk x) (rk y) == 0))∧w'=w:=by
 go_enter Tryz.func111,Tryz.ntmps111
 go_wp2_with fail
 refine (compare_any x y hx hy w).mono ?_
 rintro e w ⟨rfl,rfl⟩
 go_wp2
 go_ret
 exact ⟨rfl,rfl⟩
theorem or_sign (x:Nat) (h:x < 9223372036854775808):bits .or .u64 (x:Int) 9223372036854775808=((x+9223372036854775808:Nat):Int):=by
 have:=u64_or_nat x 9223372036854775808 (by omega) (by decide)
 rw [show ((9223372036854775808:Nat):Int)=9223372036854775808 from rfl] at this
 rw [this,Nat.or_comm,nat_join 63 _ _ (by decide) (by rw [show (2:Nat) ^ 63=9223372036854775808 from by decide];exact h),Nat.add_comm]
def finF (x:Nat):Bool:=decide (x % 9223372036854775808 < 9218868437227405312)
theorem fin_ord (x:Nat) (h:x < 9223372036854775808):(FloatKind.f64.format.order x 9218868437227405311 == some .lt || FloatKind.f64.format.order x 9218868437227405311 == some .eq)=decide (x < 9218868437227405312):=by
 cases hn:isN x
 ·have z:=nan_size hn
  rw [ord_num (by omega) (by decide) hn (by decide +kernel)]
  have e1:ov x=(x:Int):=by unfold ov;rw [if_pos h]
  have e2:ov 9218868437227405311=9218868437227405311:=by decide +kernel
  rw [e1,e2]
  rcases Nat.lt_trichotomy x 9218868437227405311 with k | k | k
  ·rw [Int.compare_eq_lt.2 (by omega),decide_eq_true (by omega)];decide
  ·subst k;decide +kernel
  ·rw [Int.compare_eq_gt.2 (by omega),decide_eq_false (by omega)];decide
 ·rw [(ord_nan (by omega) hn _).1]
  have:=of_decide_eq_true hn
  rw [decide_eq_false (by omega)];decide
theorem cfin_any (x:Nat) (hx:x < 18446744073709551616) (w:World) :
  Calls Tryz.prog 90 #[.float .f64 x] w fun e w'=>e=.returned (.bool (finF x))∧w'=w:=by
 have h1:=fin_ord (x % 9223372036854775808) (by omega)
 have HA:Hid _:=abs_any x hx
 unfold finF
 generalize decide (x % 9223372036854775808 < 9218868437227405312)=b at *
 generalize x % 9223372036854775808=y at *
 go_enter Tryz.func90,Tryz.ntmps90
 go_wp2_with (go_at_call 118;with_reducible refine (HA.out _).mono ?_;rintro e w ⟨rfl,rfl⟩)
 go_ret
 exact ⟨rfl,rfl⟩
def outF (x y:Nat) (s:Int):Nat:=if sg (rk y) (rk x)=s then y else x
theorem outer_any (x y:Nat) (s:Int) (hx:x < 18446744073709551616) (hy:y < 18446744073709551616) (w:World) :
  Calls Tryz.prog 317 #[.float .f64 x,.float .f64 y,.int .i64 s] w fun e w'=>e=.returned (.float .f64 (outF x y s))∧w'=w:=by
 have HC:Hid _:=compare_any y x hy hx
 unfold outF
 generalize sg (rk y) (rk x)=z at *
 by_cases h:z=s
 ·have h':(z == s)=true:=by simpa using h
  rw [if_pos h]
  go_enter Tryz.func317,Tryz.ntmps317
  go_wp2_with (go_at_call 91;with_reducible refine (HC.out _).mono ?_;rintro e w ⟨rfl,rfl⟩)
  go_ret
  exact ⟨rfl,rfl⟩
 ·have h':(z == s)=false:=by simpa using h
  rw [if_neg h]
  go_enter Tryz.func317,Tryz.ntmps317
  go_wp2_with (go_at_call 91;with_reducible refine (HC.out _).mono ?_;rintro e w ⟨rfl,rfl⟩)
  go_ret
  exact ⟨rfl,rfl⟩
def sF (x y:Nat):Bool:=sg (rk x) (rk y) == 0
theorem sF_eq (x y:Nat):sF x y=decide (rk x=rk y):=by
 unfold sF sg
 rcases Nat.lt_trichotomy (rk x) (rk y) with k | k | k
 ·rw [if_pos k,decide_eq_false (by omega)];rfl
 ·rw [if_neg (by omega),if_neg (by omega),decide_eq_true k];rfl
 ·rw [if_neg (by omega),if_pos k,decide_eq_false (by omega)];rfl
theorem zero_rk (x:Nat) (hx:x < 18446744073709551616):sF x 0=decide (x=0):=by
 rw [sF_eq]
 apply decide_eq_decide.2
 have e0:rk 0=9223372036854775808:=by decide +kernel
 rw [e0]
 unfold rk
 constructor
 ·intro h
  split at h
  ·omega
  ·split at h <;> omega
 ·rintro rfl
  decide +kernel
end Go.Proofs.YtlgkfeeclgcgbaaGreatDoor.Re
