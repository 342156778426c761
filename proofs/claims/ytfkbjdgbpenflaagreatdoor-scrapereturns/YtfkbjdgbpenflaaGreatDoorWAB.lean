/- THE PLAIN MATHEMATICS of numbers of 128 bits: no Go in sight. Own work of the verifier. -/
import Derived.WalkKit
import Derived.Test.YtfkbjdgbpenflaaGreatDoorRows
import Derived.WalkSpells
import Derived.RowKit3
import Derived.Below
import Derived.Laws.Externs
import Derived.Shelf.Spec.BitsCarry
import Derived.Outline
import Derived.Deep.QuietTactic
import Derived.BigQuiet
import Derived.Deep.RegionHeld3
import Derived.Laws.Bits64
import Derived.Lib.Zigzag
import Derived.Lib.ItoaNum
import Derived.Laws.BitsAllLaws
import Derived.Test.YtfkbjdgbpenflaaGreatDoorShelf
set_option maxRecDepth 100000
set_option maxHeartbeats 4000000
namespace Go.Proofs.YtfkbjdgbpenflaaGreatDoor
def val (h l:Int):Int:=h*18446744073709551616+l
def hiOf (n:Int):Int:=n / 18446744073709551616
def loOf (n:Int):Int:=n % 18446744073709551616
def rnd (n:Int):Int:=(n+170141183460469231731687303715884105728) % 340282366920938463463374607431768211456 - 170141183460469231731687303715884105728
structure Wf (h l:Int):Prop where
 h0:-9223372036854775808≤h
 h1:h≤9223372036854775807
 l0:0≤l
 l1:l < 18446744073709551616
structure InR (n:Int):Prop where
 lo:-170141183460469231731687303715884105728≤n
 hi:n < 170141183460469231731687303715884105728
theorem val_hl (n:Int):val (hiOf n) (loOf n)=n:=by unfold val hiOf loOf;omega
theorem hiOf_val {h l:Int} (w:Wf h l):hiOf (val h l)=h:=by obtain ⟨_,_,_,_⟩:=w;unfold hiOf val;omega
theorem loOf_val {h l:Int} (w:Wf h l):loOf (val h l)=l:=by obtain ⟨_,_,_,_⟩:=w;unfold loOf val;omega
theorem inR_rnd (n:Int):InR (rnd n):=by constructor <;> (unfold rnd;omega)
theorem wf_of {n:Int} (h:InR n):Wf (hiOf n) (loOf n):=by obtain ⟨_,_⟩:=h;constructor <;> (simp only [hiOf,loOf];omega)
theorem wf_rnd (n:Int):Wf (hiOf (rnd n)) (loOf (rnd n)):=wf_of (inR_rnd n)
theorem rnd_of {n:Int} (h:InR n):rnd n=n:=by obtain ⟨_,_⟩:=h;unfold rnd;omega
theorem val_inj {a b c d:Int} (h:Wf a b) (k:Wf c d):val a b=val c d ↔ a=c∧b=d:=by
 obtain ⟨_,_,_,_⟩:=h;obtain ⟨_,_,_,_⟩:=k;unfold val;constructor
 ·intro e;constructor <;> omega
 ·rintro ⟨rfl,rfl⟩;rfl
theorem val_lt {a b c d:Int} (h:Wf a b) (k:Wf c d):val a b < val c d ↔ a < c∨a=c∧b < d:=by
 obtain ⟨_,_,_,_⟩:=h;obtain ⟨_,_,_,_⟩:=k;unfold val;omega
def cmp (a b:Int):Int:=if a < b then -1 else if a=b then 0 else 1
end Go.Proofs.YtfkbjdgbpenflaaGreatDoor
namespace Go.Proofs.YtfkbjdgbpenflaaGreatDoor
open Go.RowKit
def bor (x y:Int):Int:=if x < y then 1 else 0
theorem bor_0 (x y:Int):0≤bor x y:=by unfold bor;split <;> decide
theorem bor_1 (x y:Int):bor x y≤1:=by unfold bor;split <;> decide
theorem add64_0 (x y:Int) (hx:0≤x) (hy:0≤y) (w:World):(callFunc 108 #[.int .u64 x,.int .u64 y,.int .u64 0]).run Tryz.prog w =
  .ok (.value (.tuple #[.int .u64 ((x+y) % 18446744073709551616),.int .u64 ((x+y) / 18446744073709551616)])) w:=by
 rw [run_callFunc_extern Tryz.func108 (by kernel_rfl) (by kernel_rfl) (by kernel_rfl) (e:=add64Entry) (by kernel_rfl),run_add64 x y 0 (by omega) (by omega) (by omega) (by omega)]
 simp [Result.andThen]
theorem sub64_0 (x y:Int) (hx:0≤x) (hy:0≤y) (hy':y < 18446744073709551616) (w:World):(callFunc 194 #[.int .u64 x,.int .u64 y,.int .u64 0]).run Tryz.prog w =
  .ok (.value (.tuple #[.int .u64 ((x - y) % 18446744073709551616),.int .u64 (bor x y)])) w:=by
 obtain ⟨x,rfl⟩:=Int.eq_ofNat_of_zero_le hx
 obtain ⟨y,rfl⟩:=Int.eq_ofNat_of_zero_le hy
 have e1:(((x+18446744073709551616 - y - 0) % 18446744073709551616:Nat):Int)=((x:Int) - y) % 18446744073709551616:=by omega
 have e2:((if x < y+0 then 1 else 0:Nat):Int)=bor (x:Int) y:=by unfold bor;split <;> split <;> omega
 have h:=run_callFunc_extern Tryz.func194 (by kernel_rfl) (by kernel_rfl) (by kernel_rfl) (e:=sub64Entry) (by kernel_rfl) #[.int .u64 (x:Int),.int .u64 (y:Int),.int .u64 0] w
 rw [h,← e1,← e2,show (0:Int)=((0:Nat):Int) from rfl,run_sub64 x y 0 (by omega)]
 rfl
theorem add_words {ah al bh bl:Int} (h1:Wf ah al) (h2:Wf bh bl):wrap64 (wrap64 (ah+bh)+(al+bl) / 18446744073709551616)=hiOf (rnd (val ah al+val bh bl))∧(al+bl) % 18446744073709551616=loOf (rnd (val ah al+val bh bl)):=by
 obtain ⟨_,_,_,_⟩:=h1;obtain ⟨_,_,_,_⟩:=h2
 unfold wrap64 hiOf loOf rnd val;constructor <;> omega
theorem sub_words {ah al bh bl:Int} (h1:Wf ah al) (h2:Wf bh bl):wrap64 (wrap64 (ah - bh) - bor al bl)=hiOf (rnd (val ah al - val bh bl))∧(al - bl) % 18446744073709551616=loOf (rnd (val ah al - val bh bl)):=by
 obtain ⟨_,_,_,_⟩:=h1;obtain ⟨_,_,_,_⟩:=h2
 unfold wrap64 hiOf loOf rnd val bor;constructor
 ·split <;> omega
 ·omega
abbrev num (n:Int):Value:=.agg #[.int .i64 (hiOf n),.int .u64 (loOf n)]
theorem num_of {n h l:Int} (e:h=hiOf n∧l=loOf n):num n=.agg #[.int .i64 h,.int .u64 l]:=by rw [e.1,e.2]
theorem bel3 (w:World) (o1 o2 o3:Obj):Below w.heap.size w (((w.alloc o1).alloc o2).alloc o3) :=
 (((Below.refl _ _).alloc (Nat.le_refl _) _).alloc (by simp) _).alloc (by simp;omega) _
theorem bel2 (w:World) (o1 o2:Obj):Below w.heap.size w ((w.alloc o1).alloc o2) :=
 ((Below.refl _ _).alloc (Nat.le_refl _) _).alloc (by simp) _
theorem bel1 (w:World) (o1:Obj):Below w.heap.size w (w.alloc o1):=(Below.refl _ _).alloc (Nat.le_refl _) _
theorem add_any (ah al bh bl:Int) (h1:Wf ah al) (h2:Wf bh bl) (w:World) :
  Calls Tryz.prog 75 #[.agg #[.int .i64 ah,.int .u64 al],.agg #[.int .i64 bh,.int .u64 bl]] w fun e w' =>
   e=.returned (num (rnd (val ah al+val bh bl)))∧Below w.heap.size w w':=by
 rw [num_of (add_words h1 h2)]
 obtain ⟨a1,a2,a3,a4⟩:=h1;obtain ⟨b1,b2,b3,b4⟩:=h2
 go_enter Tryz.func75,Tryz.ntmps75
 go_wp2_with (simp only [add64_0 al bl a3 b3])
 simp [bodyPost,results,Tryz.results75,go_sem]
 exact bel3 _ _ _ _
theorem sub_any (ah al bh bl:Int) (h1:Wf ah al) (h2:Wf bh bl) (w:World) :
  Calls Tryz.prog 179 #[.agg #[.int .i64 ah,.int .u64 al],.agg #[.int .i64 bh,.int .u64 bl]] w fun e w' =>
   e=.returned (num (rnd (val ah al - val bh bl)))∧Below w.heap.size w w':=by
 rw [num_of (sub_words h1 h2)]
 obtain ⟨a1,a2,a3,a4⟩:=h1;obtain ⟨b1,b2,b3,b4⟩:=h2
 have k0:=bor_0 al bl
 have k1:=bor_1 al bl
 go_enter Tryz.func179,Tryz.ntmps179
 go_wp2_with (simp only [sub64_0 al bl a3 b3 b4])
 simp [bodyPost,results,Tryz.results179,go_sem]
 exact bel3 _ _ _ _
end Go.Proofs.YtfkbjdgbpenflaaGreatDoor
namespace Go.Proofs.YtfkbjdgbpenflaaGreatDoor
structure DInv (U u h n q r:Int):Prop where
 e:q*h+r=U
 q0:0≤q
 r0:0≤r
 up:U*4294967296+u < (q+1)*(h*4294967296+n)
structure DEnd (U u h n q:Int):Prop where
 q0:0≤q
 lo:q*(h*4294967296+n)≤U*4294967296+u
 up:U*4294967296+u < (q+1)*(h*4294967296+n)
structure DSize (U u h n:Int):Prop where
 h0:2147483648≤h
 h1:h < 4294967296
 n0:0≤n
 n1:n < 4294967296
 u0:0≤u
 u1:u < 4294967296
 U0:0≤U
 U1:U < h*4294967296+n
theorem mul_parts (q h n:Int):q*(h*4294967296+n)=(q*h)*4294967296+q*n:=by
 rw [Int.mul_add,Int.mul_assoc]
theorem succ_parts (q h n:Int):(q+1)*(h*4294967296+n)=(q*h)*4294967296+q*n+(h*4294967296+n):=by
 rw [Int.add_mul,mul_parts,Int.one_mul]
theorem dinv_start {U u h n:Int} (z:DSize U u h n):DInv U u h n (U / h) (U - U / h*h):=by
 obtain ⟨h0,h1,n0,n1,u0,u1,U0,U1⟩:=z
 have e:=Int.mul_ediv_add_emod U h
 have m0:=Int.emod_nonneg U (show h≠0 by omega)
 have m1:=Int.emod_lt_of_pos U (show 0 < h by omega)
 have q0:0≤U / h:=Int.ediv_nonneg U0 (by omega)
 rw [Int.mul_comm] at e
 generalize U / h=q at *
 have p0:0≤q*n:=Int.mul_nonneg q0 n0
 refine ⟨by omega,q0,by omega,?_⟩
 rw [succ_parts]
 generalize q*h=p at *
 omega
theorem dinv_rest {U u h n:Int} (z:DSize U u h n):0≤U - U / h*h∧U - U / h*h < 4294967296∧0≤U / h∧0≤U / h*h∧U / h*h≤U∧U / h < 8589934592:=by
 obtain ⟨h0,h1,n0,n1,u0,u1,U0,U1⟩:=z
 have e:=Int.mul_ediv_add_emod U h
 have m0:=Int.emod_nonneg U (show h≠0 by omega)
 have m1:=Int.emod_lt_of_pos U (show 0 < h by omega)
 have q0:0≤U / h:=Int.ediv_nonneg U0 (by omega)
 have q1:U / h < 8589934592:=Int.ediv_lt_of_lt_mul (by omega) (by omega)
 have p0:0≤U / h*h:=Int.mul_nonneg q0 (by omega)
 rw [Int.mul_comm] at e
 omega
theorem dinv_step {U u h n q r:Int} (z:DSize U u h n) (i:DInv U u h n q r) (t:4294967296≤q∨4294967296*r+u < q*n):DInv U u h n (q - 1) (r+h)∧0 < q:=by
 obtain ⟨h0,h1,n0,n1,u0,u1,U0,U1⟩:=z
 obtain ⟨e,q0,r0,up⟩:=i
 have hq:0 < q:=by
  rcases t with t | t
  ·omega
  ·rcases Int.lt_or_eq_of_le q0 with k | k
   ·exact k
   ·subst k;rw [Int.zero_mul] at t;omega
 refine ⟨⟨?_,by omega,by omega,?_⟩,hq⟩
 ·rw [Int.sub_mul,Int.one_mul];omega
 ·rw [show q - 1+1=q from by omega,mul_parts]
  rcases t with t | t
  ·have a:=Int.mul_le_mul_of_nonneg_right t (show 0≤h*4294967296+n by omega)
   rw [mul_parts q] at a
   omega
  ·generalize q*h=p at *
   generalize q*n=v at *
   omega
theorem dinv_end {U u h n q r:Int} (i:DInv U u h n q r) (t:q*n≤4294967296*r+u):DEnd U u h n q:=by
 obtain ⟨e,q0,r0,up⟩:=i
 refine ⟨q0,?_,up⟩
 rw [mul_parts]
 generalize q*h=p at *
 omega
theorem dinv_break {U u h n q r:Int} (z:DSize U u h n) (i:DInv U u h n q r) (t:4294967296≤r):DEnd U u h n q:=by
 obtain ⟨h0,h1,n0,n1,u0,u1,U0,U1⟩:=z
 obtain ⟨e,q0,r0,up⟩:=i
 refine ⟨q0,?_,up⟩
 have hq:q < 4294967296:=by
  rcases Int.lt_or_le q 4294967296 with k | k
  ·exact k
  ·have a:=Int.mul_le_mul_of_nonneg_right k (show 0≤h by omega)
   omega
 have b:q*n≤4294967296*4294967296:=Int.mul_le_mul (by omega) (by omega) n0 (by omega)
 rw [mul_parts]
 generalize q*h=p at *
 generalize q*n=v at *
 omega
theorem dend_lt {U u h n q:Int} (z:DSize U u h n) (i:DEnd U u h n q):q < 4294967296:=by
 obtain ⟨h0,h1,n0,n1,u0,u1,U0,U1⟩:=z
 obtain ⟨q0,lo,up⟩:=i
 rcases Int.lt_or_le q 4294967296 with k | k
 ·exact k
 ·have a:=Int.mul_le_mul_of_nonneg_right k (show 0≤h*4294967296+n by omega)
  omega
theorem div_T {U u h n q Y:Int} (hY:Y=h*4294967296+n) (hY1:Y < 18446744073709551616) (e:DEnd U u h n q) :
  IntKind.u64.wrap (IntKind.u64.wrap (IntKind.u64.wrap (U*4294967296)+u) - IntKind.u64.wrap (q*Y))=U*4294967296+u - q*Y∧0≤U*4294967296+u - q*Y∧U*4294967296+u - q*Y < Y:=by
 obtain ⟨q0,lo,up⟩:=e
 rw [← hY] at lo up
 rw [Int.add_mul,Int.one_mul] at up
 simp only [IntKind.wrap_u64]
 generalize q*Y=p at *
 omega
theorem norm_words (H l:Nat) (k:Nat) (hk:k≤64) (hl:l < 18446744073709551616) (hH:H*2 ^ k < 18446744073709551616) :
  bits .or .u64 (IntKind.u64.wrap ((H:Int)*2 ^ k)) ((l:Int) / 2 ^ (64 - k))=((H*2 ^ k+l / 2 ^ (64 - k):Nat):Int) ∧
  IntKind.u64.wrap ((l:Int)*2 ^ k)=((2 ^ k*(l % 2 ^ (64 - k)):Nat):Int) ∧
  (H*2 ^ k+l / 2 ^ (64 - k))*18446744073709551616+2 ^ k*(l % 2 ^ (64 - k))=(H*18446744073709551616+l)*2 ^ k∧l / 2 ^ (64 - k) < 2 ^ k∧2 ^ k*(l % 2 ^ (64 - k)) < 18446744073709551616:=by
 have hKM:2 ^ k*2 ^ (64 - k)=18446744073709551616:=by rw [← Nat.pow_add,show k+(64 - k)=64 from by omega]
 have hM:0 < 2 ^ (64 - k):=Nat.pow_pos (by decide)
 have hK:0 < 2 ^ k:=Nat.pow_pos (by decide)
 have e1:((H:Int)*2 ^ k)=((H*2 ^ k:Nat):Int):=by push_cast;rfl
 have e2:((l:Int)*2 ^ k)=((l*2 ^ k:Nat):Int):=by push_cast;rfl
 have e3:((l:Int) / 2 ^ (64 - k))=((l / 2 ^ (64 - k):Nat):Int):=by push_cast;rfl
 have ha:l / 2 ^ (64 - k) < 2 ^ k:=by
  rw [Nat.div_lt_iff_lt_mul hM,hKM];exact hl
 have hb:l % 2 ^ (64 - k) < 2 ^ (64 - k):=Nat.mod_lt _ hM
 have hlk:l*2 ^ k=18446744073709551616*(l / 2 ^ (64 - k))+2 ^ k*(l % 2 ^ (64 - k)):=by
  have d:=Nat.div_add_mod l (2 ^ (64 - k))
  calc l*2 ^ k=(2 ^ (64 - k)*(l / 2 ^ (64 - k))+l % 2 ^ (64 - k))*2 ^ k:=by rw [d]
   _=2 ^ k*2 ^ (64 - k)*(l / 2 ^ (64 - k))+2 ^ k*(l % 2 ^ (64 - k)):=by
    rw [Nat.add_mul,Nat.mul_comm (2 ^ (64 - k)*_) (2 ^ k),Nat.mul_assoc,Nat.mul_comm (l % _) (2 ^ k)]
   _=_:=by rw [hKM]
 have hb':2 ^ k*(l % 2 ^ (64 - k)) < 18446744073709551616:=by
  rw [← hKM];exact Nat.mul_lt_mul_of_pos_left hb hK
 refine ⟨?_,?_,?_,ha,hb'⟩
 ·rw [e1,e3,IntKind.wrap_u64,Int.emod_eq_of_lt (by omega) (by omega),u64_or_nat _ _ hH (by have:2 ^ k≤18446744073709551616:=(by rw [← hKM];exact Nat.le_mul_of_pos_right _ hM);omega)]
  rw [nat_join k _ _ (Nat.mul_mod_left _ _) ha]
 ·rw [e2,IntKind.wrap_u64,hlk]
  omega
 ·rw [Nat.add_mul,Nat.add_mul,hlk,Nat.mul_assoc,Nat.mul_comm (2 ^ k) 18446744073709551616,← Nat.mul_assoc]
  omega
end Go.Proofs.YtfkbjdgbpenflaaGreatDoor
namespace Go.Proofs.YtfkbjdgbpenflaaGreatDoor
open Go.RowKit
theorem low32 (x:Int) (h0:0≤x) (h1:x < 18446744073709551616):bits .and .u64 x 4294967295=x % 4294967296:=by
 obtain ⟨n,rfl⟩:=Int.eq_ofNat_of_zero_le h0
 have:=u64_and_nat n 4294967295 (by omega) (by decide)
 rw [show ((4294967295:Nat):Int)=4294967295 from rfl] at this
 rw [this,nat_mask32];omega
theorem div64_w (hi lo y s Y U L h n u1 u0 N R:Int) (h0:0 < hi) (_h1:0≤lo) (_h2:lo < 18446744073709551616) (h3:hi < y) (h4:y < 18446744073709551616)
  (hs0:0≤s) (hs1:s≤63) (HS:Hid (s=64 - (Lib.bitLen y.toNat:Int)))
  (eY:IntKind.u64.wrap (y*2 ^ s.toNat)=Y) (eU:bits .or .u64 (IntKind.u64.wrap (hi*2 ^ s.toNat)) (lo / 2 ^ (64 - s).toNat)=U) (eL:IntKind.u64.wrap (lo*2 ^ s.toNat)=L)
  (eh:Y / 4294967296=h) (en:bits .and .u64 Y 4294967295=n) (e1:L / 4294967296=u1) (e0:bits .and .u64 L 4294967295=u0)
  (z1:DSize U u1 h n) (HY:Hid (Y=h*4294967296+n)) (hu0:0≤u0) (hu1:u0 < 4294967296) (_hL0:0≤L) (_hL1:L < 18446744073709551616) (hU1:U < 18446744073709551616) (hY0:0≤Y) (hY1:Y < 18446744073709551616)
  (fin:∀ q1 q0 T:Int,DEnd U u1 h n q1→T=U*4294967296+u1 - q1*Y→DEnd T u0 h n q0→q1*4294967296+q0=N∧(T*4294967296+u0 - q0*Y) / 2 ^ s.toNat=R) (w:World) :
  Calls Tryz.prog 152 #[.int .u64 hi,.int .u64 lo,.int .u64 y] w fun e w' =>
   e=.returned (.tuple #[.int .u64 N,.int .u64 R])∧w'=w:=by
 have hz:(hi == 0)=false:=by rw [beq_eq_false_iff_ne];omega
 have hz':(y == 0)=false:=by rw [beq_eq_false_iff_ne];omega
 have s1:=dinv_start z1
 have r1:=dinv_rest z1
 have FIN:Hid _:=fin
 have Z1:Hid _:=z1
 have S1:Hid _:=s1
 obtain ⟨r11,r12,r13,r14,r15,r16⟩:=r1
 obtain ⟨z11,z12,z13,z14,z15,z16,z17,z18⟩:=z1
 clear fin s1
 have hU0:0≤U:=z17
 have hh0:0 < h:=by omega
 have hne:¬ h=0:=by omega
 clear z18
 go_enter Tryz.func152,Tryz.ntmps152
 go_wp2_with (go_at_call 175;refine (Tryz.bits_LeadingZeros64 _ _ (by omega) (by omega)).mono ?_;rw [← HS.out];rintro e w' ⟨rfl,rfl⟩)
 go_loop [15,16] (fun a b=>∃ q r:Int,a=.int .u64 q∧b=.int .u64 r∧DInv U u1 h n q r∧r < 4294967296∧q < 8589934592) (fun a _=>(intOf a).toNat)
 case atStart=>exact ⟨_,_,rfl,rfl,S1.out,r12,r16⟩
 case round =>
  obtain ⟨q,r,rfl,rfl,iv,hr,hq⟩:=hrel
  have IV:Hid _:=iv
  have ivq:=iv.q0
  have ivr:=iv.r0
  clear iv
  have hqn0:0≤q*n:=Int.mul_nonneg ivq z13
  by_cases t:4294967296≤q
  ·obtain ⟨st,sq⟩:=dinv_step Z1.out IV.out (Or.inl t)
   have ST:Hid _:=st
   clear st
   by_cases tr:4294967296≤r+h
   ·have en1:=dinv_break Z1.out ST.out tr
    have dl1:=dend_lt Z1.out en1
    obtain ⟨T,hT⟩:∃ T:Int,T=U*4294967296+u1 - (q - 1)*Y:=⟨_,rfl⟩
    have dt:=div_T HY.out hY1 en1
    rw [← hT] at dt
    obtain ⟨eT,T0,T1⟩:=dt
    have z2:DSize T u0 h n:=⟨z11,z12,z13,z14,hu0,hu1,T0,by rw [← HY.out];exact T1⟩
    have s2:=dinv_start z2
    obtain ⟨r21,r22,r23,r24,r25,r26⟩:=dinv_rest z2
    have HT:Hid _:=hT
    have EN1:Hid _:=en1
    have Z2:Hid _:=z2
    have S2:Hid _:=s2
    have e10:=en1.q0
    have T2:T < 18446744073709551616:=by omega
    clear hT en1 z2 s2 T1
    go_wp2
    go_loop [18,16] (fun a b=>∃ q r:Int,a=.int .u64 q∧b=.int .u64 r∧DInv T u0 h n q r∧r < 4294967296∧q < 8589934592) (fun a _=>(intOf a).toNat)
    case atStart=>exact ⟨_,_,rfl,rfl,S2.out,r22,r26⟩
    case round =>
     obtain ⟨p,g,rfl,rfl,jv,hg,hp⟩:=hrel
     have JV:Hid _:=jv
     have jvq:=jv.q0
     have jvr:=jv.r0
     clear jv
     have hpn0:0≤p*n:=Int.mul_nonneg jvq z13
     by_cases t3:4294967296≤p
     ·obtain ⟨st,sq⟩:=dinv_step Z2.out JV.out (Or.inl t3)
      have ST:Hid _:=st
      clear st
      by_cases tr:4294967296≤g+h
      ·have en2:=dinv_break Z2.out ST.out tr
       have dl2:=dend_lt Z2.out en2
       obtain ⟨eX,X0,X1⟩:=div_T HY.out hY1 en2
       obtain ⟨f1,f2⟩:=FIN.out _ _ _ EN1.out HT.out en2
       have E2:=en2.q0
       have F1:Hid _:=f1
       have F2:Hid _:=f2
       clear f1 f2 en2
       go_wp2
       go_ret2
       exact ⟨by rw [F1.out,F2.out];rfl,rfl⟩
      ·go_wp2
       go_round
       case rel=>exact ⟨p - 1,g+h,rfl,rfl,ST.out,by omega,by omega⟩
       case measure=>simp [intOf];omega
     ·have hpn1:p*n < 18446744073709551616:=by
       have:=Int.mul_le_mul (show p≤4294967295 by omega) (show n≤4294967295 by omega) z13 (by omega)
       omega
      by_cases t4:4294967296*g+u0 < p*n
      ·obtain ⟨st,sq⟩:=dinv_step Z2.out JV.out (Or.inr t4)
       have ST:Hid _:=st
       clear st
       by_cases tr:4294967296≤g+h
       ·have en2:=dinv_break Z2.out ST.out tr
        have dl2:=dend_lt Z2.out en2
        obtain ⟨eX,X0,X1⟩:=div_T HY.out hY1 en2
        obtain ⟨f1,f2⟩:=FIN.out _ _ _ EN1.out HT.out en2
        have E2:=en2.q0
        have F1:Hid _:=f1
        have F2:Hid _:=f2
        clear f1 f2 en2
        go_wp2
        go_ret2
        exact ⟨by rw [F1.out,F2.out];rfl,rfl⟩
       ·go_wp2
        go_round
        case rel=>exact ⟨p - 1,g+h,rfl,rfl,ST.out,by omega,by omega⟩
        case measure=>simp [intOf];omega
      ·have en2:=dinv_end JV.out (by omega)
       have dl2:=dend_lt Z2.out en2
       obtain ⟨eX,X0,X1⟩:=div_T HY.out hY1 en2
       obtain ⟨f1,f2⟩:=FIN.out _ _ _ EN1.out HT.out en2
       have E2:=en2.q0
       have F1:Hid _:=f1
       have F2:Hid _:=f2
       clear f1 f2 en2
       go_wp2
       go_ret2
       exact ⟨by rw [F1.out,F2.out];rfl,rfl⟩
   ·go_wp2
    go_round
    case rel=>exact ⟨q - 1,r+h,rfl,rfl,ST.out,by omega,by omega⟩
    case measure=>simp [intOf];omega
  ·have hqn1:q*n < 18446744073709551616:=by
    have:=Int.mul_le_mul (show q≤4294967295 by omega) (show n≤4294967295 by omega) z13 (by omega)
    omega
   by_cases t2:4294967296*r+u1 < q*n
   ·obtain ⟨st,sq⟩:=dinv_step Z1.out IV.out (Or.inr t2)
    have ST:Hid _:=st
    clear st
    by_cases tr:4294967296≤r+h
    ·have en1:=dinv_break Z1.out ST.out tr
     have dl1:=dend_lt Z1.out en1
     obtain ⟨T,hT⟩:∃ T:Int,T=U*4294967296+u1 - (q - 1)*Y:=⟨_,rfl⟩
     have dt:=div_T HY.out hY1 en1
     rw [← hT] at dt
     obtain ⟨eT,T0,T1⟩:=dt
     have z2:DSize T u0 h n:=⟨z11,z12,z13,z14,hu0,hu1,T0,by rw [← HY.out];exact T1⟩
     have s2:=dinv_start z2
     obtain ⟨r21,r22,r23,r24,r25,r26⟩:=dinv_rest z2
     have HT:Hid _:=hT
     have EN1:Hid _:=en1
     have Z2:Hid _:=z2
     have S2:Hid _:=s2
     have e10:=en1.q0
     have T2:T < 18446744073709551616:=by omega
     clear hT en1 z2 s2 T1
     go_wp2
     go_loop [18,16] (fun a b=>∃ q r:Int,a=.int .u64 q∧b=.int .u64 r∧DInv T u0 h n q r∧r < 4294967296∧q < 8589934592) (fun a _=>(intOf a).toNat)
     case atStart=>exact ⟨_,_,rfl,rfl,S2.out,r22,r26⟩
     case round =>
      obtain ⟨p,g,rfl,rfl,jv,hg,hp⟩:=hrel
      have JV:Hid _:=jv
      have jvq:=jv.q0
      have jvr:=jv.r0
      clear jv
      have hpn0:0≤p*n:=Int.mul_nonneg jvq z13
      by_cases t3:4294967296≤p
      ·obtain ⟨st,sq⟩:=dinv_step Z2.out JV.out (Or.inl t3)
       have ST:Hid _:=st
       clear st
       by_cases tr:4294967296≤g+h
       ·have en2:=dinv_break Z2.out ST.out tr
        have dl2:=dend_lt Z2.out en2
        obtain ⟨eX,X0,X1⟩:=div_T HY.out hY1 en2
        obtain ⟨f1,f2⟩:=FIN.out _ _ _ EN1.out HT.out en2
        have E2:=en2.q0
        have F1:Hid _:=f1
        have F2:Hid _:=f2
        clear f1 f2 en2
        go_wp2
        go_ret2
        exact ⟨by rw [F1.out,F2.out];rfl,rfl⟩
       ·go_wp2
        go_round
        case rel=>exact ⟨p - 1,g+h,rfl,rfl,ST.out,by omega,by omega⟩
        case measure=>simp [intOf];omega
      ·have hpn1:p*n < 18446744073709551616:=by
        have:=Int.mul_le_mul (show p≤4294967295 by omega) (show n≤4294967295 by omega) z13 (by omega)
        omega
       by_cases t4:4294967296*g+u0 < p*n
       ·obtain ⟨st,sq⟩:=dinv_step Z2.out JV.out (Or.inr t4)
        have ST:Hid _:=st
        clear st
        by_cases tr:4294967296≤g+h
        ·have en2:=dinv_break Z2.out ST.out tr
         have dl2:=dend_lt Z2.out en2
         obtain ⟨eX,X0,X1⟩:=div_T HY.out hY1 en2
         obtain ⟨f1,f2⟩:=FIN.out _ _ _ EN1.out HT.out en2
         have E2:=en2.q0
         have F1:Hid _:=f1
         have F2:Hid _:=f2
         clear f1 f2 en2
         go_wp2
         go_ret2
         exact ⟨by rw [F1.out,F2.out];rfl,rfl⟩
        ·go_wp2
         go_round
         case rel=>exact ⟨p - 1,g+h,rfl,rfl,ST.out,by omega,by omega⟩
         case measure=>simp [intOf];omega
       ·have en2:=dinv_end JV.out (by omega)
        have dl2:=dend_lt Z2.out en2
        obtain ⟨eX,X0,X1⟩:=div_T HY.out hY1 en2
        obtain ⟨f1,f2⟩:=FIN.out _ _ _ EN1.out HT.out en2
        have E2:=en2.q0
        have F1:Hid _:=f1
        have F2:Hid _:=f2
        clear f1 f2 en2
        go_wp2
        go_ret2
        exact ⟨by rw [F1.out,F2.out];rfl,rfl⟩
    ·go_wp2
     go_round
     case rel=>exact ⟨q - 1,r+h,rfl,rfl,ST.out,by omega,by omega⟩
     case measure=>simp [intOf];omega
   ·have en1:=dinv_end IV.out (by omega)
    have dl1:=dend_lt Z1.out en1
    obtain ⟨T,hT⟩:∃ T:Int,T=U*4294967296+u1 - q*Y:=⟨_,rfl⟩
    have dt:=div_T HY.out hY1 en1
    rw [← hT] at dt
    obtain ⟨eT,T0,T1⟩:=dt
    have z2:DSize T u0 h n:=⟨z11,z12,z13,z14,hu0,hu1,T0,by rw [← HY.out];exact T1⟩
    have s2:=dinv_start z2
    obtain ⟨r21,r22,r23,r24,r25,r26⟩:=dinv_rest z2
    have HT:Hid _:=hT
    have EN1:Hid _:=en1
    have Z2:Hid _:=z2
    have S2:Hid _:=s2
    have e10:=en1.q0
    have T2:T < 18446744073709551616:=by omega
    clear hT en1 z2 s2 T1
    go_wp2
    go_loop [18,16] (fun a b=>∃ q r:Int,a=.int .u64 q∧b=.int .u64 r∧DInv T u0 h n q r∧r < 4294967296∧q < 8589934592) (fun a _=>(intOf a).toNat)
    case atStart=>exact ⟨_,_,rfl,rfl,S2.out,r22,r26⟩
    case round =>
     obtain ⟨p,g,rfl,rfl,jv,hg,hp⟩:=hrel
     have JV:Hid _:=jv
     have jvq:=jv.q0
     have jvr:=jv.r0
     clear jv
     have hpn0:0≤p*n:=Int.mul_nonneg jvq z13
     by_cases t3:4294967296≤p
     ·obtain ⟨st,sq⟩:=dinv_step Z2.out JV.out (Or.inl t3)
      have ST:Hid _:=st
      clear st
      by_cases tr:4294967296≤g+h
      ·have en2:=dinv_break Z2.out ST.out tr
       have dl2:=dend_lt Z2.out en2
       obtain ⟨eX,X0,X1⟩:=div_T HY.out hY1 en2
       obtain ⟨f1,f2⟩:=FIN.out _ _ _ EN1.out HT.out en2
       have E2:=en2.q0
       have F1:Hid _:=f1
       have F2:Hid _:=f2
       clear f1 f2 en2
       go_wp2
       go_ret2
       exact ⟨by rw [F1.out,F2.out];rfl,rfl⟩
      ·go_wp2
       go_round
       case rel=>exact ⟨p - 1,g+h,rfl,rfl,ST.out,by omega,by omega⟩
       case measure=>simp [intOf];omega
     ·have hpn1:p*n < 18446744073709551616:=by
       have:=Int.mul_le_mul (show p≤4294967295 by omega) (show n≤4294967295 by omega) z13 (by omega)
       omega
      by_cases t4:4294967296*g+u0 < p*n
      ·obtain ⟨st,sq⟩:=dinv_step Z2.out JV.out (Or.inr t4)
       have ST:Hid _:=st
       clear st
       by_cases tr:4294967296≤g+h
       ·have en2:=dinv_break Z2.out ST.out tr
        have dl2:=dend_lt Z2.out en2
        obtain ⟨eX,X0,X1⟩:=div_T HY.out hY1 en2
        obtain ⟨f1,f2⟩:=FIN.out _ _ _ EN1.out HT.out en2
        have E2:=en2.q0
        have F1:Hid _:=f1
        have F2:Hid _:=f2
        clear f1 f2 en2
        go_wp2
        go_ret2
        exact ⟨by rw [F1.out,F2.out];rfl,rfl⟩
       ·go_wp2
        go_round
        case rel=>exact ⟨p - 1,g+h,rfl,rfl,ST.out,by omega,by omega⟩
        case measure=>simp [intOf];omega
      ·have en2:=dinv_end JV.out (by omega)
       have dl2:=dend_lt Z2.out en2
       obtain ⟨eX,X0,X1⟩:=div_T HY.out hY1 en2
       obtain ⟨f1,f2⟩:=FIN.out _ _ _ EN1.out HT.out en2
       have E2:=en2.q0
       have F1:Hid _:=f1
       have F2:Hid _:=f2
       clear f1 f2 en2
       go_wp2
       go_ret2
       exact ⟨by rw [F1.out,F2.out];rfl,rfl⟩
end Go.Proofs.YtfkbjdgbpenflaaGreatDoor
namespace Go.Proofs.YtfkbjdgbpenflaaGreatDoor
theorem div_fin {Nn y K U L Y u1 u0 h n q1 q0 T:Int} (hK:0 < K) (hy:0 < y) (hYK:Y=y*K) (hN:U*18446744073709551616+L=Nn*K) (hL:L=u1*4294967296+u0)
  (hY:Y=h*4294967296+n) (hT:T=U*4294967296+u1 - q1*Y) (e:DEnd T u0 h n q0) :
  q1*4294967296+q0=Nn / y∧(T*4294967296+u0 - q0*Y) / K=Nn % y:=by
 obtain ⟨_,lo,up⟩:=e
 rw [← hY] at lo up
 rw [Int.add_mul,Int.one_mul] at up
 obtain ⟨Q,hQ⟩:∃ Q:Int,Q=q1*4294967296+q0:=⟨_,rfl⟩
 obtain ⟨X,hX⟩:∃ X:Int,X=T*4294967296+u0 - q0*Y:=⟨_,rfl⟩
 have e1:Q*Y=q1*Y*4294967296+q0*Y:=by
  rw [hQ,Int.add_mul,Int.mul_right_comm]
 have e2:Q*Y+X=Nn*K:=by
  generalize q1*Y=a at *
  generalize q0*Y=b at *
  omega
 have e3:(Nn - Q*y)*K=X:=by
  rw [Int.sub_mul,Int.mul_assoc,← hYK];omega
 have d0:0≤Nn - Q*y:=by
  rcases Int.lt_or_le (Nn - Q*y) 0 with k | k
  ·have:=Int.mul_neg_of_neg_of_pos k hK
   omega
  ·exact k
 have d1:Nn - Q*y < y:=by
  rcases Int.lt_or_le (Nn - Q*y) y with k | k
  ·exact k
  ·have:=Int.mul_le_mul_of_nonneg_right k (Int.le_of_lt hK)
   omega
 have u:=(Int.ediv_emod_unique hy (a:=Nn) (q:=Q) (r:=Nn - Q*y)).2 ⟨by rw [Int.mul_comm y Q];omega,d0,d1⟩
 rw [← hQ,← hX,← e3,Int.mul_ediv_cancel _ (by omega)]
 exact ⟨u.1.symm,u.2.symm⟩
theorem bitLen_norm (y:Nat) (h0:0 < y) (h1:y < 18446744073709551616):Lib.bitLen y≤64∧1≤Lib.bitLen y∧9223372036854775808≤y*2 ^ (64 - Lib.bitLen y)∧y*2 ^ (64 - Lib.bitLen y) < 18446744073709551616:=by
 have b:=Lib.bitLenAux_bounds 64 y (by omega) (by omega)
 have hle:=Lib.bitLen_le y 64 (Nat.le_refl _) (by omega)
 change 1≤Lib.bitLen y∧2 ^ (Lib.bitLen y - 1)≤y∧y < 2 ^ Lib.bitLen y at b
 generalize Lib.bitLen y=k at *
 obtain ⟨b1,b2,b3⟩:=b
 refine ⟨hle,b1,?_,?_⟩
 ·calc 9223372036854775808=2 ^ (k - 1)*2 ^ (64 - k):=by rw [← Nat.pow_add,show k - 1+(64 - k)=63 from by omega]
   _≤_:=Nat.mul_le_mul_right _ b2
 ·calc y*2 ^ (64 - k) < 2 ^ k*2 ^ (64 - k):=Nat.mul_lt_mul_of_pos_right b3 (Nat.pow_pos (by decide))
   _=_:=by rw [← Nat.pow_add,show k+(64 - k)=64 from by omega]
end Go.Proofs.YtfkbjdgbpenflaaGreatDoor
namespace Go.Proofs.YtfkbjdgbpenflaaGreatDoor
open Go.RowKit
theorem div64_0 (lo y:Int) (h1:0≤lo) (h2:lo < 18446744073709551616) (h3:0 < y) (h4:y < 18446744073709551616) (w:World) :
  Calls Tryz.prog 152 #[.int .u64 0,.int .u64 lo,.int .u64 y] w fun e w' =>
   e=.returned (.tuple #[.int .u64 (lo / y),.int .u64 (lo % y)])∧∃ k,w'=w.drewN k:=by
 have hz':(y == 0)=false:=by rw [beq_eq_false_iff_ne];omega
 have hy:¬ y≤0:=by omega
 have hy':¬ y=0:=by omega
 have q0:0≤lo / y:=Int.ediv_nonneg h1 (by omega)
 have q1:lo / y≤lo:=Int.ediv_le_self _ h1
 have r0:0≤lo % y:=Int.emod_nonneg _ hy'
 have r1:lo % y < y:=Int.emod_lt_of_pos _ h3
 go_enter Tryz.func152,Tryz.ntmps152
 go_wp2
 go_quiet (fail)
 go_wp2
 go_ret2
 exact ⟨rfl,_,rfl⟩
theorem div64_any (hi lo y:Int) (h0:0≤hi) (h1:0≤lo) (h2:lo < 18446744073709551616) (h3:hi < y) (h4:y < 18446744073709551616) (w:World) :
  Calls Tryz.prog 152 #[.int .u64 hi,.int .u64 lo,.int .u64 y] w fun e w' =>
   e=.returned (.tuple #[.int .u64 ((hi*18446744073709551616+lo) / y),.int .u64 ((hi*18446744073709551616+lo) % y)])∧∃ k,w'=w.drewN k:=by
 rcases Int.lt_or_eq_of_le h0 with hp | hp
 ·obtain ⟨H,rfl⟩:=Int.eq_ofNat_of_zero_le h0
  obtain ⟨l,rfl⟩:=Int.eq_ofNat_of_zero_le h1
  obtain ⟨Yn,rfl⟩:=Int.eq_ofNat_of_zero_le (show 0≤y by omega)
  obtain ⟨b1,b2,b3,b4⟩:=bitLen_norm Yn (by omega) (by omega)
  have hHk:H*2 ^ (64 - Lib.bitLen Yn) < 18446744073709551616:=Nat.lt_of_le_of_lt (Nat.mul_le_mul_right _ (by omega)) b4
  obtain ⟨n1,n2,n3,n4,n5⟩:=norm_words H l (64 - Lib.bitLen Yn) (by omega) (by omega) hHk
  have hUY:H*2 ^ (64 - Lib.bitLen Yn)+l / 2 ^ (64 - (64 - Lib.bitLen Yn)) < Yn*2 ^ (64 - Lib.bitLen Yn):=by
   have:=Nat.mul_le_mul_right (2 ^ (64 - Lib.bitLen Yn)) (show H+1≤Yn by omega)
   rw [Nat.add_mul,Nat.one_mul] at this
   omega
  have hK:0 < 2 ^ (64 - Lib.bitLen Yn):=Nat.pow_pos (by decide)
  have hkt:(64 - (Lib.bitLen Yn:Int)).toNat=64 - Lib.bitLen Yn:=by omega
  have hkt2:(64 - (64 - (Lib.bitLen Yn:Int))).toNat=64 - (64 - Lib.bitLen Yn):=by omega
  have eK:((2:Int) ^ (64 - Lib.bitLen Yn))=((2 ^ (64 - Lib.bitLen Yn):Nat):Int):=by push_cast;rfl
  have eYw:IntKind.u64.wrap ((Yn:Int)*2 ^ (64 - Lib.bitLen Yn))=((Yn*2 ^ (64 - Lib.bitLen Yn):Nat):Int):=by
   rw [eK,← Int.natCast_mul,IntKind.wrap_u64];omega
  refine (div64_w (H:Int) (l:Int) (Yn:Int) (64 - (Lib.bitLen Yn:Int)) ((Yn*2 ^ (64 - Lib.bitLen Yn):Nat):Int)
   ((H*2 ^ (64 - Lib.bitLen Yn)+l / 2 ^ (64 - (64 - Lib.bitLen Yn)):Nat):Int) ((2 ^ (64 - Lib.bitLen Yn)*(l % 2 ^ (64 - (64 - Lib.bitLen Yn))):Nat):Int) _ _ _ _ (((H:Int)*18446744073709551616+l) / Yn) (((H:Int)*18446744073709551616+l) % Yn)
   hp h1 h2 h3 h4 (by omega) (by omega) rfl (by rw [hkt];exact eYw) (by rw [hkt,hkt2];exact n1) (by rw [hkt];exact n2) rfl (low32 _ (by omega) (by omega)) rfl (low32 _ (by omega) (by omega))
   ⟨by omega,by omega,by omega,by omega,by omega,by omega,by omega,by omega⟩ (by show _=_;omega) (by omega) (by omega) (by omega) (by omega) (by omega) (by omega) (by omega)
   (fun q1 q0 T e1 hT e2=>?_) w).mono ?_
  ·rw [hkt]
   exact div_fin (Nn:=(H:Int)*18446744073709551616+l) (K:=2 ^ (64 - Lib.bitLen Yn)) (L:=((2 ^ (64 - Lib.bitLen Yn)*(l % 2 ^ (64 - (64 - Lib.bitLen Yn))):Nat):Int)) (by rw [eK];omega) (by omega) (by rw [eK];push_cast;rfl)
    (by
     rw [eK,show ((H:Int)*18446744073709551616+(l:Int))*((2 ^ (64 - Lib.bitLen Yn):Nat):Int)=(((H*18446744073709551616+l)*2 ^ (64 - Lib.bitLen Yn):Nat):Int) from by rw [Int.natCast_mul,Int.natCast_add,Int.natCast_mul];rfl,← n3]
     omega) (by omega) (by omega) hT e2
  ·rintro e w' ⟨rfl,rfl⟩
   exact ⟨rfl,0,rfl⟩
 ·subst hp
  refine (div64_0 lo y h1 h2 h3 h4 w).mono ?_
  rintro e w' ⟨rfl,k,rfl⟩
  exact ⟨by simp,k,rfl⟩
theorem of_words {n:Int} (h1:-9223372036854775808≤n) (h2:n≤9223372036854775807):n / 9223372036854775808=hiOf n∧IntKind.u64.wrap n=loOf n:=by
 rw [IntKind.wrap_u64];unfold hiOf loOf;constructor <;> omega
theorem of_any (n:Int) (h1:-9223372036854775808≤n) (h2:n≤9223372036854775807) (w:World) :
  Calls Tryz.prog 106 #[.int .i64 n] w fun e w'=>e=.returned (num n)∧Below w.heap.size w w':=by
 rw [num_of (of_words h1 h2)]
 go_enter Tryz.func106,Tryz.ntmps106
 go_wp2
 simp [bodyPost,results,Tryz.results106,go_sem]
 exact bel1 _ _
theorem uns_any (n:Int) (h1:0≤n) (h2:n < 18446744073709551616) (w:World) :
  Calls Tryz.prog 141 #[.int .u64 n] w fun e w'=>e=.returned (num n)∧Below w.heap.size w w':=by
 rw [num_of (h:=0) (l:=n) (by unfold hiOf loOf;constructor <;> omega)]
 go_enter Tryz.func141,Tryz.ntmps141
 go_wp2
 simp [bodyPost,results,Tryz.results141,go_sem]
 exact bel1 _ _
theorem cmp_lt {ah al bh bl:Int} (h1:Wf ah al) (h2:Wf bh bl) (h:ah < bh):cmp (val ah al) (val bh bl)=-1:=by
 unfold cmp;rw [if_pos ((val_lt h1 h2).2 (Or.inl h))]
theorem cmp_lt' {h al bl:Int} (h1:Wf h al) (h2:Wf h bl) (hl:al < bl):cmp (val h al) (val h bl)=-1:=by
 unfold cmp;rw [if_pos ((val_lt h1 h2).2 (Or.inr ⟨rfl,hl⟩))]
theorem cmp_eq {h l:Int}:cmp (val h l) (val h l)=0:=by unfold cmp;simp
theorem cmp_gt {ah al bh bl:Int} (h1:Wf ah al) (h2:Wf bh bl) (h:¬ (ah < bh∨ah=bh∧al < bl)) (hn:¬ (ah=bh∧al=bl)):cmp (val ah al) (val bh bl)=1:=by
 unfold cmp;rw [if_neg (fun e=>h ((val_lt h1 h2).1 e)),if_neg (fun e=>hn ((val_inj h1 h2).1 e))]
theorem cmp_any (ah al bh bl:Int) (h1:Wf ah al) (h2:Wf bh bl) (w:World) :
  Calls Tryz.prog 70 #[.agg #[.int .i64 ah,.int .u64 al],.agg #[.int .i64 bh,.int .u64 bl]] w fun e w' =>
   e=.returned (.int .i64 (cmp (val ah al) (val bh bl)))∧Below w.heap.size w w':=by
 by_cases c1:ah=bh
 ·subst c1
  by_cases c2:al=bl
  ·subst c2
   rw [cmp_eq]
   clear h1 h2
   go_enter Tryz.func70,Tryz.ntmps70
   go_wp2
   go_ret
   exact ⟨rfl,bel2 _ _ _⟩
  ·have c3:(al == bl)=false:=beq_eq_false_iff_ne.2 c2
   by_cases c4:al < bl
   ·rw [cmp_lt' h1 h2 c4]
    clear h1 h2
    go_enter Tryz.func70,Tryz.ntmps70
    go_wp2
    go_ret
    exact ⟨rfl,bel2 _ _ _⟩
   ·rw [cmp_gt h1 h2 (by omega) (by omega)]
    clear h1 h2
    go_enter Tryz.func70,Tryz.ntmps70
    go_wp2
    go_ret
    exact ⟨rfl,bel2 _ _ _⟩
 ·have c2:(ah == bh)=false:=beq_eq_false_iff_ne.2 c1
  by_cases c3:ah < bh
  ·rw [cmp_lt h1 h2 c3]
   clear h1 h2
   go_enter Tryz.func70,Tryz.ntmps70
   go_wp2
   go_ret
   exact ⟨rfl,bel2 _ _ _⟩
  ·rw [cmp_gt h1 h2 (by omega) (by omega)]
   clear h1 h2
   go_enter Tryz.func70,Tryz.ntmps70
   go_wp2
   go_ret
   exact ⟨rfl,bel2 _ _ _⟩
end Go.Proofs.YtfkbjdgbpenflaaGreatDoor
namespace Go.Proofs.YtfkbjdgbpenflaaGreatDoor.Wi
open Go.RowKit
theorem bcell {W w1:World} (hb:Below W.heap.size W w1):(∀ b o,b < W.heap.size→w1.cell? ⟨b,o,none⟩=W.cell? ⟨b,o,none⟩)∧(∀ b o,b < W.heap.size→w1.frozen? ⟨b,o,none⟩=W.frozen? ⟨b,o,none⟩) :=
 ⟨fun b o h=>hb.cell (p:=⟨b,o,none⟩) h,fun b o h=>hb.frozen (p:=⟨b,o,none⟩) h⟩
theorem Below.drewN' {B:Nat} {a w:World} (h:Below B a w) (n:Nat):Below B a (w.drewN n):=by
 induction n with
 | zero=>exact h
 | succ n ih=>exact ⟨ih.os,ih.tape,ih.output,ih.size,ih.block⟩
theorem neg_any (ah al:Int) (h1:Wf ah al) (w:World) :
  Calls Tryz.prog 154 #[.agg #[.int .i64 ah,.int .u64 al]] w fun e w' =>
   e=.returned (num (rnd (- val ah al)))∧Below w.heap.size w w':=by
 have hs:=sub_any 0 0 ah al ⟨by decide,by decide,by decide,by decide⟩ h1
 rw [show val 0 0 - val ah al=- val ah al from by rw [show val 0 0=0 from by decide];omega] at hs
 have HS:Hid _:=hs
 clear hs
 go_enter Tryz.func154,Tryz.ntmps154
 go_wp2_with fail
 refine (HS.out _).mono ?_
 rintro e w1 ⟨rfl,hb⟩
 obtain ⟨hc,hf⟩:=bcell hb
 have hz:w.heap.size+1 < w1.heap.size:=by have:=hb.size;simp at this;omega
 go_wp2
 simp [bodyPost,results,Tryz.results154,go_sem,hc]
 exact (((bel2 w _ _).trans (hb.mono (by simp;omega))).setCell (by simp) _).setCell (by simp) _
def mag (n:Int):Int:=if n < 0 then -n else n
theorem mag_words {ah al:Int} (h1:Wf ah al) (hn:0≤ah):ah=hiOf (mag (val ah al))∧al=loOf (mag (val ah al)):=by
 obtain ⟨_,_,_,_⟩:=h1
 have:mag (val ah al)=val ah al:=by unfold mag;rw [if_neg (by unfold val;omega)]
 rw [this];unfold hiOf loOf val;constructor <;> omega
theorem mag_words' {ah al:Int} (h1:Wf ah al) (hn:ah < 0):IntKind.u64.wrap (hiOf (rnd (- val ah al)))=hiOf (mag (val ah al))∧loOf (rnd (- val ah al))=loOf (mag (val ah al)):=by
 obtain ⟨_,_,_,_⟩:=h1
 have:mag (val ah al)=- val ah al:=by unfold mag;rw [if_pos (by unfold val;omega)]
 rw [this,IntKind.wrap_u64];unfold hiOf loOf rnd val;constructor <;> omega
theorem mag_any (ah al:Int) (h1:Wf ah al) (w:World) :
  Calls Tryz.prog 123 #[.agg #[.int .i64 ah,.int .u64 al]] w fun e w' =>
   e=.returned (.tuple #[.int .u64 (hiOf (mag (val ah al))),.int .u64 (loOf (mag (val ah al)))])∧Below w.heap.size w w':=by
 by_cases hn:0≤ah
 ·obtain ⟨e1,e2⟩:=mag_words h1 hn
  rw [← e1,← e2]
  clear e1 e2
  obtain ⟨a1,a2,a3,a4⟩:=h1
  go_enter Tryz.func123,Tryz.ntmps123
  go_wp2
  go_quiet (fail)
  go_wp2
  go_ret2
  exact ⟨rfl,Below.drewN' (bel1 w _) _⟩
 ·obtain ⟨e1,e2⟩:=mag_words' h1 (by omega)
  rw [← e1,← e2]
  clear e1 e2
  have hn':ah < 0:=by omega
  go_enter Tryz.func123,Tryz.ntmps123
  go_wp2_with fail
  refine (neg_any _ _ h1 _).mono ?_
  rintro e w1 ⟨rfl,hb⟩
  obtain ⟨hc,hf⟩:=bcell hb
  have hz:w.heap.size < w1.heap.size:=by have:=hb.size;simp at this;omega
  go_wp2
  go_quiet (fail)
  go_wp2
  go_ret2
  exact ⟨rfl,Below.drewN' ((((bel1 w _).trans (hb.mono (by simp))).setCell (by simp) _).setCell (by simp) _) _⟩
end Go.Proofs.YtfkbjdgbpenflaaGreatDoor.Wi
