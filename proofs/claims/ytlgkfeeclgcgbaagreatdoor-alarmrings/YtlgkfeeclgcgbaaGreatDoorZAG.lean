/- THE LEAVES OF THE LIBRARY's FLOAT TEXTS: logarithms, what is unrounded, the scaling. Own work of the verifier. -/
import Derived.Test.YtlgkfeeclgcgbaaGreatDoorRows
import Derived.WalkKit
import Derived.WalkSpells
import Derived.RowKit3
import Derived.Below
import Derived.Laws.Externs
import Derived.Outline
import Derived.Deep.QuietTactic
import Derived.BigQuiet
import Derived.Laws.Bits64
import Derived.Laws.BitsAllLaws
import Derived.Test.YtlgkfeeclgcgbaaGreatDoorShelf
import Derived.Laws.ShiftsVarLaws
import Derived.Deep.RegionWith
import Derived.Deep.RegionHeld3
namespace Go.Proofs.YtlgkfeeclgcgbaaGreatDoor.Rl
open Go.RowKit
theorem bcell {W w1:World} (hb:Below W.heap.size W w1):(∀ b o,b < W.heap.size→w1.cell? ⟨b,o,none⟩=W.cell? ⟨b,o,none⟩)∧(∀ b o,b < W.heap.size→w1.frozen? ⟨b,o,none⟩=W.frozen? ⟨b,o,none⟩) :=
 ⟨fun b o h=>hb.cell (p:=⟨b,o,none⟩) h,fun b o h=>hb.frozen (p:=⟨b,o,none⟩) h⟩
theorem Below.drewN' {B:Nat} {a w:World} (h:Below B a w) (n:Nat):Below B a (w.drewN n):=by
 induction n with
 | zero=>exact h
 | succ n ih=>exact ⟨ih.os,ih.tape,ih.output,ih.size,ih.block⟩
theorem bel1 (w:World) (o1:Obj):Below w.heap.size w (w.alloc o1):=(Below.refl _ _).alloc (Nat.le_refl _) _
theorem retI {k:IntKind} {A B:Int} (h:A=B):Ending.returned (Value.int k A)=.returned (.int k B):=by rw [h]
def l10 (x:Int):Int:=x*78913 / 262144
def l2 (x:Int):Int:=x*108853 / 32768
def skw (x:Int):Int:=(x*631305 - 261663) / 2097152
theorem log10Pow2_any (x:Int) (h0:-100000≤x) (h1:x≤100000) (w:World) :
  Calls Tryz.prog 202 #[.int .i64 x] w fun e w'=>e=.returned (.int .i64 (l10 x))∧w'=w:=by
 go_enter Tryz.func202,Tryz.ntmps202
 go_wp2
 go_ret
 exact ⟨rfl,rfl⟩
theorem log2Pow10_any (x:Int) (h0:-100000≤x) (h1:x≤100000) (w:World) :
  Calls Tryz.prog 217 #[.int .i64 x] w fun e w'=>e=.returned (.int .i64 (l2 x))∧w'=w:=by
 go_enter Tryz.func217,Tryz.ntmps217
 go_wp2
 go_ret
 exact ⟨rfl,rfl⟩
theorem skewed_any (x:Int) (h0:-100000≤x) (h1:x≤100000) (w:World) :
  Calls Tryz.prog 231 #[.int .i64 x] w fun e w'=>e=.returned (.int .i64 (skw x))∧w'=w:=by
 go_enter Tryz.func231,Tryz.ntmps231
 go_wp2
 go_ret
 exact ⟨rfl,rfl⟩
def b2n (b:Bool):Nat:=if b then 1 else 0
theorem bool2_u64 (b:Bool) (w:World) :
  Calls Tryz.prog 188 #[.bool b] w fun e w'=>e=.returned (.int .u64 (b2n b:Nat))∧w'=w:=by
 cases b
 all_goals
  go_enter Tryz.func188,Tryz.ntmps188
  go_wp2
  go_ret
  exact ⟨rfl,rfl⟩
theorem ceil_any (u:Nat) (_h:u < 18446744073709551616) (w:World) :
  Calls Tryz.prog 233 #[.int .u64 (u:Int)] w fun e w'=>e=.returned (.int .u64 (((u+3) % 18446744073709551616 / 4:Nat):Int))∧w'=w:=by
 go_enter Tryz.func233,Tryz.ntmps233
 go_wp2
 go_ret
 exact ⟨retI (by first | omega | (simp only [IntKind.wrap_u64];omega)),rfl⟩
theorem floor_any (u:Nat) (h:u < 18446744073709551616) (w:World) :
  Calls Tryz.prog 234 #[.int .u64 (u:Int)] w fun e w'=>e=.returned (.int .u64 ((u / 4:Nat):Int))∧w'=w:=by
 go_enter Tryz.func234,Tryz.ntmps234
 go_wp2
 go_ret
 exact ⟨retI (by first | omega | (simp only [IntKind.wrap_u64,IntKind.wrap_i64];omega)),rfl⟩
theorem nudge_up (u d:Nat) (_h:u < 18446744073709551616) (hd:d≤1) (w:World) :
  Calls Tryz.prog 232 #[.int .u64 (u:Int),.int .i64 (d:Int)] w fun e w'=>e=.returned (.int .u64 (((u+d) % 18446744073709551616:Nat):Int))∧w'=w:=by
 go_enter Tryz.func232,Tryz.ntmps232
 go_wp2
 go_ret
 exact ⟨retI (by first | omega | (simp only [IntKind.wrap_u64];omega)),rfl⟩
theorem nudge_down (u d:Nat) (h:u < 18446744073709551616) (hd:d≤1) (w:World) :
  Calls Tryz.prog 232 #[.int .u64 (u:Int),.int .i64 (-(d:Int))] w fun e w'=>e=.returned (.int .u64 (((u+18446744073709551616 - d) % 18446744073709551616:Nat):Int))∧w'=w:=by
 obtain ⟨D,hD⟩:∃ D:Int,D=-(d:Int):=⟨_,rfl⟩
 rw [← hD]
 go_enter Tryz.func232,Tryz.ntmps232
 go_wp2
 all_goals
  go_ret
  exact ⟨retI (by first | omega | (simp only [IntKind.wrap_u64];omega)),rfl⟩
theorem and_one (n:Nat) (h:n < 18446744073709551616):bits .and .u64 (n:Int) 1=((n % 2:Nat):Int):=by
 have:=u64_and_nat n 1 h (by decide)
 rw [show ((1:Nat):Int)=1 from rfl] at this
 rw [this,show (1:Nat)=2 ^ 1 - 1 from by decide,Nat.and_two_pow_sub_one_eq_mod]
theorem round_any (u:Nat) (h:u < 18446744073709551616) (w:World) :
  Calls Tryz.prog 223 #[.int .u64 (u:Int)] w fun e w'=>e=.returned (.int .u64 (((u+1+u / 4 % 2) % 18446744073709551616 / 4:Nat):Int))∧w'=w:=by
 have h1:=and_one (u / 4) (by omega)
 rw [show ((u / 4:Nat):Int)=(u:Int) / 4 from by omega] at h1
 go_enter Tryz.func223,Tryz.ntmps223
 go_wp2
 go_ret
 refine ⟨retI ?_,rfl⟩
 simp only [IntKind.wrap_u64]
 have hq:((u / 4 % 2:Nat):Int)=(u:Int) / 4 % 2:=by omega
 rw [← hq]
 have:u / 4 % 2 < 2:=by omega
 clear h1 hq
 generalize u / 4 % 2=q at *
 omega
end Go.Proofs.YtlgkfeeclgcgbaaGreatDoor.Rl
/- THE SCALING OF THE LIBRARY's FLOAT TEXTS. Own work of the verifier. -/
set_option maxHeartbeats 400000
namespace Go.Proofs.YtlgkfeeclgcgbaaGreatDoor.Rl
open Go.RowKit
def usc (x hi lo s:Nat):Nat :=
 if x*hi / 18446744073709551616 / 2 ^ s*2 ^ s=x*hi / 18446744073709551616 then
  ((x*hi / 18446744073709551616+18446744073709551616 - b2n (decide (x*hi % 18446744073709551616 < x*lo / 18446744073709551616))) % 18446744073709551616 / 2 ^ s) ||| b2n (decide (1 < (x*hi % 18446744073709551616+18446744073709551616 - x*lo / 18446744073709551616) % 18446744073709551616))
 else (x*hi / 18446744073709551616 / 2 ^ s) ||| 1
theorem and63 (s:Int):bits .and .i64 s 63=((s % 64).toNat:Int):=by
 show IntKind.i64.wrap ((BitVec.ofInt 64 s &&& BitVec.ofInt 64 ((63:Nat):Int)).toNat:Int)=_
 rw [BitVec.toNat_and,ofInt_u64 _ (by decide),BitVec.toNat_ofInt,show (63:Nat)=2 ^ 6 - 1 from by decide,Nat.and_two_pow_sub_one_eq_mod,IntKind.wrap_i64]
 omega
theorem b2n_le (b:Bool):b2n b≤1:=by cases b <;> decide
theorem or_lt {a b:Nat} (ha:a < 18446744073709551616) (hb:b < 18446744073709551616):a ||| b < 18446744073709551616:=Nat.or_lt_two_pow (n:=64) ha hb
theorem usc_lt (x hi lo s:Nat) (hx:x < 18446744073709551616) (hhi:hi < 18446744073709551616):usc x hi lo s < 18446744073709551616:=by
 have hA:x*hi / 18446744073709551616 < 18446744073709551616:=Nat.div_lt_of_lt_mul (Nat.mul_lt_mul'' hx hhi)
 unfold usc
 split
 ·exact or_lt (Nat.lt_of_le_of_lt (Nat.div_le_self _ _) (Nat.mod_lt _ (by decide))) (by have:=b2n_le (decide (1 < (x*hi % 18446744073709551616+18446744073709551616 - x*lo / 18446744073709551616) % 18446744073709551616));omega)
 ·exact or_lt (Nat.lt_of_le_of_lt (Nat.div_le_self _ _) hA) (by decide)
theorem div_cast (a n:Nat):(a:Int) / 2 ^ n=((a / 2 ^ n:Nat):Int):=by rw [Int.natCast_ediv,Int.natCast_pow];rfl
theorem mul_cast (a n:Nat):(a:Int)*2 ^ n=((a*2 ^ n:Nat):Int):=by rw [Int.natCast_mul,Int.natCast_pow];rfl
theorem uscale_any (x hi lo:Nat) (s:Int) (hx:x < 18446744073709551616) (hhi:hi < 18446744073709551616) (hlo:lo < 18446744073709551616) (g:Nat) (w:World)
  (c0:w.cell? ⟨g,0,none⟩=some (.int .u64 (hi:Int))) (c1:w.cell? ⟨g,1,none⟩=some (.int .u64 (lo:Int))) (c2:w.cell? ⟨g,2,none⟩=some (.int .i64 s)) :
  Calls Tryz.prog 219 #[.int .u64 (x:Int),.pointer (some ⟨g,0,none⟩)] w fun e w'=>e=.returned (.int .u64 ((usc x hi lo (s % 64).toNat:Nat):Int))∧Below w.heap.size w w':=by
 have h63:=and63 s
 have hs:(s % 64).toNat < 64:=by omega
 generalize (s % 64).toNat=n at *
 have HM1:Hid _:=Tryz.bits_Mul64 x hi hx hhi
 have HM2:Hid _:=Tryz.bits_Mul64 x lo hx hlo
 have hA:x*hi / 18446744073709551616 < 18446744073709551616:=Nat.div_lt_of_lt_mul (Nat.mul_lt_mul'' hx hhi)
 have hB:x*hi % 18446744073709551616 < 18446744073709551616:=Nat.mod_lt _ (by decide)
 have hC:x*lo / 18446744073709551616 < 18446744073709551616:=Nat.div_lt_of_lt_mul (Nat.mul_lt_mul'' hx hlo)
 unfold usc
 generalize x*hi / 18446744073709551616=A at *
 generalize x*hi % 18446744073709551616=B at *
 generalize x*lo / 18446744073709551616=C at *
 generalize x*lo % 18446744073709551616=C' at *
 have hq:=div_cast A n
 have hQ:A / 2 ^ n≤A:=Nat.div_le_self _ _
 have hr:=mul_cast (A / 2 ^ n) n
 have hR:A / 2 ^ n*2 ^ n≤A:=Nat.div_mul_le_self _ _
 by_cases hE:A / 2 ^ n*2 ^ n=A
 ·rw [if_pos hE]
  have hH1:(A+18446744073709551616 - b2n (decide (B < C))) % 18446744073709551616 < 18446744073709551616:=Nat.mod_lt _ (by decide)
  have hD1:(B+18446744073709551616 - C) % 18446744073709551616 < 18446744073709551616:=Nat.mod_lt _ (by decide)
  have hb:=b2n_le (decide (B < C))
  have hH:IntKind.u64.wrap ((A:Int) - ((b2n (decide (B < C)):Nat):Int))=(((A+18446744073709551616 - b2n (decide (B < C))) % 18446744073709551616:Nat):Int):=by
   rw [IntKind.wrap_u64];omega
  have hD:IntKind.u64.wrap ((B:Int) - (C:Int))=(((B+18446744073709551616 - C) % 18446744073709551616:Nat):Int):=by rw [IntKind.wrap_u64];omega
  generalize (A+18446744073709551616 - b2n (decide (B < C))) % 18446744073709551616=H at *
  generalize (B+18446744073709551616 - C) % 18446744073709551616=D at *
  clear hb
  have hq2:=div_cast H n
  have hQ2:H / 2 ^ n≤H:=Nat.div_le_self _ _
  have hor:=u64_or_nat (H / 2 ^ n) (b2n (decide (1 < D))) (by omega) (by have:=b2n_le (decide (1 < D));omega)
  rw [show b2n (decide (1 < D))=b2n (decide ((1:Int) < (D:Int))) from by congr 2;exact propext (by omega)] at hor ⊢
  have hc:(IntKind.u64.wrap ((A / 2 ^ n*2 ^ n:Nat):Int) != (A:Int))=false:=by rw [hE,IntKind.wrap_u64,bne_eq_false_iff_eq];omega
  clear hE hR hQ hQ2
  generalize A / 2 ^ n*2 ^ n=R at *
  generalize A / 2 ^ n=Q at *
  generalize H / 2 ^ n=Q2 at *
  go_enter Tryz.func219,Tryz.ntmps219
  go_wp2_with (first
   | (go_at_call 138;(first | (with_reducible refine (HM1.out _).mono ?_) | (with_reducible refine (HM2.out _).mono ?_));rintro e w' ⟨rfl,rfl⟩)
   | (go_at_call 188;with_reducible refine (bool2_u64 _ _).mono ?_;rintro e w' ⟨rfl,rfl⟩))
  go_region_with (go_at_call 188;with_reducible refine (bool2_u64 _ _).mono ?_;rintro e w' ⟨rfl,rfl⟩)
  all_goals
   go_wp2
   go_ret
   exact ⟨rfl,Below.drewN' (Below.refl _ _) _⟩
 ·rw [if_neg hE]
  have hor:=u64_or_nat (A / 2 ^ n) 1 (by omega) (by decide)
  rw [show ((1:Nat):Int)=1 from rfl] at hor
  have hc:(IntKind.u64.wrap ((A / 2 ^ n*2 ^ n:Nat):Int) != (A:Int))=true:=by rw [IntKind.wrap_u64,bne_iff_ne];omega
  clear hE hR hQ
  generalize A / 2 ^ n*2 ^ n=R at *
  generalize A / 2 ^ n=Q at *
  go_enter Tryz.func219,Tryz.ntmps219
  go_wp2_with (first
   | (go_at_call 138;(first | (with_reducible refine (HM1.out _).mono ?_) | (with_reducible refine (HM2.out _).mono ?_));rintro e w' ⟨rfl,rfl⟩)
   | (go_at_call 188;with_reducible refine (bool2_u64 _ _).mono ?_;rintro e w' ⟨rfl,rfl⟩))
  go_ret
  exact ⟨rfl,Below.refl _ _⟩
end Go.Proofs.YtlgkfeeclgcgbaaGreatDoor.Rl
/- THE TABLE OF POWERS OF TEN, and what prescale lays. Own work of the verifier. -/
set_option maxHeartbeats 400000
namespace Go.Proofs.YtlgkfeeclgcgbaaGreatDoor.Rl
open Go.RowKit
def tabHi (i:Nat):Nat:=(Go.Pinned.pow10Rows.getD i (0,0)).1
def tabLo (i:Nat):Nat:=(Go.Pinned.pow10Rows.getD i (0,0)).2
def Pow (w:World):Prop:=∀ i,i < 696→w.cell? ⟨12,i*2,none⟩=some (.int .u64 (tabHi i:Int))∧w.cell? ⟨12,i*2+1,none⟩=some (.int .u64 (tabLo i:Int))
theorem tab_fit:∀ i,i < 696→tabHi i < 18446744073709551616∧tabLo i < 18446744073709551616:=by
 have h:(List.range 696).all (fun i=>decide (tabHi i < 18446744073709551616) && decide (tabLo i < 18446744073709551616))=true:=by decide +kernel
 intro i hi
 have:=List.all_eq_true.1 h i (List.mem_range.2 hi)
 simpa using this
theorem prescale_any (g:Nat) (e p lp:Int) (hp0:-348≤p) (hp1:p≤347) (he0:-100000≤e) (he1:e≤100000) (hl0:-100000≤lp) (hl1:lp≤100000) (w:World) (_hg:12≠g)
  (hT:Pow w) (v0 v1 v2:Value) (c0:w.cell? ⟨g,0,none⟩=some v0) (c1:w.cell? ⟨g,1,none⟩=some v1) (c2:w.cell? ⟨g,2,none⟩=some v2)
  (f0:w.frozen? ⟨g,0,none⟩=false) (f1:w.frozen? ⟨g,1,none⟩=false) (f2:w.frozen? ⟨g,2,none⟩=false) :
  Calls Tryz.prog 218 #[.pointer (some ⟨g,0,none⟩),.int .i64 e,.int .i64 p,.int .i64 lp] w fun r w'=>r=.returned (.tuple #[]) ∧
   w'=((w.setCell ⟨g,0,none⟩ (.int .u64 (tabHi (p+348).toNat:Int))).setCell ⟨g,1,none⟩ (.int .u64 (tabLo (p+348).toNat:Int))).setCell ⟨g,2,none⟩ (.int .i64 (-(e+lp+3))):=by
 obtain ⟨i,hi⟩:∃ i:Nat,p=(i:Int) - 348:=⟨(p+348).toNat,by omega⟩
 subst hi
 rw [show ((i:Int) - 348+348).toNat=i from by omega]
 obtain ⟨t0,t1⟩:=hT i (by omega)
 go_enter Tryz.func218,Tryz.ntmps218
 go_wp2
 simp [bodyPost,results,Tryz.results218,go_sem]
end Go.Proofs.YtlgkfeeclgcgbaaGreatDoor.Rl
/- THE SHORTEST DIGITS, as the library works them out. Own work of the verifier. -/
set_option maxRecDepth 100000
set_option maxHeartbeats 1000000
namespace Go.Proofs.YtlgkfeeclgcgbaaGreatDoor.Rl
open Go.RowKit
def dLow (u odd:Nat):Nat:=((u+odd) % 18446744073709551616+3) % 18446744073709551616 / 4
def dHigh (u odd:Nat):Nat:=(u+18446744073709551616 - odd) % 18446744073709551616 / 4
def dMid (u:Nat):Nat:=(u+1+u / 4 % 2) % 18446744073709551616 / 4
def scl (x:Nat) (e p:Int):Nat:=usc x (tabHi (p+348).toNat) (tabLo (p+348).toNat) ((-(e+l2 p+3)) % 64).toNat
def pick (m mn mx odd:Nat) (e p:Int):Nat × Int :=
 if dLow (scl mn e p) odd≤dHigh (scl mx e p) odd / 10*10 then (dHigh (scl mx e p) odd / 10,-(p - 1))
 else if dLow (scl mn e p) odd < dHigh (scl mx e p) odd then (dMid (scl m e p),-p)
 else (dLow (scl mn e p) odd,-p)
def shortF (m:Nat) (e:Int):Nat × Int :=
 if m=9223372036854775808∧-1085 < e then pick m (m - 512) (m+1024) 0 e (-(skw (e+11)))
 else if -1085≤e then pick m (m - 1024) (m+1024) (m / 2048 % 2) e (-(l10 (e+11)))
 else pick m (m - 2 ^ (-1075 - e).toNat) (m+2 ^ (-1075 - e).toNat) (m / 2 ^ (-1074 - e).toNat % 2) e (-(l10 (-1074)))
theorem dLow_lt (u odd:Nat):dLow u odd < 4611686018427387904:=by unfold dLow;omega
theorem dHigh_lt (u odd:Nat):dHigh u odd < 4611686018427387904:=by unfold dHigh;omega
theorem dMid_lt (u:Nat):dMid u < 4611686018427387904:=by unfold dMid;omega
theorem scl_lt (x:Nat) (e p:Int) (hx:x < 18446744073709551616) (hp0:-348≤p) (hp1:p≤347):scl x e p < 18446744073709551616:=usc_lt _ _ _ _ hx (tab_fit _ (by omega)).1
theorem and_one_i (n:Nat) (h:n < 9223372036854775808):bits .and .i64 (n:Int) 1=((n % 2:Nat):Int):=by
 show IntKind.i64.wrap ((BitVec.ofInt 64 (n:Int) &&& BitVec.ofInt 64 ((1:Nat):Int)).toNat:Int)=_
 rw [BitVec.toNat_and,ofInt_u64 _ (by omega),ofInt_u64 _ (by decide),show (1:Nat)=2 ^ 1 - 1 from by decide,Nat.and_two_pow_sub_one_eq_mod,IntKind.wrap_i64]
 omega
theorem pow_alloc {w:World} (h:Pow w) (hg:12 < w.heap.size) (o:Obj):Pow (w.alloc o):=by
 intro i hi
 obtain ⟨h0,h1⟩:=h i hi
 have hb:=bcell (bel1 w o)
 exact ⟨by rw [hb.1 _ _ hg,h0],by rw [hb.1 _ _ hg,h1]⟩
structure Sc (m mn mx odd:Nat) (e p:Int) (U1 V1 D1 U2 V2 D2 U3 D3:Nat):Prop where
 l1:D1 < 4611686018427387904
 l2:D2 < 4611686018427387904
 l3:D3 < 4611686018427387904
 u1:∀ (g:Nat) (W:World),W.cell? ⟨g,0,none⟩=some (.int .u64 (tabHi (p+348).toNat:Int))→W.cell? ⟨g,1,none⟩=some (.int .u64 (tabLo (p+348).toNat:Int))→W.cell? ⟨g,2,none⟩=some (.int .i64 (-(e+Go.Proofs.YtlgkfeeclgcgbaaGreatDoor.Rl.l2 p+3))) →
  Calls Tryz.prog 219 #[.int .u64 (mn:Int),.pointer (some ⟨g,0,none⟩)] W fun r w'=>r=.returned (.int .u64 (U1:Int))∧Below W.heap.size W w'
 u2:∀ (g:Nat) (W:World),W.cell? ⟨g,0,none⟩=some (.int .u64 (tabHi (p+348).toNat:Int))→W.cell? ⟨g,1,none⟩=some (.int .u64 (tabLo (p+348).toNat:Int))→W.cell? ⟨g,2,none⟩=some (.int .i64 (-(e+Go.Proofs.YtlgkfeeclgcgbaaGreatDoor.Rl.l2 p+3))) →
  Calls Tryz.prog 219 #[.int .u64 (mx:Int),.pointer (some ⟨g,0,none⟩)] W fun r w'=>r=.returned (.int .u64 (U2:Int))∧Below W.heap.size W w'
 u3:∀ (g:Nat) (W:World),W.cell? ⟨g,0,none⟩=some (.int .u64 (tabHi (p+348).toNat:Int))→W.cell? ⟨g,1,none⟩=some (.int .u64 (tabLo (p+348).toNat:Int))→W.cell? ⟨g,2,none⟩=some (.int .i64 (-(e+Go.Proofs.YtlgkfeeclgcgbaaGreatDoor.Rl.l2 p+3))) →
  Calls Tryz.prog 219 #[.int .u64 (m:Int),.pointer (some ⟨g,0,none⟩)] W fun r w'=>r=.returned (.int .u64 (U3:Int))∧Below W.heap.size W w'
 n1:∀ W,Calls Tryz.prog 232 #[.int .u64 (U1:Int),.int .i64 (odd:Int)] W fun r w'=>r=.returned (.int .u64 (V1:Int))∧w'=W
 n2:∀ W,Calls Tryz.prog 232 #[.int .u64 (U2:Int),.int .i64 (-(odd:Int))] W fun r w'=>r=.returned (.int .u64 (V2:Int))∧w'=W
 d1:∀ W,Calls Tryz.prog 233 #[.int .u64 (V1:Int)] W fun r w'=>r=.returned (.int .u64 (D1:Int))∧w'=W
 d2:∀ W,Calls Tryz.prog 234 #[.int .u64 (V2:Int)] W fun r w'=>r=.returned (.int .u64 (D2:Int))∧w'=W
 d3:∀ W,Calls Tryz.prog 223 #[.int .u64 (U3:Int)] W fun r w'=>r=.returned (.int .u64 (D3:Int))∧w'=W
 pk:pick m mn mx odd e p=if D1≤D2 / 10*10 then (D2 / 10,-(p - 1)) else if D1 < D2 then (D3,-p) else (D1,-p)
theorem sc_of (m mn mx odd:Nat) (e p:Int) (hm:m < 18446744073709551616) (hmn:mn < 18446744073709551616) (hmx:mx < 18446744073709551616) (ho:odd≤1) (hp0:-348≤p) (hp1:p≤347) :
  ∃ U1 V1 D1 U2 V2 D2 U3 D3,Sc m mn mx odd e p U1 V1 D1 U2 V2 D2 U3 D3:=by
 obtain ⟨tf0,tf1⟩:=tab_fit (p+348).toNat (by omega)
 have s1:=scl_lt mn e p hmn hp0 hp1
 have s2:=scl_lt mx e p hmx hp0 hp1
 have s3:=scl_lt m e p hm hp0 hp1
 exact ⟨scl mn e p,(scl mn e p+odd) % 18446744073709551616,dLow (scl mn e p) odd,scl mx e p,(scl mx e p+18446744073709551616 - odd) % 18446744073709551616,dHigh (scl mx e p) odd,scl m e p,dMid (scl m e p),
  dLow_lt _ _,dHigh_lt _ _,dMid_lt _,fun g W h0 h1 h2=>uscale_any mn _ _ _ hmn tf0 tf1 g W h0 h1 h2,fun g W h0 h1 h2=>uscale_any mx _ _ _ hmx tf0 tf1 g W h0 h1 h2,fun g W h0 h1 h2=>uscale_any m _ _ _ hm tf0 tf1 g W h0 h1 h2,
  nudge_up _ _ s1 ho,nudge_down _ _ s2 ho,ceil_any _ (Nat.mod_lt _ (by decide)),floor_any _ (Nat.mod_lt _ (by decide)),round_any _ s3,rfl⟩
theorem shortN (m mn mx odd:Nat) (e p:Int) (hm0:9223372036854775808≤m) (hm1:m≤18446744073709549568) (he0:-1085≤e) (he1:e≤1000) (hc:((m:Int) == 9223372036854775808)=false∨((m:Int) == 9223372036854775808)=true∧e≤-1085)
  (hmn:(m:Int) - 1024=(mn:Int)) (hmx:(m:Int)+1024=(mx:Int)) (hodd:bits .and .i64 ((m:Int) / 2048) 1=(odd:Int)) (ho:odd≤1) (hp:-(l10 (e+11))=p) (hp0:-348≤p) (hp1:p≤347)
  (w:World) (hg:12 < w.heap.size) (hT:Pow w) :
  Calls Tryz.prog 207 #[.int .u64 (m:Int),.int .i64 e] w fun r w'=>r=.returned (.tuple #[.int .u64 ((pick m mn mx odd e p).1:Int),.int .i64 (pick m mn mx odd e p).2])∧Below w.heap.size w w':=by
 have HL:Hid (∀ W,Calls Tryz.prog 202 #[.int .i64 (e+11)] W fun r w'=>r=.returned (.int .i64 (-p))∧w'=W):=by
  rw [show -p=l10 (e+11) from by omega];exact log10Pow2_any (e+11) (by omega) (by omega)
 have hl:-2000≤l2 p∧l2 p≤2000:=by unfold l2;omega
 obtain ⟨hl0,hl1⟩:=hl
 clear hp
 obtain ⟨U1,V1,D1,U2,V2,D2,U3,D3,hS⟩:=sc_of m mn mx odd e p (by omega) (by omega) (by omega) ho hp0 hp1
 have hd1:=hS.l1
 have hd2:=hS.l2
 have hd3:=hS.l3
 obtain ⟨Q,hQ⟩:∃ Q:Nat,D2 / 10=Q:=⟨_,rfl⟩
 have hQi:(D2:Int) / 10=(Q:Int):=by omega
 have hpk:(D1≤Q*10∧pick m mn mx odd e p=(D2 / 10,-(p - 1)))∨(Q*10 < D1∧((D1 < D2∧pick m mn mx odd e p=(D3,-p))∨(D2≤D1∧pick m mn mx odd e p=(D1,-p)))):=by
  have h:=hS.pk
  rw [hQ] at h ⊢
  by_cases h1:D1≤Q*10
  ·rw [if_pos h1] at h;exact Or.inl ⟨h1,h⟩
  ·rw [if_neg h1] at h
   by_cases h2:D1 < D2
   ·rw [if_pos h2] at h;exact Or.inr ⟨by omega,Or.inl ⟨h2,h⟩⟩
   ·rw [if_neg h2] at h;exact Or.inr ⟨by omega,Or.inr ⟨by omega,h⟩⟩
 have HS:Hid _:=hS
 have HPK:Hid _:=hpk
 clear hS hpk
 go_enter Tryz.func207,Tryz.ntmps207
 rcases hc with hc | ⟨hc,hc2⟩
 all_goals
  go_wp2_with (first
   | (go_at_call 202;with_reducible refine (HL.out _).mono ?_;rintro r w ⟨rfl,rfl⟩)
   | (go_at_call 231;with_reducible refine (HL.out _).mono ?_;rintro r w ⟨rfl,rfl⟩)
   | (go_at_call 217;with_reducible refine (log2Pow10_any p (by omega) (by omega) _).mono ?_;rintro r w ⟨rfl,rfl⟩)
   | fail)
  refine (prescale_any _ e p (l2 p) hp0 hp1 (by omega) (by omega) (by omega) (by omega) _ (by simp;omega) (pow_alloc hT hg _) (.int .u64 0) (.int .u64 0) (.int .i64 0) (by simp [go_sem]) (by simp [go_sem]) (by simp [go_sem]) (by simp [go_sem]) (by simp [go_sem]) (by simp [go_sem])).mono ?_
  rintro r w1 ⟨rfl,hw1⟩
  have hb1:Below w.heap.size w w1:=by
   rw [hw1];exact (((bel1 w _).setCell (Nat.le_refl _) _).setCell (Nat.le_refl _) _).setCell (Nat.le_refl _) _
  have hz1:w.heap.size < w1.heap.size:=by rw [hw1];simp [World.setCell]
  have c0:w1.cell? ⟨w.heap.size,0,none⟩=some (.int .u64 (tabHi (p+348).toNat:Int)):=by rw [hw1];simp [go_sem]
  have c1:w1.cell? ⟨w.heap.size,1,none⟩=some (.int .u64 (tabLo (p+348).toNat:Int)):=by rw [hw1];simp [go_sem]
  have c2:w1.cell? ⟨w.heap.size,2,none⟩=some (.int .i64 (-(e+l2 p+3))):=by rw [hw1];simp [go_sem]
  clear hw1
  go_wp2_with fail
  refine (HS.out.u1 _ w1 c0 c1 c2).mono ?_
  rintro r w2 ⟨rfl,hb2⟩
  obtain ⟨k2,_⟩:=bcell hb2
  have hz2:w.heap.size < w2.heap.size:=by have:=hb2.size;omega
  have c0:w2.cell? ⟨w.heap.size,0,none⟩=some (.int .u64 (tabHi (p+348).toNat:Int)):=by rw [k2 _ _ hz1,c0]
  have c1:w2.cell? ⟨w.heap.size,1,none⟩=some (.int .u64 (tabLo (p+348).toNat:Int)):=by rw [k2 _ _ hz1,c1]
  have c2:w2.cell? ⟨w.heap.size,2,none⟩=some (.int .i64 (-(e+l2 p+3))):=by rw [k2 _ _ hz1,c2]
  clear k2
  go_wp2_with (first
   | (go_at_call 232;with_reducible refine (HS.out.n1 _).mono ?_;rintro r w2 ⟨rfl,rfl⟩)
   | (go_at_call 233;with_reducible refine (HS.out.d1 _).mono ?_;rintro r w2 ⟨rfl,rfl⟩)
   | fail)
  refine (HS.out.u2 _ w2 c0 c1 c2).mono ?_
  rintro r w3 ⟨rfl,hb3⟩
  obtain ⟨k3,_⟩:=bcell hb3
  have hz3:w.heap.size < w3.heap.size:=by have:=hb3.size;omega
  have c0:w3.cell? ⟨w.heap.size,0,none⟩=some (.int .u64 (tabHi (p+348).toNat:Int)):=by rw [k3 _ _ hz2,c0]
  have c1:w3.cell? ⟨w.heap.size,1,none⟩=some (.int .u64 (tabLo (p+348).toNat:Int)):=by rw [k3 _ _ hz2,c1]
  have c2:w3.cell? ⟨w.heap.size,2,none⟩=some (.int .i64 (-(e+l2 p+3))):=by rw [k3 _ _ hz2,c2]
  clear k3
  have hb:Below w.heap.size w w3:=(hb1.trans (hb2.mono hb1.size)).trans (hb3.mono (by have:=hb2.size;omega))
  rcases HPK.out with ⟨q1,q2⟩ | ⟨q1,⟨q2,q3⟩ | ⟨q2,q3⟩⟩
  ·go_wp2_with (first
    | (go_at_call 232;with_reducible refine (HS.out.n2 _).mono ?_;rintro r w3 ⟨rfl,rfl⟩)
    | (go_at_call 234;with_reducible refine (HS.out.d2 _).mono ?_;rintro r w3 ⟨rfl,rfl⟩)
    | fail)
   go_ret2
   exact ⟨by rw [q2,hQ];rfl,hb⟩
  ·go_wp2_with (first
    | (go_at_call 232;with_reducible refine (HS.out.n2 _).mono ?_;rintro r w3 ⟨rfl,rfl⟩)
    | (go_at_call 234;with_reducible refine (HS.out.d2 _).mono ?_;rintro r w3 ⟨rfl,rfl⟩)
    | fail)
   refine (HS.out.u3 _ w3 c0 c1 c2).mono ?_
   rintro r w4 ⟨rfl,hb4⟩
   go_wp2_with (first
    | (go_at_call 223;with_reducible refine (HS.out.d3 _).mono ?_;rintro r w4 ⟨rfl,rfl⟩)
    | fail)
   go_ret2
   exact ⟨by rw [q3];rfl,hb.trans (hb4.mono hb.size)⟩
  ·go_wp2_with (first
    | (go_at_call 232;with_reducible refine (HS.out.n2 _).mono ?_;rintro r w3 ⟨rfl,rfl⟩)
    | (go_at_call 234;with_reducible refine (HS.out.d2 _).mono ?_;rintro r w3 ⟨rfl,rfl⟩)
    | fail)
   go_ret2
   exact ⟨by rw [q3];rfl,hb⟩
theorem shortS (m mn mx odd:Nat) (e p:Int) (hm0:9223372036854775808≤m) (hm1:m≤18446744073709549568) (he0:-1085 < e) (he1:e≤1000) (hc:((m:Int) == 9223372036854775808)=true)
  (hmn:(m:Int) - 512=(mn:Int)) (hmx:(m:Int)+1024=(mx:Int)) (hodd:bits .and .i64 ((m:Int) / 2048) 1=(odd:Int)) (ho:odd≤1) (hp:-(skw (e+11))=p) (hp0:-348≤p) (hp1:p≤347)
  (w:World) (hg:12 < w.heap.size) (hT:Pow w) :
  Calls Tryz.prog 207 #[.int .u64 (m:Int),.int .i64 e] w fun r w'=>r=.returned (.tuple #[.int .u64 ((pick m mn mx odd e p).1:Int),.int .i64 (pick m mn mx odd e p).2])∧Below w.heap.size w w':=by
 have HL:Hid (∀ W,Calls Tryz.prog 231 #[.int .i64 (e+11)] W fun r w'=>r=.returned (.int .i64 (-p))∧w'=W):=by
  rw [show -p=skw (e+11) from by omega];exact skewed_any (e+11) (by omega) (by omega)
 have hl:-2000≤l2 p∧l2 p≤2000:=by unfold l2;omega
 obtain ⟨hl0,hl1⟩:=hl
 clear hp
 obtain ⟨U1,V1,D1,U2,V2,D2,U3,D3,hS⟩:=sc_of m mn mx odd e p (by omega) (by omega) (by omega) ho hp0 hp1
 have hd1:=hS.l1
 have hd2:=hS.l2
 have hd3:=hS.l3
 obtain ⟨Q,hQ⟩:∃ Q:Nat,D2 / 10=Q:=⟨_,rfl⟩
 have hQi:(D2:Int) / 10=(Q:Int):=by omega
 have hpk:(D1≤Q*10∧pick m mn mx odd e p=(D2 / 10,-(p - 1)))∨(Q*10 < D1∧((D1 < D2∧pick m mn mx odd e p=(D3,-p))∨(D2≤D1∧pick m mn mx odd e p=(D1,-p)))):=by
  have h:=hS.pk
  rw [hQ] at h ⊢
  by_cases h1:D1≤Q*10
  ·rw [if_pos h1] at h;exact Or.inl ⟨h1,h⟩
  ·rw [if_neg h1] at h
   by_cases h2:D1 < D2
   ·rw [if_pos h2] at h;exact Or.inr ⟨by omega,Or.inl ⟨h2,h⟩⟩
   ·rw [if_neg h2] at h;exact Or.inr ⟨by omega,Or.inr ⟨by omega,h⟩⟩
 have HS:Hid _:=hS
 have HPK:Hid _:=hpk
 clear hS hpk
 go_enter Tryz.func207,Tryz.ntmps207
 go_wp2_with (first
  | (go_at_call 202;with_reducible refine (HL.out _).mono ?_;rintro r w ⟨rfl,rfl⟩)
  | (go_at_call 231;with_reducible refine (HL.out _).mono ?_;rintro r w ⟨rfl,rfl⟩)
  | (go_at_call 217;with_reducible refine (log2Pow10_any p (by omega) (by omega) _).mono ?_;rintro r w ⟨rfl,rfl⟩)
  | fail)
 refine (prescale_any _ e p (l2 p) hp0 hp1 (by omega) (by omega) (by omega) (by omega) _ (by simp;omega) (pow_alloc hT hg _) (.int .u64 0) (.int .u64 0) (.int .i64 0) (by simp [go_sem]) (by simp [go_sem]) (by simp [go_sem]) (by simp [go_sem]) (by simp [go_sem]) (by simp [go_sem])).mono ?_
 rintro r w1 ⟨rfl,hw1⟩
 have hb1:Below w.heap.size w w1:=by
  rw [hw1];exact (((bel1 w _).setCell (Nat.le_refl _) _).setCell (Nat.le_refl _) _).setCell (Nat.le_refl _) _
 have hz1:w.heap.size < w1.heap.size:=by rw [hw1];simp [World.setCell]
 have c0:w1.cell? ⟨w.heap.size,0,none⟩=some (.int .u64 (tabHi (p+348).toNat:Int)):=by rw [hw1];simp [go_sem]
 have c1:w1.cell? ⟨w.heap.size,1,none⟩=some (.int .u64 (tabLo (p+348).toNat:Int)):=by rw [hw1];simp [go_sem]
 have c2:w1.cell? ⟨w.heap.size,2,none⟩=some (.int .i64 (-(e+l2 p+3))):=by rw [hw1];simp [go_sem]
 clear hw1
 go_wp2_with fail
 refine (HS.out.u1 _ w1 c0 c1 c2).mono ?_
 rintro r w2 ⟨rfl,hb2⟩
 obtain ⟨k2,_⟩:=bcell hb2
 have hz2:w.heap.size < w2.heap.size:=by have:=hb2.size;omega
 have c0:w2.cell? ⟨w.heap.size,0,none⟩=some (.int .u64 (tabHi (p+348).toNat:Int)):=by rw [k2 _ _ hz1,c0]
 have c1:w2.cell? ⟨w.heap.size,1,none⟩=some (.int .u64 (tabLo (p+348).toNat:Int)):=by rw [k2 _ _ hz1,c1]
 have c2:w2.cell? ⟨w.heap.size,2,none⟩=some (.int .i64 (-(e+l2 p+3))):=by rw [k2 _ _ hz1,c2]
 clear k2
 go_wp2_with (first
  | (go_at_call 232;with_reducible refine (HS.out.n1 _).mono ?_;rintro r w2 ⟨rfl,rfl⟩)
  | (go_at_call 233;with_reducible refine (HS.out.d1 _).mono ?_;rintro r w2 ⟨rfl,rfl⟩)
  | fail)
 refine (HS.out.u2 _ w2 c0 c1 c2).mono ?_
 rintro r w3 ⟨rfl,hb3⟩
 obtain ⟨k3,_⟩:=bcell hb3
 have hz3:w.heap.size < w3.heap.size:=by have:=hb3.size;omega
 have c0:w3.cell? ⟨w.heap.size,0,none⟩=some (.int .u64 (tabHi (p+348).toNat:Int)):=by rw [k3 _ _ hz2,c0]
 have c1:w3.cell? ⟨w.heap.size,1,none⟩=some (.int .u64 (tabLo (p+348).toNat:Int)):=by rw [k3 _ _ hz2,c1]
 have c2:w3.cell? ⟨w.heap.size,2,none⟩=some (.int .i64 (-(e+l2 p+3))):=by rw [k3 _ _ hz2,c2]
 clear k3
 have hb:Below w.heap.size w w3:=(hb1.trans (hb2.mono hb1.size)).trans (hb3.mono (by have:=hb2.size;omega))
 rcases HPK.out with ⟨q1,q2⟩ | ⟨q1,⟨q2,q3⟩ | ⟨q2,q3⟩⟩
 ·go_wp2_with (first
   | (go_at_call 232;with_reducible refine (HS.out.n2 _).mono ?_;rintro r w3 ⟨rfl,rfl⟩)
   | (go_at_call 234;with_reducible refine (HS.out.d2 _).mono ?_;rintro r w3 ⟨rfl,rfl⟩)
   | fail)
  go_ret2
  exact ⟨by rw [q2,hQ];rfl,hb⟩
 ·go_wp2_with (first
   | (go_at_call 232;with_reducible refine (HS.out.n2 _).mono ?_;rintro r w3 ⟨rfl,rfl⟩)
   | (go_at_call 234;with_reducible refine (HS.out.d2 _).mono ?_;rintro r w3 ⟨rfl,rfl⟩)
   | fail)
  refine (HS.out.u3 _ w3 c0 c1 c2).mono ?_
  rintro r w4 ⟨rfl,hb4⟩
  go_wp2_with (first
   | (go_at_call 223;with_reducible refine (HS.out.d3 _).mono ?_;rintro r w4 ⟨rfl,rfl⟩)
   | fail)
  go_ret2
  exact ⟨by rw [q3];rfl,hb.trans (hb4.mono hb.size)⟩
 ·go_wp2_with (first
   | (go_at_call 232;with_reducible refine (HS.out.n2 _).mono ?_;rintro r w3 ⟨rfl,rfl⟩)
   | (go_at_call 234;with_reducible refine (HS.out.d2 _).mono ?_;rintro r w3 ⟨rfl,rfl⟩)
   | fail)
  go_ret2
  exact ⟨by rw [q3];rfl,hb⟩
end Go.Proofs.YtlgkfeeclgcgbaaGreatDoor.Rl
/- THE SHORTEST DIGITS of the least floats. Own work of the verifier. -/
set_option maxRecDepth 100000
set_option maxHeartbeats 1000000
namespace Go.Proofs.YtlgkfeeclgcgbaaGreatDoor.Rl
open Go.RowKit
theorem shortD (m mn mx odd z y:Nat) (e p:Int) (hm0:9223372036854775808≤m) (hm1:m < 18446744073709551616) (hz0:12≤z) (hz1:z≤63) (hy:(z:Int) - 1=(y:Int)) (he:e+(z:Int)=-1074) (he2:11+(-1085 - e)=(z:Int)) (_he0:-1137≤e) (_he1:e≤-1086)
  (T:Nat) (hT2:(2:Int) ^ y=(T:Int)) (hT3:T≤4611686018427387904) (R:Nat) (hR:(m:Int) / 2 ^ z=(R:Int)) (hR2:R < 9223372036854775808) (hmn:(m:Int) - (T:Int)=(mn:Int)) (hmx:(m:Int)+(T:Int)=(mx:Int)) (hmx1:mx < 18446744073709551616) (hodd:bits .and .i64 (R:Int) 1=(odd:Int)) (ho:odd≤1) (hp:-(l10 (-1074))=p) (hp0:-348≤p) (hp1:p≤347)
  (w:World) (hg:12 < w.heap.size) (hT:Pow w) :
  Calls Tryz.prog 207 #[.int .u64 (m:Int),.int .i64 e] w fun r w'=>r=.returned (.tuple #[.int .u64 ((pick m mn mx odd e p).1:Int),.int .i64 (pick m mn mx odd e p).2])∧Below w.heap.size w w':=by
 have HL:Hid (∀ W,Calls Tryz.prog 202 #[.int .i64 (-1074)] W fun r w'=>r=.returned (.int .i64 (-p))∧w'=W):=by
  rw [show -p=l10 (-1074) from by omega];exact log10Pow2_any (-1074) (by omega) (by omega)
 have hc:((m:Int) == 9223372036854775808)=false∨((m:Int) == 9223372036854775808)=true:=by cases ((m:Int) == 9223372036854775808) <;> simp
 have hl:-2000≤l2 p∧l2 p≤2000:=by unfold l2;omega
 obtain ⟨hl0,hl1⟩:=hl
 clear hp
 obtain ⟨U1,V1,D1,U2,V2,D2,U3,D3,hS⟩:=sc_of m mn mx odd e p (by omega) (by omega) (by omega) ho hp0 hp1
 have hd1:=hS.l1
 have hd2:=hS.l2
 have hd3:=hS.l3
 obtain ⟨Q,hQ⟩:∃ Q:Nat,D2 / 10=Q:=⟨_,rfl⟩
 have hQi:(D2:Int) / 10=(Q:Int):=by omega
 have hpk:(D1≤Q*10∧pick m mn mx odd e p=(D2 / 10,-(p - 1)))∨(Q*10 < D1∧((D1 < D2∧pick m mn mx odd e p=(D3,-p))∨(D2≤D1∧pick m mn mx odd e p=(D1,-p)))):=by
  have h:=hS.pk
  rw [hQ] at h ⊢
  by_cases h1:D1≤Q*10
  ·rw [if_pos h1] at h;exact Or.inl ⟨h1,h⟩
  ·rw [if_neg h1] at h
   by_cases h2:D1 < D2
   ·rw [if_pos h2] at h;exact Or.inr ⟨by omega,Or.inl ⟨h2,h⟩⟩
   ·rw [if_neg h2] at h;exact Or.inr ⟨by omega,Or.inr ⟨by omega,h⟩⟩
 have HS:Hid _:=hS
 have HPK:Hid _:=hpk
 clear hS hpk
 go_enter Tryz.func207,Tryz.ntmps207
 rcases hc with hc | hc
 all_goals
  go_wp2_with (first
   | (go_at_call 202;with_reducible refine (HL.out _).mono ?_;rintro r w ⟨rfl,rfl⟩)
   | (go_at_call 231;with_reducible refine (HL.out _).mono ?_;rintro r w ⟨rfl,rfl⟩)
   | (go_at_call 217;with_reducible refine (log2Pow10_any p (by omega) (by omega) _).mono ?_;rintro r w ⟨rfl,rfl⟩)
   | fail)
  refine (prescale_any _ e p (l2 p) hp0 hp1 (by omega) (by omega) (by omega) (by omega) _ (by simp;omega) (pow_alloc hT hg _) (.int .u64 0) (.int .u64 0) (.int .i64 0) (by simp [go_sem]) (by simp [go_sem]) (by simp [go_sem]) (by simp [go_sem]) (by simp [go_sem]) (by simp [go_sem])).mono ?_
  rintro r w1 ⟨rfl,hw1⟩
  have hb1:Below w.heap.size w w1:=by
   rw [hw1];exact (((bel1 w _).setCell (Nat.le_refl _) _).setCell (Nat.le_refl _) _).setCell (Nat.le_refl _) _
  have hz1:w.heap.size < w1.heap.size:=by rw [hw1];simp [World.setCell]
  have c0:w1.cell? ⟨w.heap.size,0,none⟩=some (.int .u64 (tabHi (p+348).toNat:Int)):=by rw [hw1];simp [go_sem]
  have c1:w1.cell? ⟨w.heap.size,1,none⟩=some (.int .u64 (tabLo (p+348).toNat:Int)):=by rw [hw1];simp [go_sem]
  have c2:w1.cell? ⟨w.heap.size,2,none⟩=some (.int .i64 (-(e+l2 p+3))):=by rw [hw1];simp [go_sem]
  clear hw1
  go_wp2_with fail
  refine (HS.out.u1 _ w1 c0 c1 c2).mono ?_
  rintro r w2 ⟨rfl,hb2⟩
  obtain ⟨k2,_⟩:=bcell hb2
  have hz2:w.heap.size < w2.heap.size:=by have:=hb2.size;omega
  have c0:w2.cell? ⟨w.heap.size,0,none⟩=some (.int .u64 (tabHi (p+348).toNat:Int)):=by rw [k2 _ _ hz1,c0]
  have c1:w2.cell? ⟨w.heap.size,1,none⟩=some (.int .u64 (tabLo (p+348).toNat:Int)):=by rw [k2 _ _ hz1,c1]
  have c2:w2.cell? ⟨w.heap.size,2,none⟩=some (.int .i64 (-(e+l2 p+3))):=by rw [k2 _ _ hz1,c2]
  clear k2
  go_wp2_with (first
   | (go_at_call 232;with_reducible refine (HS.out.n1 _).mono ?_;rintro r w2 ⟨rfl,rfl⟩)
   | (go_at_call 233;with_reducible refine (HS.out.d1 _).mono ?_;rintro r w2 ⟨rfl,rfl⟩)
   | fail)
  refine (HS.out.u2 _ w2 c0 c1 c2).mono ?_
  rintro r w3 ⟨rfl,hb3⟩
  obtain ⟨k3,_⟩:=bcell hb3
  have hz3:w.heap.size < w3.heap.size:=by have:=hb3.size;omega
  have c0:w3.cell? ⟨w.heap.size,0,none⟩=some (.int .u64 (tabHi (p+348).toNat:Int)):=by rw [k3 _ _ hz2,c0]
  have c1:w3.cell? ⟨w.heap.size,1,none⟩=some (.int .u64 (tabLo (p+348).toNat:Int)):=by rw [k3 _ _ hz2,c1]
  have c2:w3.cell? ⟨w.heap.size,2,none⟩=some (.int .i64 (-(e+l2 p+3))):=by rw [k3 _ _ hz2,c2]
  clear k3
  have hb:Below w.heap.size w w3:=(hb1.trans (hb2.mono hb1.size)).trans (hb3.mono (by have:=hb2.size;omega))
  rcases HPK.out with ⟨q1,q2⟩ | ⟨q1,⟨q2,q3⟩ | ⟨q2,q3⟩⟩
  ·go_wp2_with (first
    | (go_at_call 232;with_reducible refine (HS.out.n2 _).mono ?_;rintro r w3 ⟨rfl,rfl⟩)
    | (go_at_call 234;with_reducible refine (HS.out.d2 _).mono ?_;rintro r w3 ⟨rfl,rfl⟩)
    | fail)
   go_ret2
   exact ⟨by rw [q2,hQ];rfl,hb⟩
  ·go_wp2_with (first
    | (go_at_call 232;with_reducible refine (HS.out.n2 _).mono ?_;rintro r w3 ⟨rfl,rfl⟩)
    | (go_at_call 234;with_reducible refine (HS.out.d2 _).mono ?_;rintro r w3 ⟨rfl,rfl⟩)
    | fail)
   refine (HS.out.u3 _ w3 c0 c1 c2).mono ?_
   rintro r w4 ⟨rfl,hb4⟩
   go_wp2_with (first
    | (go_at_call 223;with_reducible refine (HS.out.d3 _).mono ?_;rintro r w4 ⟨rfl,rfl⟩)
    | fail)
   go_ret2
   exact ⟨by rw [q3];rfl,hb.trans (hb4.mono hb.size)⟩
  ·go_wp2_with (first
    | (go_at_call 232;with_reducible refine (HS.out.n2 _).mono ?_;rintro r w3 ⟨rfl,rfl⟩)
    | (go_at_call 234;with_reducible refine (HS.out.d2 _).mono ?_;rintro r w3 ⟨rfl,rfl⟩)
    | fail)
   go_ret2
   exact ⟨by rw [q3];rfl,hb⟩
theorem short_any (m:Nat) (e:Int) (hm0:9223372036854775808≤m) (hm1:m < 18446744073709551616) (hn:-1085≤e→m≤18446744073709549568) (hd:e < -1085→m % 2 ^ (-1074 - e).toNat=0) (he0:-1137≤e) (he1:e≤1000) (w:World) (hg:12 < w.heap.size) (hT:Pow w) :
  Calls Tryz.prog 207 #[.int .u64 (m:Int),.int .i64 e] w fun r w'=>r=.returned (.tuple #[.int .u64 ((shortF m e).1:Int),.int .i64 (shortF m e).2])∧Below w.heap.size w w':=by
 unfold shortF
 by_cases h1:m=9223372036854775808∧-1085 < e
 ·rw [if_pos h1]
  obtain ⟨rfl,h2⟩:=h1
  exact shortS _ _ _ 0 e _ (by decide) (by decide) h2 he1 (by decide) (by decide) (by decide) (by decide) (by decide) rfl (by unfold skw;omega) (by unfold skw;omega) w hg hT
 ·rw [if_neg h1]
  by_cases h2:-1085≤e
  ·rw [if_pos h2]
   have hm2:=hn h2
   have ha:=and_one_i (m / 2048) (by omega)
   rw [show ((m / 2048:Nat):Int)=(m:Int) / 2048 from by omega] at ha
   refine shortN m _ _ _ e _ hm0 hm2 h2 he1 ?_ (by omega) (by omega) ha (by omega) rfl (by unfold l10;omega) (by unfold l10;omega) w hg hT
   by_cases h3:m=9223372036854775808
   ·exact Or.inr ⟨by rw [beq_iff_eq];omega,by omega⟩
   ·exact Or.inl (by rw [beq_eq_false_iff_ne];omega)
  ·rw [if_neg h2]
   obtain ⟨z,hz⟩:∃ z:Nat,(-1074 - e).toNat=z:=⟨_,rfl⟩
   obtain ⟨y,hy⟩:∃ y:Nat,(-1075 - e).toNat=y:=⟨_,rfl⟩
   have hd:=hd (by omega)
   rw [hz] at hd
   rw [hz,hy]
   have hzy:z=y+1:=by omega
   have hy62:2 ^ y≤2 ^ 62:=Nat.pow_le_pow_right (by decide) (by omega)
   have hp:0 < 2 ^ y:=Nat.pow_pos (by decide)
   have hR:m / 2 ^ z < 9223372036854775808:=by
    rw [hzy,Nat.pow_succ]
    refine Nat.div_lt_of_lt_mul (Nat.lt_of_lt_of_le hm1 ?_)
    have:=Nat.mul_le_mul_right 9223372036854775808 (show 2≤2 ^ y*2 by omega)
    omega
   have hsum:m+2 ^ y < 18446744073709551616:=by
    -- m is a multiple of 2^z below 2^64,so at most 2^64 - 2^z
    have e1:=Nat.div_add_mod m (2 ^ z)
    have e2:2 ^ z*2 ^ (64 - z)=18446744073709551616:=by rw [← Nat.pow_add,show z+(64 - z)=64 from by omega]
    rw [hd,Nat.add_zero] at e1
    have e3:m / 2 ^ z < 2 ^ (64 - z):=Nat.div_lt_of_lt_mul (by rw [e2];exact hm1)
    have e4:2 ^ z*(m / 2 ^ z+1)≤2 ^ z*2 ^ (64 - z):=Nat.mul_le_mul_left _ e3
    rw [Nat.mul_add,Nat.mul_one,e1,e2,hzy,Nat.pow_succ] at e4
    omega
   have hle:2 ^ y≤m:=by omega
   refine shortD m _ _ _ z y e _ hm0 hm1 (by omega) (by omega) (by omega) (by omega) (by omega) he0 (by omega) (2 ^ y) (by rw [Int.natCast_pow];rfl) (by omega) (m / 2 ^ z) (div_cast m z) hR (by omega) (by omega) hsum (and_one_i _ hR) (by omega) rfl (by decide) (by decide) w hg hT
end Go.Proofs.YtlgkfeeclgcgbaaGreatDoor.Rl
