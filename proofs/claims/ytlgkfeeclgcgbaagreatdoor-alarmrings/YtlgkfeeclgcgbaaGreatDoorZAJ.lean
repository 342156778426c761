/- ftoa64 at every finite float but 0. Own work of the verifier. -/
import Derived.Test.YtlgkfeeclgcgbaaGreatDoorZAI
import Derived.Lib.AppendStr
import Derived.Test.YtlgkfeeclgcgbaaGreatDoorZAG
import Derived.Test.YtlgkfeeclgcgbaaGreatDoorZAA
import Derived.Lib.SmallJoins
namespace Go.Proofs.YtlgkfeeclgcgbaaGreatDoor.Rl
open Go.RowKit Go.Sort
def fTxt (neg:Bool) (u k:Nat) (dp:Int):List Int :=
 if dp≤0 then (if neg then [45] else [])++[48,46]++List.replicate (-dp).toNat 48++(dI u).take k
 else if (k:Int)≤dp then (if neg then [45] else [])++(dI u).take k++List.replicate (dp.toNat - k) 48
 else (if neg then [45] else [])++(dI u).take dp.toNat++[46]++behind u dp.toNat k
theorem fmtF_any (neg:Bool) (B g u k:Nat) (dp:Int) (W0 w:World) (v:Value) (hu:1≤u) (hu1:u < 18446744073709551616) (hdp0:-390≤dp) (hdp1:dp≤390) (ht:Trim u k) (hbuf:Buf B (some (g,u)) W0 v [] w) :
  Calls Tryz.prog 197 #[v,.bool neg,.slice (some ⟨g,0,none⟩) 32 32,.int .i64 dp,.int .i64 (k:Int),.int .i64 (max ((k:Int) - dp) 0),.int .u8 102,.bool true] w fun r w'=>∃ v' o,r=.returned v'∧Buf B o W0 v' (fTxt neg u (trimLen u) dp) w':=by
 have hk1:=trim_pos hu ht
 have hk2:=ht.1
 have hk3:=Lib.nDigits_le20 u hu1
 rw [← trim_len ht]
 have hl:=dI_length u
 unfold fTxt
 by_cases h1:dp≤0
 ·rw [if_pos h1,show max ((k:Int) - dp) 0=((k+(-dp).toNat:Nat):Int) from by omega]
  have h:=fmtF_below neg B g u k (-dp).toNat (k+(-dp).toNat) dp W0 w v hbuf hk1 (by omega) (by omega) (by omega) (by omega) rfl
  exact h.mono fun r w' ⟨v',a,b⟩=>⟨v',_,a,b⟩
 ·rw [if_neg h1]
  obtain ⟨D,hD⟩:∃ D:Nat,dp=(D:Int):=⟨dp.toNat,by omega⟩
  subst hD
  rw [Int.toNat_natCast]
  by_cases h2:(k:Int)≤(D:Int)
  ·rw [if_pos h2,show max ((k:Int) - (D:Int)) 0=0 from by omega]
   have h:=fmtF_whole neg B g u k D W0 w v hbuf hk1 (by omega) (by omega) (by omega) (by omega)
   exact h.mono fun r w' ⟨v',a,b⟩=>⟨v',_,a,b⟩
  ·rw [if_neg h2,show max ((k:Int) - (D:Int)) 0=((k - D:Nat):Int) from by omega]
   have h:=fmtF_mid neg B g u k D (k - D) W0 w v hbuf (by omega) (by omega) (by omega) (by omega) rfl
   exact h.mono fun r w' ⟨v',a,b⟩=>⟨v',_,a,b⟩
def sd (x:Nat):Nat × Int :=
 if x % 9223372036854775808 < 4503599627370496 then shortF (x % 4503599627370496*2 ^ (64 - Lib.bitLen (x % 4503599627370496))) (-1074 - ((64 - Lib.bitLen (x % 4503599627370496):Nat):Int))
 else shortF ((4503599627370496+x % 4503599627370496)*2048) ((x / 4503599627370496 % 2048:Nat) - 1086)
theorem sub_bits (f:Nat) (h0:1≤f) (h1:f < 4503599627370496):∃ z:Nat,64 - Lib.bitLen f=z∧64 - (Lib.bitLen f:Int)=(z:Int)∧12≤z∧z≤63∧9223372036854775808≤f*2 ^ z∧f*2 ^ z < 18446744073709551616∧f*2 ^ z % 2 ^ z=0∧f*2 ^ z+2 ^ (z - 1) < 18446744073709551616:=by
 obtain ⟨a,b,c⟩:=len_bounds f (by omega) (by omega)
 have k1:Lib.bitLen f - 1 < 52:=(Nat.pow_lt_pow_iff_right (by decide:1 < 2)).1 (Nat.lt_of_le_of_lt b (by rw [show (2:Nat) ^ 52=4503599627370496 from by decide];exact h1))
 refine ⟨64 - Lib.bitLen f,rfl,by omega,by omega,by omega,?_,?_,Nat.mul_mod_left _ _,?_⟩
 ·have:=Nat.mul_le_mul_right (2 ^ (64 - Lib.bitLen f)) b
  rw [← Nat.pow_add,show Lib.bitLen f - 1+(64 - Lib.bitLen f)=63 from by omega] at this
  exact this
 ·have:=Nat.mul_lt_mul_of_pos_right c (show 0 < 2 ^ (64 - Lib.bitLen f) from Nat.pow_pos (by decide))
  rw [← Nat.pow_add,show Lib.bitLen f+(64 - Lib.bitLen f)=64 from by omega] at this
  exact this
 ·have h2:=Nat.mul_le_mul_right (2 ^ (64 - Lib.bitLen f)) (show f+1≤2 ^ Lib.bitLen f from c)
  rw [← Nat.pow_add,show Lib.bitLen f+(64 - Lib.bitLen f)=64 from by omega,Nat.add_mul,Nat.one_mul] at h2
  have h3:2 ^ (64 - Lib.bitLen f)=2*2 ^ (64 - Lib.bitLen f - 1):=by rw [← Nat.pow_succ',show (64 - Lib.bitLen f - 1).succ=64 - Lib.bitLen f from by omega]
  have h4:0 < 2 ^ (64 - Lib.bitLen f - 1):=Nat.pow_pos (by decide)
  have h5:(2:Nat) ^ 64=18446744073709551616:=by decide
  omega
theorem ftoaE_all (x:Nat) (hx:x < 18446744073709551616) (h0:x % 9223372036854775808≠0) (h1:x % 9223372036854775808 < 9218868437227405312) (B:Nat) (W0 w:World) (v:Value) (hbuf:Buf B none W0 v [] w) (hGl:Glob w) :
  Calls Tryz.prog 175 #[v,.float .f64 x,.int .u8 101,.int .i64 (-1)] w fun r w'=>∃ v' o,r=.returned v'∧Buf B o W0 v' (eTxt (decide (9223372036854775808≤x)) (sd x).1 (trimLen (sd x).1) ((Lib.nDigits (sd x).1:Int)+(sd x).2)) w':=by
 have n1:=neg_bit x hx
 have n2:=ex_field x hx
 have n3:=fr_field x hx
 by_cases hs:x % 9223372036854775808 < 4503599627370496
 ·have hE0:x / 4503599627370496 % 2048=0:=by omega
  rw [hE0] at n2
  obtain ⟨z,z1,z2,z3,z4,z5,z6,z7,z8⟩:=sub_bits (x % 4503599627370496) (by omega) (by omega)
  have hsd:sd x=shortF (x % 4503599627370496*2 ^ z) (-1074 - (z:Int)):=by unfold sd;rw [if_pos hs,z1]
  rw [hsd]
  have hb:=short_between (x % 4503599627370496*2 ^ z) (-1074 - (z:Int)) z5 z6 (by omega) (fun _=>by rw [show (-1075 - (-1074 - (z:Int))).toNat=z - 1 from by omega];exact z8) (by omega) (by omega)
  generalize hr:shortF (x % 4503599627370496*2 ^ z) (-1074 - (z:Int))=R at *
  obtain ⟨u,p⟩:=R
  obtain ⟨b1,b2,b3,b4⟩:=hb
  simp only at b1 b2 b3 b4 ⊢
  have hn:=Lib.nDigits_le20 u (by omega)
  refine ftoaE_sub _ x (x % 4503599627370496) (x % 4503599627370496*2 ^ z) u z (-1074 - (z:Int)) p B W0 w v _ hbuf hGl n1 n2 n3 (by omega) (by omega) hx z2 z3 z4 (by rw [Int.natCast_mul,Int.natCast_pow];rfl) z5 z6 z7 rfl hr b1 (by omega) (by omega) (by omega) ?_
  intro g k W ht hb'
  exact fmtE_any _ B g u k _ W0 W v b1 (by omega) (by omega) (by omega) ht hb'
 ·have hsd:sd x=shortF ((4503599627370496+x % 4503599627370496)*2048) ((x / 4503599627370496 % 2048:Nat) - 1086):=by unfold sd;rw [if_neg hs]
  rw [hsd]
  have hb:=short_between ((4503599627370496+x % 4503599627370496)*2048) ((x / 4503599627370496 % 2048:Nat) - 1086) (by omega) (by omega) (by omega) (by omega) (by omega) (by omega)
  generalize hr:shortF ((4503599627370496+x % 4503599627370496)*2048) (((x / 4503599627370496 % 2048:Nat):Int) - 1086)=R at *
  obtain ⟨u,p⟩:=R
  obtain ⟨b1,b2,b3,b4⟩:=hb
  simp only at b1 b2 b3 b4 ⊢
  have hn:=Lib.nDigits_le20 u (by omega)
  refine ftoaE_w _ x (x / 4503599627370496 % 2048) (x % 4503599627370496) (4503599627370496+x % 4503599627370496) ((4503599627370496+x % 4503599627370496)*2048) u _ p B W0 w v _ hbuf hGl n1 n2 n3 (by omega) (by omega) hx (hid_bit _ (by omega)) (by omega) (by omega) (len53 _ (by omega) (by omega)) (by omega) rfl hr b1 (by omega) (by omega) (by omega) ?_
  intro g k W ht hb'
  exact fmtE_any _ B g u k _ W0 W v b1 (by omega) (by omega) (by omega) ht hb'
theorem ftoaF_all (x:Nat) (hx:x < 18446744073709551616) (h0:4503599627370496≤x % 9223372036854775808) (h1:x % 9223372036854775808 < 9218868437227405312) (B:Nat) (W0 w:World) (v:Value) (hbuf:Buf B none W0 v [] w) (hGl:Glob w) :
  Calls Tryz.prog 175 #[v,.float .f64 x,.int .u8 102,.int .i64 (-1)] w fun r w'=>∃ v' o,r=.returned v'∧Buf B o W0 v' (fTxt (decide (9223372036854775808≤x)) (sd x).1 (trimLen (sd x).1) ((Lib.nDigits (sd x).1:Int)+(sd x).2)) w':=by
 have n1:=neg_bit x hx
 have n2:=ex_field x hx
 have n3:=fr_field x hx
 have hsd:sd x=shortF ((4503599627370496+x % 4503599627370496)*2048) ((x / 4503599627370496 % 2048:Nat) - 1086):=by unfold sd;rw [if_neg (by omega)]
 rw [hsd]
 have hb:=short_between ((4503599627370496+x % 4503599627370496)*2048) ((x / 4503599627370496 % 2048:Nat) - 1086) (by omega) (by omega) (by omega) (by omega) (by omega) (by omega)
 generalize hr:shortF ((4503599627370496+x % 4503599627370496)*2048) (((x / 4503599627370496 % 2048:Nat):Int) - 1086)=R at *
 obtain ⟨u,p⟩:=R
 obtain ⟨b1,b2,b3,b4⟩:=hb
 simp only at b1 b2 b3 b4 ⊢
 have hn:=Lib.nDigits_le20 u (by omega)
 refine ftoaF_w _ x (x / 4503599627370496 % 2048) (x % 4503599627370496) (4503599627370496+x % 4503599627370496) ((4503599627370496+x % 4503599627370496)*2048) u _ p B W0 w v _ hbuf hGl n1 n2 n3 (by omega) (by omega) hx (hid_bit _ (by omega)) (by omega) (by omega) (len53 _ (by omega) (by omega)) (by omega) rfl hr b1 (by omega) (by omega) (by omega) ?_
 intro g k W ht hb'
 exact fmtF_any _ B g u k _ W0 W v b1 (by omega) (by omega) (by omega) ht hb'
end Go.Proofs.YtlgkfeeclgcgbaaGreatDoor.Rl
/- ftoa64 AT INFINITIES AND NaN. Own work of the verifier. -/
set_option maxRecDepth 100000
set_option maxHeartbeats 1000000
namespace Go.Proofs.YtlgkfeeclgcgbaaGreatDoor.Rl
open Go.RowKit Go.Sort
theorem ftoaF_special (neg nan:Bool) (x f:Nat) (B:Nat) (W0 w:World) (v:Value) (hbuf:Buf B none W0 v [] w)
  (hneg:((x:Int) / 9223372036854775808 != 0)=neg) (hE:bits .and .i64 ((x:Int) / 4503599627370496) 2047=2047) (hf:bits .and .u64 (x:Int) 4503599627370495=(f:Int)) (hn:((f:Int) != 0)=nan) (hx:x < 18446744073709551616) :
  Calls Tryz.prog 175 #[v,.float .f64 x,.int .u8 102,.int .i64 (-1)] w fun r w'=>∃ v' o,r=.returned v'∧Buf B o W0 v' (if nan then [78,97,78] else if neg then [45,73,110,102] else [43,73,110,102]) w':=by
 obtain ⟨i0,hi,hz0,hz1,hz2⟩:=info_parts infoByte
 obtain ⟨T,HT⟩:∃ T:List Int,Hid ((if nan then [78,97,78] else if neg then [45,73,110,102] else [43,73,110,102])=T):=⟨_,rfl⟩
 rw [HT.out]
 cases nan
 ·cases neg
  all_goals
   go_enter Tryz.func175,Tryz.ntmps175
   go_wp2_with (first
    | simp only [f64bits]
    | fail)
   go_quiet (fail)
   have hbuf:=hbuf.step (Below.drewN' (Below.refl _ _) nq)
   go_wp2_with (first
    | (at_builtin;refine Lib.wpList_append_own_string _ rfl _ _ 146 9 rfl B 5 i0 Tryz.underlying146 Tryz.underlying9 hi hz0 hz1 hz2 _ _ _ rfl hbuf.own _ rfl (by decide) (by decide) hbuf.size ?_;intro v w hown hgrow hnil)
    | fail)
   go_ret
   refine ⟨_,none,rfl,?_⟩
   rw [← HT.out]
   exact hbuf.grow (World.grownBy.refl _ _) 4 rfl hown hgrow hnil (by decide)
 ·go_enter Tryz.func175,Tryz.ntmps175
  go_wp2_with (first
   | simp only [f64bits]
   | fail)
  go_quiet (fail)
  have hbuf:=hbuf.step (Below.drewN' (Below.refl _ _) nq)
  go_wp2_with (first
   | (at_builtin;refine Lib.wpList_append_own_string _ rfl _ _ 146 9 rfl B 5 i0 Tryz.underlying146 Tryz.underlying9 hi hz0 hz1 hz2 _ _ _ rfl hbuf.own _ rfl (by decide) (by decide) hbuf.size ?_;intro v w hown hgrow hnil)
   | fail)
  go_ret
  refine ⟨_,none,rfl,?_⟩
  rw [← HT.out]
  exact hbuf.grow (World.grownBy.refl _ _) 3 rfl hown hgrow hnil (by decide)
end Go.Proofs.YtlgkfeeclgcgbaaGreatDoor.Rl
/- FormatFloat. Own work of the verifier. -/
set_option maxRecDepth 100000
set_option maxHeartbeats 1000000
namespace Go.Proofs.YtlgkfeeclgcgbaaGreatDoor.Rl
open Go.RowKit Go.Sort
def asI (bs:List UInt8):List Int:=bs.map fun b=>(b.toNat:Int)
theorem Buf.text {B:Nat} {o:Option (Nat × Nat)} {W0 w:World} {v:Value} {bs:List UInt8} (h:Buf B o W0 v (asI bs) w):∃ g cap,v=.slice (some ⟨g,0,none⟩) bs.length cap ∧
  (convert 146 9 (.slice (some ⟨g,0,none⟩) bs.length cap)).run Tryz.prog w=.ok (.string ⟨bs.toArray⟩) w:=by
 obtain ⟨g,cap,cur,hv,hB,hcur⟩:=own_of h.own h.nz
 have hl:(asI bs).length=bs.length:=by simp [asI]
 rw [hl] at hv
 refine ⟨g,cap,hv,?_⟩
 have hown:=h.own
 rw [hl,hv] at hown
 exact run_convert_bytes_back w 146 9 5 ⟨g,0,none⟩ cap bs Tryz.underlying146 Tryz.underlying5 Tryz.underlying9 (fun i hi'=>by
  exact hown.cells (g:=g) rfl i _ (by simp [asI,hi']))
theorem format_of (x:Nat) (fmt:Int) (bs:List UInt8) (w:World) (hGl:Glob w)
  (HF:Hid (∀ (v:Value) (W:World),Buf w.heap.size none w v [] W→Glob W→Calls Tryz.prog 175 #[v,.float .f64 x,.int .u8 fmt,.int .i64 (-1)] W fun r w'=>∃ v' o,r=.returned v'∧Buf w.heap.size o w v' (asI bs) w')) :
  Calls Tryz.prog 162 #[.float .f64 x,.int .u8 fmt,.int .i64 (-1),.int .i64 64] w fun r w'=>r=.returned (.string ⟨bs.toArray⟩)∧Below w.heap.size w w':=by
 obtain ⟨i0,hi,hz0,hz1,hz2⟩:=info_parts infoByte
 go_enter Tryz.func162,Tryz.ntmps162
 go_wp2_with (first
  | (at_make;refine wpList_make_own _ rfl _ _ 146 rfl w.heap.size 5 i0 (.int .u8 0) 1 Tryz.underlying146 hi hz0 hz1 _ _ _ 24 rfl rfl (by decide) (by rw [hz2];decide) (by unfold maxLen;decide) (Nat.le_refl _) ?_;intro w1 hown hgrow)
  | fail)
 have hb1:Below w.heap.size w w1:=(Below.refl _ _).grown hgrow (Nat.le_refl _) (fun k e=>by cases e)
 have hbuf:Buf w.heap.size none w (.slice (some ⟨w.heap.size,0,none⟩) 0 24) [] w1:=⟨hown,by simp,hb1,hb1.size,by decide,fun g u e=>by cases e⟩
 refine (HF.out _ w1 hbuf (hGl.below hb1)).mono ?_
 rintro r w2 ⟨v',o,rfl,hb2⟩
 obtain ⟨g,cap,rfl,hcv⟩:=hb2.text
 go_wp2
 go_ret
 exact ⟨rfl,hb2.below⟩
theorem Format_of (x:Nat) (fmt:Int) (bs:List UInt8) (w:World) (hGl:Glob w)
  (HF:Hid (∀ (v:Value) (W:World),Buf w.heap.size none w v [] W→Glob W→Calls Tryz.prog 175 #[v,.float .f64 x,.int .u8 fmt,.int .i64 (-1)] W fun r w'=>∃ v' o,r=.returned v'∧Buf w.heap.size o w v' (asI bs) w')) :
  Calls Tryz.prog 148 #[.float .f64 x,.int .u8 fmt,.int .i64 (-1),.int .i64 64] w fun r w'=>r=.returned (.string ⟨bs.toArray⟩)∧Below w.heap.size w w':=by
 go_enter Tryz.func148,Tryz.ntmps148
 go_wp2_with fail
 refine (format_of x fmt bs w hGl HF).mono ?_
 rintro r w2 ⟨rfl,hb2⟩
 go_wp2
 go_ret
 exact ⟨rfl,hb2⟩
end Go.Proofs.YtlgkfeeclgcgbaaGreatDoor.Rl
/- FormatFloat AT EVERY FLOAT. Own work of the verifier. -/
namespace Go.Proofs.YtlgkfeeclgcgbaaGreatDoor.Rl
open Go.RowKit Go.Sort
def sgn (neg:Bool):List UInt8:=if neg then [45] else []
def fB (neg:Bool) (u k:Nat) (dp:Int):List UInt8 :=
 if dp≤0 then sgn neg++[48,46]++List.replicate (-dp).toNat 48++(Lib.decDigits u).take k
 else if (k:Int)≤dp then sgn neg++(Lib.decDigits u).take k++List.replicate (dp.toNat - k) 48
 else sgn neg++(Lib.decDigits u).take dp.toNat++[46]++((Lib.decDigits u).take k).drop dp.toNat
theorem fB_txt (neg:Bool) (u k:Nat) (dp:Int):asI (fB neg u k dp)=fTxt neg u k dp:=by
 unfold fB fTxt sgn asI dI behind
 by_cases h:dp≤0
 ·rw [if_pos h,if_pos h];cases neg <;> simp [List.map_take]
 ·rw [if_neg h,if_neg h]
  by_cases h':(k:Int)≤dp
  ·rw [if_pos h',if_pos h'];cases neg <;> simp [List.map_take]
  ·rw [if_neg h',if_neg h'];cases neg <;> simp [List.map_take,List.map_drop,dI]
def xDig (E:Nat):List UInt8:=if E < 10 then [48,UInt8.ofNat (E+48)] else if E < 100 then [UInt8.ofNat (E / 10+48),UInt8.ofNat (E % 10+48)] else [UInt8.ofNat (E / 100+48),UInt8.ofNat (E / 10 % 10+48),UInt8.ofNat (E % 10+48)]
def xTail (dp:Int):List UInt8:=if dp - 1 < 0 then 45::xDig (1 - dp).toNat else 43::xDig (dp - 1).toNat
def eHead (neg:Bool) (u k:Nat):List UInt8:=if k=1 then sgn neg++[(Lib.decDigits u).getD 0 0] else sgn neg++[(Lib.decDigits u).getD 0 0,46]++((Lib.decDigits u).take k).drop 1
def eB (neg:Bool) (u k:Nat) (dp:Int):List UInt8:=eHead neg u k++101::xTail dp
theorem xDig_I:∀ E < 400,asI (xDig E)=eDig E:=by decide +kernel
theorem xTail_I (dp:Int) (h0:-390≤dp) (h1:dp≤390):asI (101::xTail dp)=eTail dp:=by
 unfold xTail eTail
 by_cases h:dp - 1 < 0
 ·rw [if_pos h,if_pos h,← xDig_I _ (by omega)];rfl
 ·rw [if_neg h,if_neg h,← xDig_I _ (by omega)];rfl
theorem first_I (u:Nat):(dI u).getD 0 0=(((Lib.decDigits u).getD 0 0).toNat:Int):=by
 unfold dI
 cases Lib.decDigits u <;> rfl
theorem eB_txt (neg:Bool) (u k:Nat) (dp:Int) (h0:-390≤dp) (h1:dp≤390):asI (eB neg u k dp)=eTxt neg u k dp:=by
 unfold eB eTxt
 rw [← xTail_I dp h0 h1,first_I]
 unfold eHead asI sgn mid dI
 by_cases h:k=1
 ·rw [if_pos h,if_pos h];cases neg <;> simp
 ·rw [if_neg h,if_neg h];cases neg <;> simp [List.map_take]
def pt (x:Nat):Int:=(Lib.nDigits (sd x).1:Int)+(sd x).2
theorem sd_bounds (x:Nat) (h0:x % 9223372036854775808≠0) (h1:x % 9223372036854775808 < 9218868437227405312):1≤(sd x).1∧(sd x).1 < 288230376151711744∧-350≤(sd x).2∧(sd x).2≤350:=by
 by_cases hs:x % 9223372036854775808 < 4503599627370496
 ·obtain ⟨z,z1,z2,z3,z4,z5,z6,z7,z8⟩:=sub_bits (x % 4503599627370496) (by omega) (by omega)
  have hsd:sd x=shortF (x % 4503599627370496*2 ^ z) (-1074 - (z:Int)):=by unfold sd;rw [if_pos hs,z1]
  rw [hsd]
  exact short_between (x % 4503599627370496*2 ^ z) (-1074 - (z:Int)) z5 z6 (by omega) (fun _=>by rw [show (-1075 - (-1074 - (z:Int))).toNat=z - 1 from by omega];exact z8) (by omega) (by omega)
 ·have hsd:sd x=shortF ((4503599627370496+x % 4503599627370496)*2048) ((x / 4503599627370496 % 2048:Nat) - 1086):=by unfold sd;rw [if_neg hs]
  rw [hsd]
  exact short_between ((4503599627370496+x % 4503599627370496)*2048) ((x / 4503599627370496 % 2048:Nat) - 1086) (by omega) (by omega) (by omega) (by omega) (by omega) (by omega)
theorem pt_bounds (x:Nat) (h0:x % 9223372036854775808≠0) (h1:x % 9223372036854775808 < 9218868437227405312):-390≤pt x∧pt x≤390:=by
 obtain ⟨a,b,c,d⟩:=sd_bounds x h0 h1
 have:=Lib.nDigits_le20 (sd x).1 (by omega)
 unfold pt
 omega
noncomputable def eText (x:Nat):List UInt8:=eB (decide (9223372036854775808≤x)) (sd x).1 (trimLen (sd x).1) (pt x)
noncomputable def fText (x:Nat):List UInt8 :=
 if x % 9223372036854775808=0 then (if 9223372036854775808≤x then [45,48] else [48])
 else if 9218868437227405312 < x % 9223372036854775808 then [78,97,78]
 else if x % 9223372036854775808=9218868437227405312 then (if 9223372036854775808≤x then [45,73,110,102] else [43,73,110,102])
 else fB (decide (9223372036854775808≤x)) (sd x).1 (trimLen (sd x).1) (pt x)
theorem Format_e (x:Nat) (hx:x < 18446744073709551616) (h0:x % 9223372036854775808≠0) (h1:x % 9223372036854775808 < 9218868437227405312) (w:World) (hGl:Glob w) :
  Calls Tryz.prog 148 #[.float .f64 x,.int .u8 101,.int .i64 (-1),.int .i64 64] w fun r w'=>r=.returned (.string ⟨(eText x).toArray⟩)∧Below w.heap.size w w':=by
 refine Format_of x 101 (eText x) w hGl (fun v W hbuf hG=>?_)
 obtain ⟨p0,p1⟩:=pt_bounds x h0 h1
 unfold eText
 rw [eB_txt _ _ _ _ p0 p1]
 exact ftoaE_all x hx h0 h1 _ _ _ v hbuf hG
theorem Format_f (x:Nat) (hx:x < 18446744073709551616) (h0:x % 9223372036854775808=0∨4503599627370496≤x % 9223372036854775808) (w:World) (hGl:Glob w) :
  Calls Tryz.prog 148 #[.float .f64 x,.int .u8 102,.int .i64 (-1),.int .i64 64] w fun r w'=>r=.returned (.string ⟨(fText x).toArray⟩)∧Below w.heap.size w w':=by
 refine Format_of x 102 (fText x) w hGl (fun v W hbuf hG=>?_)
 have n1:=neg_bit x hx
 have n2:=ex_field x hx
 have n3:=fr_field x hx
 by_cases c0:x % 9223372036854775808=0
 ·have:=ftoaF_zero _ x _ _ _ v hbuf n1 (by rw [n2];omega) (by rw [n3];omega) hx
  rw [show asI (fText x)=(if decide (9223372036854775808≤x) then [45,48] else [48]) from by unfold fText;rw [if_pos c0];by_cases hn:9223372036854775808≤x <;> simp [hn,asI]]
  exact this
 ·by_cases c1:x % 9223372036854775808 < 9218868437227405312
  ·rw [show fText x=fB (decide (9223372036854775808≤x)) (sd x).1 (trimLen (sd x).1) (pt x) from by unfold fText;rw [if_neg c0,if_neg (by omega),if_neg (by omega)],fB_txt]
   exact ftoaF_all x hx (by omega) c1 _ _ _ v hbuf hG
  ·have:=ftoaF_special _ (decide (9218868437227405312 < x % 9223372036854775808)) x (x % 4503599627370496) _ _ _ v hbuf n1 (by rw [n2];omega) n3 (by
    by_cases hn:9218868437227405312 < x % 9223372036854775808
    ·rw [decide_eq_true hn,bne_iff_ne];omega
    ·rw [decide_eq_false hn,bne_eq_false_iff_eq];omega) hx
   refine this.mono ?_
   rintro r w' ⟨v',o,e,hb⟩
   refine ⟨v',o,e,?_⟩
   have he:asI (fText x)=(if decide (9218868437227405312 < x % 9223372036854775808) then [78,97,78] else if decide (9223372036854775808≤x) then [45,73,110,102] else [43,73,110,102]):=by
    unfold fText
    rw [if_neg c0]
    by_cases hn:9218868437227405312 < x % 9223372036854775808
    ·simp [hn,asI]
    ·rw [if_neg hn,if_pos (by omega)]
     by_cases hm:9223372036854775808≤x <;> simp [hn,hm,asI]
   rw [he]
   exact hb
end Go.Proofs.YtlgkfeeclgcgbaaGreatDoor.Rl
/- THE ORDER OF FLOATS, the code's: comparisons, signs. Own work of the verifier. -/
namespace Go.Proofs.YtlgkfeeclgcgbaaGreatDoor.Rl
open Go.RowKit
def isN (x:Nat):Bool:=decide (9218868437227405312 < x % 9223372036854775808)
def ov (x:Nat):Int:=if x < 9223372036854775808 then (x:Int) else 9223372036854775808 - (x:Int)
theorem ov_sw (s:Bool) (a:Nat) (h:a < 9223372036854775808):ov (sw s a)=sr s a:=by
 unfold ov sw sr;cases s <;> simp <;> omega
theorem isN_sw (s:Bool) (a:Nat) (h:a < 9223372036854775808):isN (sw s a)=decide (9218868437227405312 < a):=by
 unfold isN sw;congr 2;cases s <;> simp <;> omega
theorem ord_nan {x:Nat} (hx:x < 18446744073709551616) (h:isN x=true) (y:Nat):FloatKind.f64.format.order x y=none∧FloatKind.f64.format.order y x=none:=by
 obtain ⟨s,a,rfl,ha⟩:=sw_of x hx
 rw [isN_sw s a ha] at h
 have h:=of_decide_eq_true h
 exact ⟨order_nan1 s a y h ha,order_nan2 s a y h ha⟩
theorem ord_num {x y:Nat} (hx:x < 18446744073709551616) (hy:y < 18446744073709551616) (h:isN x=false) (k:isN y=false):FloatKind.f64.format.order x y=some (compare (ov x) (ov y)):=by
 obtain ⟨s,a,rfl,ha⟩:=sw_of x hx
 obtain ⟨t,b,rfl,hb⟩:=sw_of y hy
 rw [isN_sw s a ha] at h
 rw [isN_sw t b hb] at k
 have h:=of_decide_eq_false h
 have k:=of_decide_eq_false k
 rw [ov_sw s a ha,ov_sw t b hb]
 exact order_all s t a b (by omega) (by omega)
end Go.Proofs.YtlgkfeeclgcgbaaGreatDoor.Rl
/- Print AT THREE FLOATS. Own work of the verifier. -/
set_option maxHeartbeats 1000000
namespace Go.Proofs.YtlgkfeeclgcgbaaGreatDoor.Rl
open Go.RowKit Go.Sort
theorem mf64bits (x:Nat) (w:World):(callFunc 140 #[.float .f64 x]).run Tryz.prog w=.ok (.value (.int .u64 (x:Int))) w:=by
 rw [run_callFunc_extern Tryz.func140 (by kernel_rfl) (by kernel_rfl) (by kernel_rfl) (e:=Extern.MathFloatBits.float64bits) (by kernel_rfl)]
 rfl
theorem mf64from (x:Int) (w:World):(callFunc 139 #[.int .u64 x]).run Tryz.prog w=.ok (.value (.float .f64 x.toNat)) w:=by
 rw [run_callFunc_extern Tryz.func139 (by kernel_rfl) (by kernel_rfl) (by kernel_rfl) (e:=Extern.MathFloatBits.float64frombits) (by kernel_rfl)]
 rfl
theorem clear_sign (x:Nat) (h:x < 18446744073709551616):bits .andNot .u64 (x:Int) 9223372036854775808=((x % 9223372036854775808:Nat):Int):=by
 have:=u64_andNot_nat x 9223372036854775808 (by omega) (by decide)
 rw [show ((9223372036854775808:Nat):Int)=9223372036854775808 from rfl] at this
 rw [this,show 18446744073709551615 - 9223372036854775808=2 ^ 63 - 1 from by decide,Nat.and_two_pow_sub_one_eq_mod]
theorem abs_any (x:Nat) (h:x < 18446744073709551616) (w:World):Calls Tryz.prog 118 #[.float .f64 x] w fun e w'=>e=.returned (.float .f64 (x % 9223372036854775808))∧w'=w:=by
 have hc:=clear_sign x h
 generalize x % 9223372036854775808=y at *
 go_enter Tryz.func118,Tryz.ntmps118
 go_wp2_with (first | simp only [mf64bits] | simp only [mf64from])
 go_ret
 exact ⟨rfl,rfl⟩
theorem hasExp_w (x:Nat) (b1 b2 b3 b4:Bool) (o1:(FloatKind.f64.format.order 0 x == some .lt)=b1) (o2:(FloatKind.f64.format.order x 4517329193108106637 == some .lt)=b2)
  (o3:(FloatKind.f64.format.order 4921056587992461136 x == some .lt || FloatKind.f64.format.order 4921056587992461136 x == some .eq)=b3) (o4:(FloatKind.f64.format.order x 9218868437227405311 == some .lt || FloatKind.f64.format.order x 9218868437227405311 == some .eq)=b4) (w:World) :
  Calls Tryz.prog 146 #[.float .f64 x] w fun e w'=>e=.returned (.bool (b1 && b2 || b3 && b4))∧w'=w:=by
 cases b1 <;> cases b2 <;> cases b3 <;> cases b4
 all_goals
  go_enter Tryz.func146,Tryz.ntmps146
  go_wp2
  go_ret
  exact ⟨rfl,rfl⟩
end Go.Proofs.YtlgkfeeclgcgbaaGreatDoor.Rl
/- Print AT EVERY FLOAT. Own work of the verifier. -/
set_option maxHeartbeats 1000000
namespace Go.Proofs.YtlgkfeeclgcgbaaGreatDoor.Rl
open Go.RowKit Go.Sort
theorem grow_below (w:World) (k:Nat) (os:Array Obj):Below w.heap.size w (grow (w.drewN k) os) :=
 ⟨rfl,rfl,rfl,by show w.heap.size≤(w.heap++os).size;rw [Array.size_append];omega,fun j hj=>by show (w.heap++os)[j]? =w.heap[j]?;rw [Array.getElem?_append_left hj]⟩
theorem opt_lt (a b:Int):(some (compare a b) == some Ordering.lt)=decide (a < b):=by
 rcases Int.lt_trichotomy a b with h | h | h
 ·rw [Int.compare_eq_lt.2 h,decide_eq_true h];decide
 ·rw [Int.compare_eq_eq.2 h,decide_eq_false (by omega)];decide
 ·rw [Int.compare_eq_gt.2 h,decide_eq_false (by omega)];decide
theorem opt_le (a b:Int):(some (compare a b) == some Ordering.lt || some (compare a b) == some Ordering.eq)=decide (a≤b):=by
 rcases Int.lt_trichotomy a b with h | h | h
 ·rw [Int.compare_eq_lt.2 h,decide_eq_true (by omega)];decide
 ·rw [Int.compare_eq_eq.2 h,decide_eq_true (by omega)];decide
 ·rw [Int.compare_eq_gt.2 h,decide_eq_false (by omega)];decide
def hasE (y:Nat):Bool:=decide (0 < y∧y < 4517329193108106637∨4921056587992461136≤y∧y≤9218868437227405311)
theorem hasExp_all (y:Nat) (hy:y < 9223372036854775808) (w:World) :
  Calls Tryz.prog 146 #[.float .f64 y] w fun e w'=>e=.returned (.bool (hasE y))∧w'=w:=by
 cases hn:isN y
 ·have hn':y≤9218868437227405312:=by have:=of_decide_eq_false hn;omega
  have ov1:ov y=(y:Int):=if_pos hy
  have h:=hasExp_w y _ _ _ _ (by rw [ord_num (by decide) (by omega) (by decide) hn,opt_lt]) (by rw [ord_num (by omega) (by decide) hn (by decide),opt_lt]) (by rw [ord_num (by decide) (by omega) (by decide) hn,opt_le]) (by rw [ord_num (by omega) (by decide) hn (by decide),opt_le]) w
  rw [ov1,show ov 0=0 from by decide,show ov 4517329193108106637=4517329193108106637 from by decide,show ov 4921056587992461136=4921056587992461136 from by decide,show ov 9218868437227405311=9218868437227405311 from by decide] at h
  rw [show hasE y=(decide ((0:Int) < (y:Int)) && decide ((y:Int) < 4517329193108106637) || decide ((4921056587992461136:Int)≤(y:Int)) && decide ((y:Int)≤9218868437227405311)) from by
   unfold hasE
   rw [← Bool.decide_and,← Bool.decide_and,← Bool.decide_or]
   exact decide_eq_decide.2 (by omega)]
  exact h
 ·have hn':9218868437227405312 < y:=by have:=of_decide_eq_true hn;omega
  have h:=hasExp_w y false false false false (by rw [(ord_nan (by omega) hn _).2];decide) (by rw [(ord_nan (by omega) hn _).1];decide) (by rw [(ord_nan (by omega) hn _).2];decide) (by rw [(ord_nan (by omega) hn _).1];decide) w
  rw [show hasE y=(false && false || false && false) from by unfold hasE;exact decide_eq_false (by omega)]
  exact h
structure Glob2 (w:World):Prop where
 glob:Glob w
 most:∃ m,w.cell? ⟨2,0,none⟩=some (.int .i64 m)
theorem Glob2.below {w w':World} (h:Glob2 w) (hb:Below w.heap.size w w'):Glob2 w':=by
 obtain ⟨m,hm⟩:=h.most
 exact ⟨h.glob.below hb,m,by rw [(bcell hb).1 _ _ (lt_of_cell hm),hm]⟩
theorem byte_at (a b:List UInt8) (c:UInt8) (h:c ∉ a):Lib.indexByte (a++c::b) c=(a.length:Int):=by
 induction a with
 | nil=>simp [Lib.indexByte]
 | cons y a ih =>
  have h1:c ∉ a:=fun k=>h (List.mem_cons_of_mem _ k)
  have h2:¬ (y == c)=true:=fun k=>h (by rw [eq_of_beq k];exact List.mem_cons_self)
  rw [List.cons_append,Lib.indexByte,if_neg h2,ih h1,if_neg (by rw [beq_iff_eq];omega),List.length_cons]
  omega
theorem cut_at (a b:List UInt8) (h:(101:UInt8) ∉ a):Lib.cut (a++101::b) [101]=(a,b,true):=by
 unfold Lib.cut
 rw [Lib.index_one,byte_at a b 101 h,if_pos (by omega),Int.toNat_natCast]
 simp
theorem dec_mem (u:Nat):∀ b ∈ Lib.decDigits u,48≤b.toNat∧b.toNat≤57:=by
 intro b hb
 rw [Lib.decDigits_eq] at hb
 obtain ⟨t,-,rfl⟩:=List.mem_map.1 hb
 unfold Lib.dg
 have:∀ r < 10,48≤(UInt8.ofNat (48+r)).toNat∧(UInt8.ofNat (48+r)).toNat≤57:=by decide
 exact this _ (Nat.mod_lt _ (by decide))
theorem not_101 {l:List UInt8} (h:∀ b ∈ l,b.toNat≤57):(101:UInt8) ∉ l:=fun k=>by have:=h _ k;exact absurd this (by decide)
theorem head_mem (neg:Bool) (u k:Nat):∀ b ∈ eHead neg u k,b.toNat≤57:=by
 have hg:((Lib.decDigits u).getD 0 0).toNat≤57:=by
  have:=dec_mem u
  revert this
  cases Lib.decDigits u with
  | nil=>intro _;decide
  | cons y l=>intro h;exact (h y List.mem_cons_self).2
 have hd:∀ b ∈ ((Lib.decDigits u).take k).drop 1,b.toNat≤57:=fun b hb=>(dec_mem u b (List.mem_of_mem_take (List.mem_of_mem_drop hb))).2
 have hs:∀ b ∈ sgn neg,b.toNat≤57:=by cases neg <;> decide
 intro b hb
 unfold eHead at hb
 by_cases h:k=1
 ·rw [if_pos h] at hb
  rcases List.mem_append.1 hb with q | q
  ·exact hs b q
  ·rw [List.mem_singleton.1 q];exact hg
 ·rw [if_neg h] at hb
  rcases List.mem_append.1 hb with q | q
  ·rcases List.mem_append.1 q with q | q
   ·exact hs b q
   ·rcases List.mem_cons.1 q with q | q
    ·rw [q];exact hg
    ·rw [List.mem_singleton.1 q];decide
  ·exact hd b q
theorem atoi_pos:∀ E < 400,Lib.atoi (43::xDig E)=some (E:Int):=by decide +kernel
theorem atoi_neg:∀ E < 400,Lib.atoi (45::xDig E)=some (-(E:Int)):=by decide +kernel
theorem xDig_len:∀ E < 400,(xDig E).length≤3:=by decide +kernel
theorem atoi_x (dp:Int) (h0:-390≤dp) (h1:dp≤390):Lib.atoi (xTail dp)=some (dp - 1)∧(xTail dp).length≤4:=by
 unfold xTail
 by_cases h:dp - 1 < 0
 ·rw [if_pos h,atoi_neg _ (by omega)]
  refine ⟨congrArg some (by omega),?_⟩
  have:=xDig_len (1 - dp).toNat (by omega)
  rw [List.length_cons];omega
 ·rw [if_neg h,atoi_pos _ (by omega)]
  refine ⟨congrArg some (by omega),?_⟩
  have:=xDig_len (dp - 1).toNat (by omega)
  rw [List.length_cons];omega
theorem bcat (a b:List UInt8):(⟨a.toArray⟩:ByteArray)++⟨b.toArray⟩=⟨(a++b).toArray⟩:=by
 apply ByteArray.ext;simp
noncomputable def xText (x:Nat):List UInt8:=eHead (decide (9223372036854775808≤x)) (sd x).1 (trimLen (sd x).1)++101::Lib.itoa (pt x - 1)
theorem withExp_all (x:Nat) (hx:x < 18446744073709551616) (h0:x % 9223372036854775808≠0) (h1:x % 9223372036854775808 < 9218868437227405312) (w:World) (hGl:Glob2 w) :
  Calls Tryz.prog 147 #[.float .f64 x] w fun r w'=>r=.returned (.string ⟨(xText x).toArray⟩)∧Below w.heap.size w w':=by
 obtain ⟨p0,p1⟩:=pt_bounds x h0 h1
 obtain ⟨a1,a2⟩:=atoi_x (pt x) p0 p1
 have HF:Hid (∀ w,Glob w→Calls Tryz.prog 148 #[.float .f64 x,.int .u8 101,.int .i64 (-1),.int .i64 64] w fun r w'=>r=.returned (.string ⟨(eText x).toArray⟩)∧Below w.heap.size w w'):=fun w hG=>Format_e x hx h0 h1 w hG
 have hd:=head_mem (decide (9223372036854775808≤x)) (sd x).1 (trimLen (sd x).1)
 have hH:(eHead (decide (9223372036854775808≤x)) (sd x).1 (trimLen (sd x).1)).length≤30:=by
  have h3:(Lib.decDigits (sd x).1).length≤20:=by rw [Lib.decDigits_length];exact Lib.nDigits_le20 _ (by have:=sd_bounds x h0 h1;omega)
  unfold eHead sgn
  split <;> split <;> simp only [List.length_append,List.length_cons,List.length_nil,List.length_drop,List.length_take] <;> omega
 have hY:(Lib.itoa (pt x - 1)).length≤30:=by
  have:=Lib.itoa_length_le (pt x - 1) (by omega) (by omega)
  omega
 have hl:(eText x).length < 4294967281:=by
  unfold eText eB
  rw [List.length_append,List.length_cons]
  omega
 have he:eText x=eHead (decide (9223372036854775808≤x)) (sd x).1 (trimLen (sd x).1)++101::xTail (pt x):=rfl
 unfold xText
 generalize eText x=T at *
 generalize eHead (decide (9223372036854775808≤x)) (sd x).1 (trimLen (sd x).1)=H at *
 generalize hp:pt x=p at *
 generalize hX:xTail p=X at *
 have hcut:=cut_at H X (not_101 hd)
 rw [← he] at hcut
 clear he hd h0 h1 hx hX hp
 have HC:Hid (∀ W,Glob2 W→Calls Tryz.prog 159 #[.string ⟨T.toArray⟩,.string ⟨#[101]⟩] W fun e w'=>e=.returned (.tuple #[.string ⟨H.toArray⟩,.string ⟨X.toArray⟩,.bool true])∧Below W.heap.size W w'):=fun W hG=>by
  obtain ⟨m,hm⟩:=hG.most
  have h:=Tryz.strings_Cut ⟨T.toArray⟩ ⟨#[101]⟩ m W hl hm
  rw [show Lib.cut (ByteArray.mk T.toArray).data.toList (ByteArray.mk #[101]).data.toList=(H,X,true) from hcut] at h
  refine h.mono ?_
  rintro r w' ⟨rfl,n,rfl⟩
  exact ⟨rfl,Below.drewN' (Below.refl _ _) _⟩
 have HA:Hid (∀ W,Calls Tryz.prog 160 #[.string ⟨X.toArray⟩] W fun e w'=>e=.returned (.tuple #[.int .i64 (p - 1),.nilIface])∧Below W.heap.size W w'):=fun W=>by
  refine (Tryz.strconv_Atoi ⟨X.toArray⟩ (p - 1) (by show X.toArray.size≤18;rw [List.size_toArray];omega) a1 W).mono ?_
  rintro r w' ⟨rfl,t,rfl⟩
  exact ⟨rfl,Joins.below_bytesWorld W.heap.size W 5 t (Nat.le_refl _)⟩
 have HI:Hid (∀ W,Glob2 W→Calls Tryz.prog 161 #[.int .i64 (p - 1)] W fun e w'=>e=.returned (.string ⟨(Lib.itoa (p - 1)).toArray⟩)∧Below W.heap.size W w'):=fun W hG=>by
  refine (Tryz.strconv_Itoa (p - 1) (by omega) (by omega) W hG.glob.tab).mono ?_
  rintro r w' ⟨rfl,k,os,rfl⟩
  exact ⟨rfl,grow_below W k os⟩
 have c1:(⟨H.toArray⟩:ByteArray)++⟨#[101]⟩=⟨(H++[101]).toArray⟩:=bcat H [101]
 have c2:(⟨(H++[101]).toArray⟩:ByteArray)++⟨(Lib.itoa (p - 1)).toArray⟩=⟨(H++101::Lib.itoa (p - 1)).toArray⟩:=by rw [bcat,List.append_assoc];rfl
 clear hcut a1 a2 hl p0 p1
 have hs1:¬ ((ByteArray.mk H.toArray).size+(ByteArray.mk #[101]).size > 9223372036854775807):=by show ¬ (H.toArray.size+1 > 9223372036854775807);rw [List.size_toArray];omega
 have hs2:¬ ((ByteArray.mk (H++[101]).toArray).size+(ByteArray.mk (Lib.itoa (p - 1)).toArray).size > 9223372036854775807):=by show ¬ ((H++[101]).toArray.size+(Lib.itoa (p - 1)).toArray.size > 9223372036854775807);rw [List.size_toArray,List.size_toArray,List.length_append,List.length_singleton];omega
 go_enter Tryz.func147,Tryz.ntmps147
 go_wp2_with fail
 refine (HF.out w hGl.glob).mono ?_
 rintro r w1 ⟨rfl,hb1⟩
 have hG1:=hGl.below hb1
 go_wp2_with fail
 refine (HC.out w1 hG1).mono ?_
 rintro r w2 ⟨rfl,hb2⟩
 have hG2:=hG1.below hb2
 go_wp2_with fail
 refine (HA.out w2).mono ?_
 rintro r w3 ⟨rfl,hb3⟩
 have hG3:=hG2.below hb3
 have hb3':Below w.heap.size w w3:=(hb1.trans (hb2.mono hb1.size)).trans (hb3.mono (by have:=hb1.size;have:=hb2.size;omega))
 go_wp2_with fail
 refine (HI.out w3 hG3).mono ?_
 rintro r w4 ⟨rfl,hb4⟩
 have hb4':=hb3'.trans (hb4.mono hb3'.size)
 go_wp2
 go_ret
 exact ⟨rfl,hb4'⟩
noncomputable def pText (x:Nat):List UInt8:=if hasE (x % 9223372036854775808) then xText x else fText x
theorem print_all (x:Nat) (hx:x < 18446744073709551616) (w:World) (hGl:Glob2 w) :
  Calls Tryz.prog 126 #[.float .f64 x] w fun r w'=>r=.returned (.string ⟨(pText x).toArray⟩)∧Below w.heap.size w w':=by
 have HB:Hid (∀ W,Calls Tryz.prog 118 #[.float .f64 x] W fun e w'=>e=.returned (.float .f64 (x % 9223372036854775808))∧w'=W):=fun W=>abs_any x hx W
 have HH:Hid (∀ W,Calls Tryz.prog 146 #[.float .f64 (x % 9223372036854775808)] W fun e w'=>e=.returned (.bool (hasE (x % 9223372036854775808)))∧w'=W):=fun W=>hasExp_all _ (by omega) W
 unfold pText
 cases he:hasE (x % 9223372036854775808)
 ·have HF:Hid (∀ W,Glob W→Calls Tryz.prog 148 #[.float .f64 x,.int .u8 102,.int .i64 (-1),.int .i64 64] W fun r w'=>r=.returned (.string ⟨(fText x).toArray⟩)∧Below W.heap.size W w'):=fun W hG=>Format_f x hx (by have:=of_decide_eq_false he;omega) W hG
  rw [he] at HH
  rw [if_neg (by decide)]
  clear he
  generalize x % 9223372036854775808=y at *
  go_enter Tryz.func126,Tryz.ntmps126
  go_wp2_with (first
   | (go_at_call 118;with_reducible refine (HB.out _).mono ?_;rintro e w ⟨rfl,rfl⟩)
   | (go_at_call 146;with_reducible refine (HH.out _).mono ?_;rintro e w ⟨rfl,rfl⟩)
   | fail)
  refine (HF.out _ hGl.glob).mono ?_
  rintro r w1 ⟨rfl,hb⟩
  go_wp2
  go_ret
  exact ⟨rfl,hb⟩
 ·have HF:Hid (∀ W,Glob2 W→Calls Tryz.prog 147 #[.float .f64 x] W fun r w'=>r=.returned (.string ⟨(xText x).toArray⟩)∧Below W.heap.size W w'):=fun W hG=>withExp_all x hx (by have:=of_decide_eq_true he;omega) (by have:=of_decide_eq_true he;omega) W hG
  rw [he] at HH
  rw [if_pos rfl]
  clear he
  generalize x % 9223372036854775808=y at *
  go_enter Tryz.func126,Tryz.ntmps126
  go_wp2_with (first
   | (go_at_call 118;with_reducible refine (HB.out _).mono ?_;rintro e w ⟨rfl,rfl⟩)
   | (go_at_call 146;with_reducible refine (HH.out _).mono ?_;rintro e w ⟨rfl,rfl⟩)
   | fail)
  refine (HF.out _ hGl).mono ?_
  rintro r w1 ⟨rfl,hb⟩
  go_wp2
  go_ret
  exact ⟨rfl,hb⟩
end Go.Proofs.YtlgkfeeclgcgbaaGreatDoor.Rl
