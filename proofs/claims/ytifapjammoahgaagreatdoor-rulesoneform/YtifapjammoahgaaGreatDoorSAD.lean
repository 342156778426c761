/- ftoa64 at every finite float but 0. Own work of the verifier. -/
import Derived.Test.YtifapjammoahgaaGreatDoorSAC
import Derived.Lib.AppendStr
namespace Go.Proofs.YtifapjammoahgaaGreatDoor.Rl
open Go.RowKit Go.Sort
def fTxt (neg:Bool) (u k:Nat) (dp:Int):List Int :=
  if dp≤0 then (if neg then [45] else [])++[48,46]++List.replicate (-dp).toNat 48++(dI u).take k
  else if (k:Int)≤dp then (if neg then [45] else [])++(dI u).take k++List.replicate (dp.toNat - k) 48
  else (if neg then [45] else [])++(dI u).take dp.toNat++[46]++behind u dp.toNat k
theorem fmtF_any (neg:Bool) (B g u k:Nat) (dp:Int) (W0 w:World) (v:Value) (hu:1≤u) (hu1:u < 18446744073709551616) (hdp0:-390≤dp) (hdp1:dp≤390) (ht:Trim u k) (hbuf:Buf B (some (g,u)) W0 v [] w) :
    Calls Tryz.prog 107 #[v,.bool neg,.slice (some ⟨g,0,none⟩) 32 32,.int .i64 dp,.int .i64 (k:Int),.int .i64 (max ((k:Int) - dp) 0),.int .u8 102,.bool true] w fun r w'=>∃ v' o,r=.returned v'∧Buf B o W0 v' (fTxt neg u (trimLen u) dp) w':=by
  have hk1:=trim_pos hu ht
  have hk2:=ht.1
  have hk3:=Lib.nDigits_le20 u hu1
  rw [← trim_len ht]
  have hl:=dI_length u
  unfold fTxt
  by_cases h1:dp≤0
  · rw [if_pos h1,show max ((k:Int) - dp) 0=((k+(-dp).toNat:Nat):Int) from by omega]
    have h:=fmtF_below neg B g u k (-dp).toNat (k+(-dp).toNat) dp W0 w v hbuf hk1 (by omega) (by omega) (by omega) (by omega) rfl
    exact h.mono fun r w' ⟨v',a,b⟩=>⟨v',_,a,b⟩
  · rw [if_neg h1]
    obtain ⟨D,hD⟩:∃ D:Nat,dp=(D:Int):=⟨dp.toNat,by omega⟩
    subst hD
    rw [Int.toNat_natCast]
    by_cases h2:(k:Int)≤(D:Int)
    · rw [if_pos h2,show max ((k:Int) - (D:Int)) 0=0 from by omega]
      have h:=fmtF_whole neg B g u k D W0 w v hbuf hk1 (by omega) (by omega) (by omega) (by omega)
      exact h.mono fun r w' ⟨v',a,b⟩=>⟨v',_,a,b⟩
    · rw [if_neg h2,show max ((k:Int) - (D:Int)) 0=((k - D:Nat):Int) from by omega]
      have h:=fmtF_mid neg B g u k D (k - D) W0 w v hbuf (by omega) (by omega) (by omega) (by omega) rfl
      exact h.mono fun r w' ⟨v',a,b⟩=>⟨v',_,a,b⟩
def sd (x:Nat):Nat × Int :=
  if x % 9223372036854775808 < 4503599627370496 then shortF (x % 4503599627370496*2 ^ (64 - Lib.bitLen (x % 4503599627370496))) (-1074 - ((64 - Lib.bitLen (x % 4503599627370496):Nat):Int))
  else shortF ((4503599627370496+x % 4503599627370496)*2048) ((x / 4503599627370496 % 2048:Nat) - 1086)
theorem sub_bits (f:Nat) (h0:1≤f) (h1:f < 4503599627370496):∃ z:Nat,64 - Lib.bitLen f=z∧64 - (Lib.bitLen f:Int)=(z:Int)∧12≤z∧z≤63∧9223372036854775808≤f*2 ^ z∧f*2 ^ z < 18446744073709551616∧f*2 ^ z % 2 ^ z=0∧f*2 ^ z+2 ^ (z - 1) < 18446744073709551616:=by
  obtain ⟨a,b,c⟩:=len_bounds f (by omega) (by omega)
  have k1:Lib.bitLen f - 1 < 52:=(Nat.pow_lt_pow_iff_right (by decide:1 < 2)).1 (Nat.lt_of_le_of_lt b (by rw [show (2:Nat) ^ 52=4503599627370496 from by decide];exact h1))
  refine ⟨64 - Lib.bitLen f,rfl,by omega,by omega,by omega,?_,?_,Nat.mul_mod_left _ _,?_⟩
  · have:=Nat.mul_le_mul_right (2 ^ (64 - Lib.bitLen f)) b
    rw [← Nat.pow_add,show Lib.bitLen f - 1+(64 - Lib.bitLen f)=63 from by omega] at this
    exact this
  · have:=Nat.mul_lt_mul_of_pos_right c (show 0 < 2 ^ (64 - Lib.bitLen f) from Nat.pow_pos (by decide))
    rw [← Nat.pow_add,show Lib.bitLen f+(64 - Lib.bitLen f)=64 from by omega] at this
    exact this
  · have h2:=Nat.mul_le_mul_right (2 ^ (64 - Lib.bitLen f)) (show f+1≤2 ^ Lib.bitLen f from c)
    rw [← Nat.pow_add,show Lib.bitLen f+(64 - Lib.bitLen f)=64 from by omega,Nat.add_mul,Nat.one_mul] at h2
    have h3:2 ^ (64 - Lib.bitLen f)=2*2 ^ (64 - Lib.bitLen f - 1):=by rw [← Nat.pow_succ',show (64 - Lib.bitLen f - 1).succ=64 - Lib.bitLen f from by omega]
    have h4:0 < 2 ^ (64 - Lib.bitLen f - 1):=Nat.pow_pos (by decide)
    have h5:(2:Nat) ^ 64=18446744073709551616:=by decide
    omega
theorem ftoaE_all (x:Nat) (hx:x < 18446744073709551616) (h0:x % 9223372036854775808≠0) (h1:x % 9223372036854775808 < 9218868437227405312) (B:Nat) (W0 w:World) (v:Value) (hbuf:Buf B none W0 v [] w) (hGl:Glob w) :
    Calls Tryz.prog 83 #[v,.float .f64 x,.int .u8 101,.int .i64 (-1)] w fun r w'=>∃ v' o,r=.returned v'∧Buf B o W0 v' (eTxt (decide (9223372036854775808≤x)) (sd x).1 (trimLen (sd x).1) ((Lib.nDigits (sd x).1:Int)+(sd x).2)) w':=by
  have n1:=neg_bit x hx
  have n2:=ex_field x hx
  have n3:=fr_field x hx
  by_cases hs:x % 9223372036854775808 < 4503599627370496
  · have hE0:x / 4503599627370496 % 2048=0:=by omega
    rw [hE0] at n2
    obtain ⟨z,z1,z2,z3,z4,z5,z6,z7,z8⟩:=sub_bits (x % 4503599627370496) (by omega) (by omega)
    have hsd:sd x=shortF (x % 4503599627370496*2 ^ z) (-1074 - (z:Int)):=by unfold sd;rw [if_pos hs,z1]
    rw [hsd]
    have hb:=short_between (x % 4503599627370496*2 ^ z) (-1074 - (z:Int)) z5 z6 (by omega) (fun _=>by rw [show (-1075 - (-1074 - (z:Int))).toNat=z - 1 from by omega];exact z8) (by omega) (by omega)
    generalize hr:shortF (x % 4503599627370496*2 ^ z) (-1074 - (z:Int))=R at *
    obtain ⟨u,p⟩:=R
    obtain ⟨b1,b2,b3,b4⟩:=hb
    simp only at b1 b2 b3 b4 ⊢
    have hn:=Lib.nDigits_le20 u (by omega)
    refine ftoaE_sub _ x (x % 4503599627370496) (x % 4503599627370496*2 ^ z) u z (-1074 - (z:Int)) p B W0 w v _ hbuf hGl n1 n2 n3 (by omega) (by omega) hx z2 z3 z4 (by rw [Int.natCast_mul,Int.natCast_pow];rfl) z5 z6 z7 rfl hr b1 (by omega) (by omega) (by omega) ?_
    intro g k W ht hb'
    exact fmtE_any _ B g u k _ W0 W v b1 (by omega) (by omega) (by omega) ht hb'
  · have hsd:sd x=shortF ((4503599627370496+x % 4503599627370496)*2048) ((x / 4503599627370496 % 2048:Nat) - 1086):=by unfold sd;rw [if_neg hs]
    rw [hsd]
    have hb:=short_between ((4503599627370496+x % 4503599627370496)*2048) ((x / 4503599627370496 % 2048:Nat) - 1086) (by omega) (by omega) (by omega) (by omega) (by omega) (by omega)
    generalize hr:shortF ((4503599627370496+x % 4503599627370496)*2048) (((x / 4503599627370496 % 2048:Nat):Int) - 1086)=R at *
    obtain ⟨u,p⟩:=R
    obtain ⟨b1,b2,b3,b4⟩:=hb
    simp only at b1 b2 b3 b4 ⊢
    have hn:=Lib.nDigits_le20 u (by omega)
    refine ftoaE_w _ x (x / 4503599627370496 % 2048) (x % 4503599627370496) (4503599627370496+x % 4503599627370496) ((4503599627370496+x % 4503599627370496)*2048) u _ p B W0 w v _ hbuf hGl n1 n2 n3 (by omega) (by omega) hx (hid_bit _ (by omega)) (by omega) (by omega) (len53 _ (by omega) (by omega)) (by omega) rfl hr b1 (by omega) (by omega) (by omega) ?_
    intro g k W ht hb'
    exact fmtE_any _ B g u k _ W0 W v b1 (by omega) (by omega) (by omega) ht hb'
theorem ftoaF_all (x:Nat) (hx:x < 18446744073709551616) (h0:4503599627370496≤x % 9223372036854775808) (h1:x % 9223372036854775808 < 9218868437227405312) (B:Nat) (W0 w:World) (v:Value) (hbuf:Buf B none W0 v [] w) (hGl:Glob w) :
    Calls Tryz.prog 83 #[v,.float .f64 x,.int .u8 102,.int .i64 (-1)] w fun r w'=>∃ v' o,r=.returned v'∧Buf B o W0 v' (fTxt (decide (9223372036854775808≤x)) (sd x).1 (trimLen (sd x).1) ((Lib.nDigits (sd x).1:Int)+(sd x).2)) w':=by
  have n1:=neg_bit x hx
  have n2:=ex_field x hx
  have n3:=fr_field x hx
  have hsd:sd x=shortF ((4503599627370496+x % 4503599627370496)*2048) ((x / 4503599627370496 % 2048:Nat) - 1086):=by unfold sd;rw [if_neg (by omega)]
  rw [hsd]
  have hb:=short_between ((4503599627370496+x % 4503599627370496)*2048) ((x / 4503599627370496 % 2048:Nat) - 1086) (by omega) (by omega) (by omega) (by omega) (by omega) (by omega)
  generalize hr:shortF ((4503599627370496+x % 4503599627370496)*2048) (((x / 4503599627370496 % 2048:Nat):Int) - 1086)=R at *
  obtain ⟨u,p⟩:=R
  obtain ⟨b1,b2,b3,b4⟩:=hb
  simp only at b1 b2 b3 b4 ⊢
  have hn:=Lib.nDigits_le20 u (by omega)
  refine ftoaF_w _ x (x / 4503599627370496 % 2048) (x % 4503599627370496) (4503599627370496+x % 4503599627370496) ((4503599627370496+x % 4503599627370496)*2048) u _ p B W0 w v _ hbuf hGl n1 n2 n3 (by omega) (by omega) hx (hid_bit _ (by omega)) (by omega) (by omega) (len53 _ (by omega) (by omega)) (by omega) rfl hr b1 (by omega) (by omega) (by omega) ?_
  intro g k W ht hb'
  exact fmtF_any _ B g u k _ W0 W v b1 (by omega) (by omega) (by omega) ht hb'
end Go.Proofs.YtifapjammoahgaaGreatDoor.Rl
/- ftoa64 AT INFINITIES AND NaN. Own work of the verifier. -/
set_option maxRecDepth 100000
set_option maxHeartbeats 1000000
namespace Go.Proofs.YtifapjammoahgaaGreatDoor.Rl
open Go.RowKit Go.Sort
theorem ftoaF_special (neg nan:Bool) (x f:Nat) (B:Nat) (W0 w:World) (v:Value) (hbuf:Buf B none W0 v [] w)
    (hneg:((x:Int) / 9223372036854775808 != 0)=neg) (hE:bits .and .i64 ((x:Int) / 4503599627370496) 2047=2047) (hf:bits .and .u64 (x:Int) 4503599627370495=(f:Int)) (hn:((f:Int) != 0)=nan) (hx:x < 18446744073709551616) :
    Calls Tryz.prog 83 #[v,.float .f64 x,.int .u8 102,.int .i64 (-1)] w fun r w'=>∃ v' o,r=.returned v'∧Buf B o W0 v' (if nan then [78,97,78] else if neg then [45,73,110,102] else [43,73,110,102]) w':=by
  obtain ⟨i0,hi,hz0,hz1,hz2⟩:=info_parts infoByte
  obtain ⟨T,HT⟩:∃ T:List Int,Hid ((if nan then [78,97,78] else if neg then [45,73,110,102] else [43,73,110,102])=T):=⟨_,rfl⟩
  rw [HT.out]
  cases nan
  · cases neg
    all_goals
      go_enter Tryz.func83,Tryz.ntmps83
      go_wp2_with (first
        | simp only [f64bits]
        | fail)
      go_quiet (fail)
      have hbuf:=hbuf.step (Below.drewN' (Below.refl _ _) nq)
      go_wp2_with (first
        | (at_builtin;refine Lib.wpList_append_own_string _ rfl _ _ 51 9 rfl B 5 i0 Tryz.underlying51 Tryz.underlying9 hi hz0 hz1 hz2 _ _ _ rfl hbuf.own _ rfl (by decide) (by decide) hbuf.size ?_;intro v w hown hgrow hnil)
        | fail)
      go_ret
      refine ⟨_,none,rfl,?_⟩
      rw [← HT.out]
      exact hbuf.grow (World.grownBy.refl _ _) 4 rfl hown hgrow hnil (by decide)
  · go_enter Tryz.func83,Tryz.ntmps83
    go_wp2_with (first
      | simp only [f64bits]
      | fail)
    go_quiet (fail)
    have hbuf:=hbuf.step (Below.drewN' (Below.refl _ _) nq)
    go_wp2_with (first
      | (at_builtin;refine Lib.wpList_append_own_string _ rfl _ _ 51 9 rfl B 5 i0 Tryz.underlying51 Tryz.underlying9 hi hz0 hz1 hz2 _ _ _ rfl hbuf.own _ rfl (by decide) (by decide) hbuf.size ?_;intro v w hown hgrow hnil)
      | fail)
    go_ret
    refine ⟨_,none,rfl,?_⟩
    rw [← HT.out]
    exact hbuf.grow (World.grownBy.refl _ _) 3 rfl hown hgrow hnil (by decide)
end Go.Proofs.YtifapjammoahgaaGreatDoor.Rl
/- FormatFloat. Own work of the verifier. -/
set_option maxRecDepth 100000
set_option maxHeartbeats 1000000
namespace Go.Proofs.YtifapjammoahgaaGreatDoor.Rl
open Go.RowKit Go.Sort
def asI (bs:List UInt8):List Int:=bs.map fun b=>(b.toNat:Int)
theorem Buf.text {B:Nat} {o:Option (Nat × Nat)} {W0 w:World} {v:Value} {bs:List UInt8} (h:Buf B o W0 v (asI bs) w):∃ g cap,v=.slice (some ⟨g,0,none⟩) bs.length cap ∧
    (convert 51 9 (.slice (some ⟨g,0,none⟩) bs.length cap)).run Tryz.prog w=.ok (.string ⟨bs.toArray⟩) w:=by
  obtain ⟨g,cap,cur,hv,hB,hcur⟩:=own_of h.own h.nz
  have hl:(asI bs).length=bs.length:=by simp [asI]
  rw [hl] at hv
  refine ⟨g,cap,hv,?_⟩
  have hown:=h.own
  rw [hl,hv] at hown
  exact run_convert_bytes_back w 51 9 5 ⟨g,0,none⟩ cap bs Tryz.underlying51 Tryz.underlying5 Tryz.underlying9 (fun i hi'=>by
    exact hown.cells (g:=g) rfl i _ (by simp [asI,hi']))
theorem format_of (x:Nat) (fmt:Int) (bs:List UInt8) (w:World) (hGl:Glob w)
    (HF:Hid (∀ (v:Value) (W:World),Buf w.heap.size none w v [] W→Glob W→Calls Tryz.prog 83 #[v,.float .f64 x,.int .u8 fmt,.int .i64 (-1)] W fun r w'=>∃ v' o,r=.returned v'∧Buf w.heap.size o w v' (asI bs) w')) :
    Calls Tryz.prog 61 #[.float .f64 x,.int .u8 fmt,.int .i64 (-1),.int .i64 64] w fun r w'=>r=.returned (.string ⟨bs.toArray⟩)∧Below w.heap.size w w':=by
  obtain ⟨i0,hi,hz0,hz1,hz2⟩:=info_parts infoByte
  go_enter Tryz.func61,Tryz.ntmps61
  go_wp2_with (first
    | (at_make;refine wpList_make_own _ rfl _ _ 51 rfl w.heap.size 5 i0 (.int .u8 0) 1 Tryz.underlying51 hi hz0 hz1 _ _ _ 24 rfl rfl (by decide) (by rw [hz2];decide) (by unfold maxLen;decide) (Nat.le_refl _) ?_;intro w1 hown hgrow)
    | fail)
  have hb1:Below w.heap.size w w1:=(Below.refl _ _).grown hgrow (Nat.le_refl _) (fun k e=>by cases e)
  have hbuf:Buf w.heap.size none w (.slice (some ⟨w.heap.size,0,none⟩) 0 24) [] w1:=⟨hown,by simp,hb1,hb1.size,by decide,fun g u e=>by cases e⟩
  refine (HF.out _ w1 hbuf (hGl.below hb1)).mono ?_
  rintro r w2 ⟨v',o,rfl,hb2⟩
  obtain ⟨g,cap,rfl,hcv⟩:=hb2.text
  go_wp2
  go_ret
  exact ⟨rfl,hb2.below⟩
theorem Format_of (x:Nat) (fmt:Int) (bs:List UInt8) (w:World) (hGl:Glob w)
    (HF:Hid (∀ (v:Value) (W:World),Buf w.heap.size none w v [] W→Glob W→Calls Tryz.prog 83 #[v,.float .f64 x,.int .u8 fmt,.int .i64 (-1)] W fun r w'=>∃ v' o,r=.returned v'∧Buf w.heap.size o w v' (asI bs) w')) :
    Calls Tryz.prog 39 #[.float .f64 x,.int .u8 fmt,.int .i64 (-1),.int .i64 64] w fun r w'=>r=.returned (.string ⟨bs.toArray⟩)∧Below w.heap.size w w':=by
  go_enter Tryz.func39,Tryz.ntmps39
  go_wp2_with fail
  refine (format_of x fmt bs w hGl HF).mono ?_
  rintro r w2 ⟨rfl,hb2⟩
  go_wp2
  go_ret
  exact ⟨rfl,hb2⟩
end Go.Proofs.YtifapjammoahgaaGreatDoor.Rl
/- FormatFloat AT EVERY FLOAT. Own work of the verifier. -/
namespace Go.Proofs.YtifapjammoahgaaGreatDoor.Rl
open Go.RowKit Go.Sort
def sgn (neg:Bool):List UInt8:=if neg then [45] else []
def fB (neg:Bool) (u k:Nat) (dp:Int):List UInt8 :=
  if dp≤0 then sgn neg++[48,46]++List.replicate (-dp).toNat 48++(Lib.decDigits u).take k
  else if (k:Int)≤dp then sgn neg++(Lib.decDigits u).take k++List.replicate (dp.toNat - k) 48
  else sgn neg++(Lib.decDigits u).take dp.toNat++[46]++((Lib.decDigits u).take k).drop dp.toNat
theorem fB_txt (neg:Bool) (u k:Nat) (dp:Int):asI (fB neg u k dp)=fTxt neg u k dp:=by
  unfold fB fTxt sgn asI dI behind
  by_cases h:dp≤0
  · rw [if_pos h,if_pos h];cases neg <;> simp [List.map_take]
  · rw [if_neg h,if_neg h]
    by_cases h':(k:Int)≤dp
    · rw [if_pos h',if_pos h'];cases neg <;> simp [List.map_take]
    · rw [if_neg h',if_neg h'];cases neg <;> simp [List.map_take,List.map_drop,dI]
def xDig (E:Nat):List UInt8:=if E < 10 then [48,UInt8.ofNat (E+48)] else if E < 100 then [UInt8.ofNat (E / 10+48),UInt8.ofNat (E % 10+48)] else [UInt8.ofNat (E / 100+48),UInt8.ofNat (E / 10 % 10+48),UInt8.ofNat (E % 10+48)]
def xTail (dp:Int):List UInt8:=if dp - 1 < 0 then 45::xDig (1 - dp).toNat else 43::xDig (dp - 1).toNat
def eHead (neg:Bool) (u k:Nat):List UInt8:=if k=1 then sgn neg++[(Lib.decDigits u).getD 0 0] else sgn neg++[(Lib.decDigits u).getD 0 0,46]++((Lib.decDigits u).take k).drop 1
def eB (neg:Bool) (u k:Nat) (dp:Int):List UInt8:=eHead neg u k++101::xTail dp
theorem xDig_I:∀ E < 400,asI (xDig E)=eDig E:=by decide +kernel
theorem xTail_I (dp:Int) (h0:-390≤dp) (h1:dp≤390):asI (101::xTail dp)=eTail dp:=by
  unfold xTail eTail
  by_cases h:dp - 1 < 0
  · rw [if_pos h,if_pos h,← xDig_I _ (by omega)];rfl
  · rw [if_neg h,if_neg h,← xDig_I _ (by omega)];rfl
theorem first_I (u:Nat):(dI u).getD 0 0=(((Lib.decDigits u).getD 0 0).toNat:Int):=by
  unfold dI
  cases Lib.decDigits u <;> rfl
theorem eB_txt (neg:Bool) (u k:Nat) (dp:Int) (h0:-390≤dp) (h1:dp≤390):asI (eB neg u k dp)=eTxt neg u k dp:=by
  unfold eB eTxt
  rw [← xTail_I dp h0 h1,first_I]
  unfold eHead asI sgn mid dI
  by_cases h:k=1
  · rw [if_pos h,if_pos h];cases neg <;> simp
  · rw [if_neg h,if_neg h];cases neg <;> simp [List.map_take]
def pt (x:Nat):Int:=(Lib.nDigits (sd x).1:Int)+(sd x).2
theorem sd_bounds (x:Nat) (h0:x % 9223372036854775808≠0) (h1:x % 9223372036854775808 < 9218868437227405312):1≤(sd x).1∧(sd x).1 < 288230376151711744∧-350≤(sd x).2∧(sd x).2≤350:=by
  by_cases hs:x % 9223372036854775808 < 4503599627370496
  · obtain ⟨z,z1,z2,z3,z4,z5,z6,z7,z8⟩:=sub_bits (x % 4503599627370496) (by omega) (by omega)
    have hsd:sd x=shortF (x % 4503599627370496*2 ^ z) (-1074 - (z:Int)):=by unfold sd;rw [if_pos hs,z1]
    rw [hsd]
    exact short_between (x % 4503599627370496*2 ^ z) (-1074 - (z:Int)) z5 z6 (by omega) (fun _=>by rw [show (-1075 - (-1074 - (z:Int))).toNat=z - 1 from by omega];exact z8) (by omega) (by omega)
  · have hsd:sd x=shortF ((4503599627370496+x % 4503599627370496)*2048) ((x / 4503599627370496 % 2048:Nat) - 1086):=by unfold sd;rw [if_neg hs]
    rw [hsd]
    exact short_between ((4503599627370496+x % 4503599627370496)*2048) ((x / 4503599627370496 % 2048:Nat) - 1086) (by omega) (by omega) (by omega) (by omega) (by omega) (by omega)
theorem pt_bounds (x:Nat) (h0:x % 9223372036854775808≠0) (h1:x % 9223372036854775808 < 9218868437227405312):-390≤pt x∧pt x≤390:=by
  obtain ⟨a,b,c,d⟩:=sd_bounds x h0 h1
  have:=Lib.nDigits_le20 (sd x).1 (by omega)
  unfold pt
  omega
noncomputable def eText (x:Nat):List UInt8:=eB (decide (9223372036854775808≤x)) (sd x).1 (trimLen (sd x).1) (pt x)
noncomputable def fText (x:Nat):List UInt8 :=
  if x % 9223372036854775808=0 then (if 9223372036854775808≤x then [45,48] else [48])
  else if 9218868437227405312 < x % 9223372036854775808 then [78,97,78]
  else if x % 9223372036854775808=9218868437227405312 then (if 9223372036854775808≤x then [45,73,110,102] else [43,73,110,102])
  else fB (decide (9223372036854775808≤x)) (sd x).1 (trimLen (sd x).1) (pt x)
theorem Format_e (x:Nat) (hx:x < 18446744073709551616) (h0:x % 9223372036854775808≠0) (h1:x % 9223372036854775808 < 9218868437227405312) (w:World) (hGl:Glob w) :
    Calls Tryz.prog 39 #[.float .f64 x,.int .u8 101,.int .i64 (-1),.int .i64 64] w fun r w'=>r=.returned (.string ⟨(eText x).toArray⟩)∧Below w.heap.size w w':=by
  refine Format_of x 101 (eText x) w hGl (fun v W hbuf hG=>?_)
  obtain ⟨p0,p1⟩:=pt_bounds x h0 h1
  unfold eText
  rw [eB_txt _ _ _ _ p0 p1]
  exact ftoaE_all x hx h0 h1 _ _ _ v hbuf hG
theorem Format_f (x:Nat) (hx:x < 18446744073709551616) (h0:x % 9223372036854775808=0∨4503599627370496≤x % 9223372036854775808) (w:World) (hGl:Glob w) :
    Calls Tryz.prog 39 #[.float .f64 x,.int .u8 102,.int .i64 (-1),.int .i64 64] w fun r w'=>r=.returned (.string ⟨(fText x).toArray⟩)∧Below w.heap.size w w':=by
  refine Format_of x 102 (fText x) w hGl (fun v W hbuf hG=>?_)
  have n1:=neg_bit x hx
  have n2:=ex_field x hx
  have n3:=fr_field x hx
  by_cases c0:x % 9223372036854775808=0
  · have:=ftoaF_zero _ x _ _ _ v hbuf n1 (by rw [n2];omega) (by rw [n3];omega) hx
    rw [show asI (fText x)=(if decide (9223372036854775808≤x) then [45,48] else [48]) from by unfold fText;rw [if_pos c0];by_cases hn:9223372036854775808≤x <;> simp [hn,asI]]
    exact this
  · by_cases c1:x % 9223372036854775808 < 9218868437227405312
    · rw [show fText x=fB (decide (9223372036854775808≤x)) (sd x).1 (trimLen (sd x).1) (pt x) from by unfold fText;rw [if_neg c0,if_neg (by omega),if_neg (by omega)],fB_txt]
      exact ftoaF_all x hx (by omega) c1 _ _ _ v hbuf hG
    · have:=ftoaF_special _ (decide (9218868437227405312 < x % 9223372036854775808)) x (x % 4503599627370496) _ _ _ v hbuf n1 (by rw [n2];omega) n3 (by
        by_cases hn:9218868437227405312 < x % 9223372036854775808
        · rw [decide_eq_true hn,bne_iff_ne];omega
        · rw [decide_eq_false hn,bne_eq_false_iff_eq];omega) hx
      refine this.mono ?_
      rintro r w' ⟨v',o,e,hb⟩
      refine ⟨v',o,e,?_⟩
      have he:asI (fText x)=(if decide (9218868437227405312 < x % 9223372036854775808) then [78,97,78] else if decide (9223372036854775808≤x) then [45,73,110,102] else [43,73,110,102]):=by
        unfold fText
        rw [if_neg c0]
        by_cases hn:9218868437227405312 < x % 9223372036854775808
        · simp [hn,asI]
        · rw [if_neg hn,if_pos (by omega)]
          by_cases hm:9223372036854775808≤x <;> simp [hn,hm,asI]
      rw [he]
      exact hb
end Go.Proofs.YtifapjammoahgaaGreatDoor.Rl
/- THE SCALING AS A LINEAR FUNCTION, but for less than 1. Own work of the verifier. -/
namespace Go.Proofs.YtifapjammoahgaaGreatDoor.Rl
open Go.RowKit
def NN (x hi lo:Nat):Nat:=x*hi - x*lo / 18446744073709551616
def cutD (N D:Nat):Nat:=N / D ||| b2n (decide (1 < N % D))
theorem div_parts (D a R:Nat) (h:R < D):(D*a+R) / D=a∧(D*a+R) % D=R :=
  ⟨by rw [Nat.mul_add_div (by omega),Nat.div_eq_of_lt h,Nat.add_zero],by rw [Nat.mul_add_mod,Nat.mod_eq_of_lt h]⟩
theorem carry_le (x lo:Nat) (hx:x < 18446744073709551616) (hlo:lo < 18446744073709551616):x*lo / 18446744073709551616≤18446744073709551614:=by
  have h1:x*lo≤18446744073709551615*18446744073709551615:=Nat.mul_le_mul (by omega) (by omega)
  omega
theorem usc_form (x hi lo s:Nat) (hx:x < 18446744073709551616) (h0:1≤hi) (hhi:hi < 18446744073709551616) (hlo:lo < 18446744073709551616) :
    usc x hi lo s=cutD (NN x hi lo) (18446744073709551616*2 ^ s):=by
  have hT:0 < 2 ^ s:=Nat.pow_pos (by decide)
  have hq:=carry_le x lo hx hlo
  have hqx:x*lo / 18446744073709551616≤x*hi:=by
    have h1:x*lo≤x*18446744073709551616:=Nat.mul_le_mul_left _ (by omega)
    have h2:x*1≤x*hi:=Nat.mul_le_mul_left _ h0
    omega
  have hh:x*hi / 18446744073709551616 < 18446744073709551616:=by
    have h1:x*hi≤18446744073709551615*18446744073709551615:=Nat.mul_le_mul (by omega) (by omega)
    omega
  unfold usc cutD NN
  generalize x*lo / 18446744073709551616=q at *
  generalize x*hi=P at *
  generalize 2 ^ s=T at *
  have hP:P=18446744073709551616*(P / 18446744073709551616)+P % 18446744073709551616:=(Nat.div_add_mod _ _).symm
  have hr:P % 18446744073709551616 < 18446744073709551616:=Nat.mod_lt _ (by decide)
  generalize P / 18446744073709551616=h at *
  generalize P % 18446744073709551616=r at *
  have hd:h=T*(h / T)+h % T:=(Nat.div_add_mod _ _).symm
  have hc:h % T < T:=Nat.mod_lt _ hT
  generalize h / T=a at *
  generalize h % T=c at *
  by_cases hz:c=0
  · subst hz
    rw [Nat.add_zero] at hd
    rw [if_pos (by rw [hd,Nat.mul_comm])]
    by_cases hb:r < q
    · have ha:1≤a:=by
        rcases Nat.eq_zero_or_pos a with h' | h'
        · subst h';omega
        · exact h'
      obtain ⟨b,rfl⟩:∃ b,a=b+1:=⟨a - 1,by omega⟩
      have hN:P - q=18446744073709551616*T*b+(18446744073709551616*T+r - q):=by
        have e1:18446744073709551616*h=18446744073709551616*T*b+18446744073709551616*T:=by rw [hd,← Nat.mul_assoc,Nat.mul_add,Nat.mul_one]
        omega
      have e2:h=T*b+T:=by rw [hd,Nat.mul_add,Nat.mul_one]
      obtain ⟨k1,k2⟩:=div_parts (18446744073709551616*T) b (18446744073709551616*T+r - q) (by omega)
      rw [hN,k1,k2,decide_eq_true hb,show (h+18446744073709551616 - b2n true) % 18446744073709551616=T*b+(T - 1) from by show (h+18446744073709551616 - 1) % 18446744073709551616=_;omega,(div_parts T b (T - 1) (by omega)).1,decide_eq_true (show 1 < (r+18446744073709551616 - q) % 18446744073709551616 from by omega),decide_eq_true (show 1 < 18446744073709551616*T+r - q from by omega)]
    · have hN:P - q=18446744073709551616*T*a+(r - q):=by
        have e1:18446744073709551616*h=18446744073709551616*T*a:=by rw [hd,← Nat.mul_assoc]
        omega
      obtain ⟨k1,k2⟩:=div_parts (18446744073709551616*T) a (r - q) (by omega)
      rw [hN,k1,k2,decide_eq_false hb,show (h+18446744073709551616 - b2n false) % 18446744073709551616=T*a+0 from by show (h+18446744073709551616 - 0) % 18446744073709551616=_;omega,(div_parts T a 0 hT).1,show (r+18446744073709551616 - q) % 18446744073709551616=r - q from by omega]
  · rw [if_neg (by rw [Nat.mul_comm];omega)]
    have hN:P - q=18446744073709551616*T*a+(18446744073709551616*c+r - q):=by
      have e1:18446744073709551616*h=18446744073709551616*T*a+18446744073709551616*c:=by rw [hd,Nat.mul_add,← Nat.mul_assoc]
      omega
    obtain ⟨k1,k2⟩:=div_parts (18446744073709551616*T) a (18446744073709551616*c+r - q) (by omega)
    rw [hN,k1,k2,decide_eq_true (show 1 < 18446744073709551616*c+r - q from by omega)]
    rfl
theorem NN_ceil (x hi lo:Nat) (h:lo≤hi*18446744073709551616):x*(hi*18446744073709551616 - lo)≤NN x hi lo*18446744073709551616∧NN x hi lo*18446744073709551616 < x*(hi*18446744073709551616 - lo)+18446744073709551616:=by
  unfold NN
  rw [Nat.mul_sub,← Nat.mul_assoc]
  have h1:x*lo≤x*hi*18446744073709551616:=by rw [Nat.mul_assoc];exact Nat.mul_le_mul_left _ h
  generalize x*lo=A at *
  generalize x*hi=B at *
  omega
theorem cutD_cases (N D:Nat) (hD:0 < D):∃ Q R,N=D*Q+R∧R < D∧(cutD N D=Q∧(R≤1∨Q % 2=1)∨cutD N D=Q+1∧Q % 2=0∧1 < R):=by
  refine ⟨N / D,N % D,(Nat.div_add_mod _ _).symm,Nat.mod_lt _ hD,?_⟩
  unfold cutD
  generalize N / D=Q
  generalize N % D=R
  by_cases h:1 < R
  · rw [decide_eq_true h]
    rcases Nat.mod_two_eq_zero_or_one Q with k | k
    · refine Or.inr ⟨?_,k,h⟩
      show Q ||| 1=Q+1
      obtain ⟨q,rfl⟩:∃ q,Q=2*q:=⟨Q / 2,by omega⟩
      rw [show 2*q=2 ^ 1*q from by rw [Nat.pow_one],← Nat.two_pow_add_eq_or_of_lt (by decide:1 < 2 ^ 1)]
    · refine Or.inl ⟨?_,Or.inr k⟩
      show Q ||| 1=Q
      obtain ⟨q,rfl⟩:∃ q,Q=2*q+1:=⟨Q / 2,by omega⟩
      rw [show 2*q+1=2 ^ 1*q ||| 1 from by rw [← Nat.two_pow_add_eq_or_of_lt (by decide:1 < 2 ^ 1),Nat.pow_one],Nat.or_assoc,Nat.or_self]
  · rw [decide_eq_false h]
    exact Or.inl ⟨Nat.or_zero _,Or.inl (by omega)⟩
theorem dLow_small (u odd:Nat) (hu:u < 18446744073709551600) (ho:odd≤1):dLow u odd=(u+odd+3) / 4:=by unfold dLow;omega
theorem dHigh_small (u odd:Nat) (hu:u < 18446744073709551600) (h1:1≤u) (ho:odd≤1):dHigh u odd=(u - odd) / 4:=by unfold dHigh;omega
theorem dMid_small (u:Nat) (hu:u < 18446744073709551600):dMid u=(u+1+u / 4 % 2) / 4:=by unfold dMid;omega
theorem high_low (u odd:Nat) (hu:u < 18446744073709551600) (h1:1≤u) (ho:odd≤1):dHigh u odd < dLow u (1 - odd):=by
  rw [dLow_small _ _ hu (by omega),dHigh_small _ _ hu h1 ho]
  omega
theorem q_le {D a r b t:Nat} (_hr:r < D) (ht:t < D) (h:D*a+r≤D*b+t):a≤b∧(a=b→r≤t):=by
  constructor
  · apply Nat.le_of_not_lt
    intro k
    have:=Nat.mul_le_mul_left D (show b+1≤a from k)
    rw [Nat.mul_add,Nat.mul_one] at this
    omega
  · rintro rfl;omega
theorem low_high (D Nn Nx odd:Nat) (hD:4≤D) (hw:Nn+4*D+2≤Nx) (ho:odd≤1) (hu:cutD Nn D < 18446744073709551600) (hv:cutD Nx D < 18446744073709551600) (hv1:1≤cutD Nx D) :
    dLow (cutD Nn D) odd≤dHigh (cutD Nx D) odd:=by
  rw [dLow_small _ _ hu ho,dHigh_small _ _ hv hv1 ho]
  obtain ⟨Qn,Rn,n1,n2,n3⟩:=cutD_cases Nn D (by omega)
  obtain ⟨Qx,Rx,x1,x2,x3⟩:=cutD_cases Nx D (by omega)
  have k:Qn+4≤Qx∧(Qn+4=Qx→Rn+2≤Rx):=by
    have e:D*(Qn+4)=D*Qn+4*D:=by rw [Nat.mul_add,Nat.mul_comm D 4]
    constructor
    · exact (q_le n2 x2 (show D*(Qn+4)+Rn≤D*Qx+Rx from by omega)).1
    · rintro h
      rw [← h] at x1
      omega
  obtain ⟨k1,k2⟩:=k
  rcases n3 with ⟨a,b⟩ | ⟨a,b,c⟩ <;> rcases x3 with ⟨a',b'⟩ | ⟨a',b',c'⟩ <;> rw [a,a'] <;> omega
theorem mid_between (D Nn Nm Nx odd:Nat) (hD:4≤D) (h1:Nn+Nx≤2*Nm+1) (h2:2*Nm≤Nn+Nx+1) (ho:odd≤1) (hu:cutD Nn D < 18446744073709551600) (hu1:1≤cutD Nn D) (hm:cutD Nm D < 18446744073709551600) (hv:cutD Nx D < 18446744073709551600) (hv1:1≤cutD Nx D)
    (hlt:dLow (cutD Nn D) odd < dHigh (cutD Nx D) odd):dLow (cutD Nn D) odd≤dMid (cutD Nm D)∧dMid (cutD Nm D)≤dHigh (cutD Nx D) odd:=by
  rw [dLow_small _ _ hu ho,dHigh_small _ _ hv hv1 ho] at *
  rw [dMid_small _ hm]
  obtain ⟨Qn,Rn,n1,n2,n3⟩:=cutD_cases Nn D (by omega)
  obtain ⟨Qm,Rm,m1,m2,m3⟩:=cutD_cases Nm D (by omega)
  obtain ⟨Qx,Rx,x1,x2,x3⟩:=cutD_cases Nx D (by omega)
  generalize hj:(cutD Nn D+odd+3) / 4=j at *
  generalize hk:(cutD Nx D - odd) / 4=k at *
  have hj1:1≤j:=by omega
  obtain ⟨i,rfl⟩:∃ i,j=i+1:=⟨j - 1,by omega⟩
  -- the lower end
  have a1:4*i≤Qn:=by rcases n3 with ⟨a,b⟩ | ⟨a,b,c⟩ <;> rw [a] at hj <;> omega
  have a2:Qn < 4*i+4∨Qn=4*i+4∧Rn≤1:=by rcases n3 with ⟨a,b⟩ | ⟨a,b,c⟩ <;> rw [a] at hj <;> omega
  have a3:4*k≤Qx:=by rcases x3 with ⟨a,b⟩ | ⟨a,b,c⟩ <;> rw [a] at hk <;> omega
  have a4:Qx < 4*k+4∨Qx=4*k+4∧Rx≤1:=by rcases x3 with ⟨a,b⟩ | ⟨a,b,c⟩ <;> rw [a] at hk <;> omega
  have b1:D*(4*i)≤Nn:=by have:=Nat.mul_le_mul_left D a1;omega
  have b2:Nn≤D*(4*i+4)+1:=by
    rcases a2 with h | ⟨h,h'⟩
    · have:=Nat.mul_le_mul_left D (show Qn+1≤4*i+4 from h);rw [Nat.mul_add,Nat.mul_one] at this;omega
    · rw [h] at n1;omega
  have b3:D*(4*k)≤Nx:=by have:=Nat.mul_le_mul_left D a3;omega
  have b4:Nx≤D*(4*k+4)+1:=by
    rcases a4 with h | ⟨h,h'⟩
    · have:=Nat.mul_le_mul_left D (show Qx+1≤4*k+4 from h);rw [Nat.mul_add,Nat.mul_one] at this;omega
    · rw [h] at x1;omega
  have c1:D*(4*(i+1))≤Nm:=by
    have e1:D*(4*(i+2))≤D*(4*k):=Nat.mul_le_mul_left D (by omega)
    have e2:D*(4*(i+2))=D*(4*i)+D*8:=by rw [← Nat.mul_add];congr 1
    have e3:D*(4*(i+1))=D*(4*i)+D*4:=by rw [← Nat.mul_add];congr 1
    omega
  have c2:Nm≤D*(4*k)+1:=by
    have e1:D*(4*i+4)≤D*(4*k - 4):=Nat.mul_le_mul_left D (by omega)
    have e2:D*(4*k - 4)+D*4=D*(4*k):=by rw [← Nat.mul_add];congr 1;omega
    have e3:D*(4*k+4)=D*(4*k)+D*4:=by rw [← Nat.mul_add]
    omega
  have d1:4*(i+1)≤Qm:=(q_le (show 0 < D from by omega) m2 (show D*(4*(i+1))+0≤D*Qm+Rm from by omega)).1
  have d2:Qm≤4*k∧(Qm=4*k→Rm≤1):=q_le m2 (show 1 < D from by omega) (show D*Qm+Rm≤D*(4*k)+1 from by omega)
  obtain ⟨d2,d3⟩:=d2
  rcases m3 with ⟨a,b⟩ | ⟨a,b,c⟩ <;> rw [a] <;> omega
def inUnits (r:Nat × Int) (p:Int):Nat:=if r.2=-p then r.1 else r.1*10
theorem pick_in (m mn mx odd:Nat) (e p:Int) (hlh:dLow (scl mn e p) odd≤dHigh (scl mx e p) odd)
    (hmid:dLow (scl mn e p) odd < dHigh (scl mx e p) odd→dLow (scl mn e p) odd≤dMid (scl m e p)∧dMid (scl m e p)≤dHigh (scl mx e p) odd) :
    dLow (scl mn e p) odd≤inUnits (pick m mn mx odd e p) p∧inUnits (pick m mn mx odd e p) p≤dHigh (scl mx e p) odd∧((pick m mn mx odd e p).2=-p∨(pick m mn mx odd e p).2=-p+1):=by
  unfold pick inUnits
  generalize dLow (scl mn e p) odd=L at *
  generalize dHigh (scl mx e p) odd=H at *
  generalize dMid (scl m e p)=M at *
  split
  · simp only
    rw [if_neg (by omega)]
    refine ⟨by omega,by omega,Or.inr (by omega)⟩
  · split
    · rename_i h
      simp only
      rw [if_pos trivial]
      exact ⟨(hmid h).1,(hmid h).2,Or.inl trivial⟩
    · simp only
      rw [if_pos trivial]
      exact ⟨Nat.le_refl _,hlh,Or.inl trivial⟩
def okW (g:Nat) (e p:Int):Bool:=decide ((4*(18446744073709551616*2 ^ sOf e p)+3)*18446744073709551616≤2*g*(tabHi (p+348).toNat*18446744073709551616 - tabLo (p+348).toNat))
theorem wide_norm (e:Int) (h0:-1085≤e) (h1:e≤1000) (hz:e≠-11):okW 1024 e (-(l10 (e+11)))=true:=by
  have h:(List.range 2086).all (fun i=>i == 1074 || okW 1024 ((i:Int) - 1085) (-(l10 ((i:Int) - 1085+11))))=true:=by decide +kernel
  have:=List.all_eq_true.1 h (e+1085).toNat (List.mem_range.2 (by omega))
  rw [show (((e+1085).toNat:Nat):Int) - 1085=e from by omega,Bool.or_eq_true] at this
  rcases this with k | k
  · have:=eq_of_beq k;omega
  · exact k
theorem wide_sub (e:Int) (h0:-1137≤e) (h1:e≤-1086):okW (2 ^ (-1075 - e).toNat) e (-(l10 (-1074)))=true:=by
  have h:(List.range 52).all (fun i=>okW (2 ^ (-1075 - ((i:Int) - 1137)).toNat) ((i:Int) - 1137) (-(l10 (-1074))))=true:=by decide +kernel
  have:=List.all_eq_true.1 h (e+1137).toNat (List.mem_range.2 (by omega))
  rw [show (((e+1137).toNat:Nat):Int) - 1137=e from by omega] at this
  exact this
theorem scl_form (x:Nat) (e p:Int) (hx:x < 18446744073709551616) (hp0:-348≤p) (hp1:p≤347) :
    scl x e p=cutD (NN x (tabHi (p+348).toNat) (tabLo (p+348).toNat)) (18446744073709551616*2 ^ sOf e p):=by
  have h1:=tab_fit (p+348).toNat (by omega)
  have h2:=tab_top (p+348).toNat (by omega)
  exact usc_form x _ _ _ hx (by omega) h1.1 h1.2
theorem sym_ends (x g hi lo:Nat) (hg:g≤x) (h:lo≤hi*18446744073709551616) :
    NN (x - g) hi lo+NN (x+g) hi lo≤2*NN x hi lo+1∧2*NN x hi lo≤NN (x - g) hi lo+NN (x+g) hi lo+1:=by
  have a:=NN_ceil (x - g) hi lo h
  have b:=NN_ceil (x+g) hi lo h
  have c:=NN_ceil x hi lo h
  generalize hi*18446744073709551616 - lo=C at *
  have e1:(x - g)*C+(x+g)*C=2*(x*C):=by rw [← Nat.add_mul,show x - g+(x+g)=2*x from by omega,Nat.mul_assoc]
  omega
theorem wide_ends (x g:Nat) (e p:Int) (hg:g≤x) (hp0:-348≤p) (hp1:p≤347) (h:okW g e p=true) :
    NN (x - g) (tabHi (p+348).toNat) (tabLo (p+348).toNat)+4*(18446744073709551616*2 ^ sOf e p)+2≤NN (x+g) (tabHi (p+348).toNat) (tabLo (p+348).toNat):=by
  have h1:=tab_fit (p+348).toNat (by omega)
  have h2:=tab_top (p+348).toNat (by omega)
  have a:=NN_ceil (x - g) (tabHi (p+348).toNat) (tabLo (p+348).toNat) (by omega)
  have b:=NN_ceil (x+g) (tabHi (p+348).toNat) (tabLo (p+348).toNat) (by omega)
  have w:=of_decide_eq_true h
  generalize tabHi (p+348).toNat*18446744073709551616 - tabLo (p+348).toNat=C at *
  have e1:(x+g)*C=(x - g)*C+2*g*C:=by rw [← Nat.add_mul];congr 1;omega
  generalize 18446744073709551616*2 ^ sOf e p=D at *
  generalize 2*g*C=G at *
  generalize (x - g)*C=X at *
  rw [e1] at b
  omega
theorem pick_sym (x g odd:Nat) (e p:Int) (hx0:4611686018427387904≤x - g) (hg:g≤x) (hx:x+g < 18446744073709551616) (ho:odd≤1) (hE:okE e p=true) (hW:okW g e p=true) :
    dLow (scl (x - g) e p) odd≤inUnits (pick x (x - g) (x+g) odd e p) p∧inUnits (pick x (x - g) (x+g) odd e p) p≤dHigh (scl (x+g) e p) odd∧((pick x (x - g) (x+g) odd e p).2=-p∨(pick x (x - g) (x+g) odd e p).2=-p+1):=by
  have hE':=hE
  unfold okE at hE'
  simp only [Bool.and_eq_true,decide_eq_true_eq] at hE'
  obtain ⟨⟨⟨s0,s1⟩,hp0⟩,hp1⟩:=hE'
  have u1:=scl_between (x - g) e p hx0 (by omega) hE
  have u2:=scl_between x e p (by omega) (by omega) hE
  have u3:=scl_between (x+g) e p (by omega) hx hE
  have hw:=wide_ends x g e p hg hp0 hp1 hW
  have h1:=tab_fit (p+348).toNat (by omega)
  have h2:=tab_top (p+348).toNat (by omega)
  have hs:=sym_ends x g (tabHi (p+348).toNat) (tabLo (p+348).toNat) hg (by omega)
  have hT:0 < 2 ^ sOf e p:=Nat.pow_pos (by decide)
  have f1:=scl_form (x - g) e p (by omega) hp0 hp1
  have f2:=scl_form x e p (by omega) hp0 hp1
  have f3:=scl_form (x+g) e p hx hp0 hp1
  have v1:=u1
  have v2:=u2
  have v3:=u3
  rw [f1] at v1
  rw [f2] at v2
  rw [f3] at v3
  apply pick_in
  · rw [f1,f3]
    exact low_high _ _ _ odd (by omega) hw ho (by omega) (by omega) (by omega)
  · intro hlt
    rw [f1,f3] at hlt
    rw [f1,f2,f3]
    exact mid_between _ _ _ _ odd (by omega) hs.1 hs.2 ho (by omega) (by omega) (by omega) (by omega) (by omega) hlt
end Go.Proofs.YtifapjammoahgaaGreatDoor.Rl
/- AT POWERS OF TWO: the digits rise, worked out. Own work of the verifier. -/
namespace Go.Proofs.YtifapjammoahgaaGreatDoor.Rl
open Go.RowKit
def ltV (r t:Nat × Int):Bool:=decide (r.1*10 ^ (r.2+400).toNat < t.1*10 ^ (t.2+400).toNat)
theorem rise_to (e:Int) (h0:-1084≤e) (h1:e≤960):ltV (shortF 18446744073709549568 (e - 1)) (shortF 9223372036854775808 e)=true:=by
  have h:(List.range 2045).all (fun i=>ltV (shortF 18446744073709549568 ((i:Int) - 1084 - 1)) (shortF 9223372036854775808 ((i:Int) - 1084)))=true:=by decide +kernel
  have:=List.all_eq_true.1 h (e+1084).toNat (List.mem_range.2 (by omega))
  rw [show (((e+1084).toNat:Nat):Int) - 1084=e from by omega] at this
  exact this
theorem rise_from (e:Int) (h0:-1084≤e) (h1:e≤960):ltV (shortF 9223372036854775808 e) (shortF 9223372036854777856 e)=true:=by
  have h:(List.range 2045).all (fun i=>ltV (shortF 9223372036854775808 ((i:Int) - 1084)) (shortF 9223372036854777856 ((i:Int) - 1084)))=true:=by decide +kernel
  have:=List.all_eq_true.1 h (e+1084).toNat (List.mem_range.2 (by omega))
  rw [show (((e+1084).toNat:Nat):Int) - 1084=e from by omega] at this
  exact this
end Go.Proofs.YtifapjammoahgaaGreatDoor.Rl
/- WHOLE NUMBERS FROM 2^52 ON: the ends are halves. Own work of the verifier. -/
namespace Go.Proofs.YtifapjammoahgaaGreatDoor.Rl
open Go.RowKit
theorem tab_one:tabHi 348=9223372036854775808∧tabLo 348=0:=by decide +kernel
theorem scl_eleven (y:Nat) (hy:y < 36028797018963968):scl (y*512) (-11) 0=y:=by
  rw [scl_form _ _ _ (by omega) (by decide) (by decide),show ((0:Int)+348).toNat=348 from by decide,tab_one.1,tab_one.2,show sOf (-11) 0=8 from by decide]
  unfold cutD NN
  rw [show y*512*9223372036854775808 - y*512*0 / 18446744073709551616=18446744073709551616*2 ^ 8*y+0 from by omega]
  rw [(div_parts (18446744073709551616*2 ^ 8) y 0 (by decide)).1,(div_parts (18446744073709551616*2 ^ 8) y 0 (by decide)).2]
  exact Nat.or_zero _
theorem pick_eleven (f odd:Nat) (h0:4503599627370496≤f) (h1:f < 9007199254740992) (ho:odd≤1) :
    dLow (scl (f*2048 - 1024) (-11) 0) odd=f∧dHigh (scl (f*2048+1024) (-11) 0) odd=f∧inUnits (pick (f*2048) (f*2048 - 1024) (f*2048+1024) odd (-11) 0) 0=f:=by
  have a:dLow (scl (f*2048 - 1024) (-11) 0) odd=f:=by
    rw [show f*2048 - 1024=(4*f - 2)*512 from by omega,scl_eleven _ (by omega),dLow_small _ _ (by omega) ho];omega
  have b:dHigh (scl (f*2048+1024) (-11) 0) odd=f:=by
    rw [show f*2048+1024=(4*f+2)*512 from by omega,scl_eleven _ (by omega),dHigh_small _ _ (by omega) (by omega) ho];omega
  have c:=pick_in (f*2048) (f*2048 - 1024) (f*2048+1024) odd (-11) 0 (by omega) (by omega)
  exact ⟨a,b,by omega⟩
end Go.Proofs.YtifapjammoahgaaGreatDoor.Rl
/- WITHIN A BINADE the values rise. Own work of the verifier. -/
namespace Go.Proofs.YtifapjammoahgaaGreatDoor.Rl
open Go.RowKit
theorem units_val (r:Nat × Int) (p:Int) (hp:p≤400) (hr:r.2=-p∨r.2=-p+1):r.1*10 ^ (r.2+400).toNat=inUnits r p*10 ^ (-p+400).toNat:=by
  unfold inUnits
  rcases hr with h | h
  · rw [if_pos h,h]
  · rw [if_neg (by omega),h,show (-p+1+400).toNat=(-p+400).toNat+1 from by omega,Nat.pow_succ,Nat.mul_assoc,Nat.mul_comm 10]
theorem ltV_of (r t:Nat × Int) (p:Int) (hp:p≤400) (hr:r.2=-p∨r.2=-p+1) (ht:t.2=-p∨t.2=-p+1) (h:inUnits r p < inUnits t p):ltV r t=true:=by
  unfold ltV
  rw [units_val r p hp hr,units_val t p hp ht]
  exact decide_eq_true (Nat.mul_lt_mul_of_pos_right h (Nat.pow_pos (by decide)))
theorem pick_two (m mn mx odd:Nat) (e p:Int):(pick m mn mx odd e p).2=-p∨(pick m mn mx odd e p).2=-p+1:=by
  unfold pick
  split
  · exact Or.inr (by show -(p - 1)=-p+1;omega)
  · split
    · exact Or.inl rfl
    · exact Or.inl rfl
theorem short_norm (f:Nat) (e:Int) (hf:f≠4503599627370496∨e=-1085) (he:-1085≤e):shortF (f*2048) e=pick (f*2048) (f*2048 - 1024) (f*2048+1024) (f % 2) e (-(l10 (e+11))):=by
  unfold shortF
  rw [if_neg (by omega),if_pos he,Nat.mul_div_cancel _ (by decide)]
theorem rise_in (f:Nat) (e:Int) (hf0:4503599627370496 < f∨f=4503599627370496∧e=-1085) (hf1:f+1 < 9007199254740992) (he0:-1085≤e) (he1:e≤1000):ltV (shortF (f*2048) e) (shortF ((f+1)*2048) e)=true:=by
  rw [short_norm f e (by omega) he0,short_norm (f+1) e (by omega) he0]
  have hE:=(ok_norm e he0 he1).1
  have hp:-(l10 (e+11))≤347:=by
    unfold okE at hE
    simp only [Bool.and_eq_true,decide_eq_true_eq] at hE
    exact hE.2
  refine ltV_of _ _ (-(l10 (e+11))) (by omega) (pick_two ..) (pick_two ..) ?_
  by_cases hz:e=-11
  · subst hz
    have a:=(pick_eleven f (f % 2) (by omega) (by omega) (by omega)).2.2
    have b:=(pick_eleven (f+1) ((f+1) % 2) (by omega) (by omega) (by omega)).2.2
    rw [show -(l10 (-11+11))=0 from by decide,a,b]
    omega
  · have hW:=wide_norm e he0 he1 hz
    have a:=(pick_sym (f*2048) 1024 (f % 2) e _ (by omega) (by omega) (by omega) (by omega) hE hW).2.1
    have b:=(pick_sym ((f+1)*2048) 1024 ((f+1) % 2) e _ (by omega) (by omega) (by omega) (by omega) hE hW).1
    have u:=scl_between (f*2048+1024) e _ (by omega) (by omega) hE
    have c:=high_low (scl (f*2048+1024) e (-(l10 (e+11)))) (f % 2) (by omega) (by omega) (by omega)
    rw [show (f+1)*2048 - 1024=f*2048+1024 from by omega,show (f+1) % 2=1 - f % 2 from by omega] at b
    rw [show (f+1)*2048 - 1024=f*2048+1024 from by omega,show (f+1) % 2=1 - f % 2 from by omega]
    exact Nat.lt_of_le_of_lt a (Nat.lt_of_lt_of_le c b)
end Go.Proofs.YtifapjammoahgaaGreatDoor.Rl
/- AT POWERS OF TWO BELOW THE LEAST NORMAL FLOAT, and at that one. Own work of the verifier. -/
namespace Go.Proofs.YtifapjammoahgaaGreatDoor.Rl
open Go.RowKit
theorem rise_sub (k:Nat) (h0:1≤k) (h1:k≤52):ltV (shortF ((2 ^ k - 1)*2 ^ (64 - k)) (-1074 - ((64 - k:Nat):Int))) (shortF 9223372036854775808 (-1074 - ((63 - k:Nat):Int)))=true:=by
  have h:(List.range 53).all (fun k=>k == 0 || ltV (shortF ((2 ^ k - 1)*2 ^ (64 - k)) (-1074 - ((64 - k:Nat):Int))) (shortF 9223372036854775808 (-1074 - ((63 - k:Nat):Int))))=true:=by decide +kernel
  have:=List.all_eq_true.1 h k (List.mem_range.2 (by omega))
  rw [Bool.or_eq_true] at this
  rcases this with q | q
  · have:=eq_of_beq q;omega
  · exact q
end Go.Proofs.YtifapjammoahgaaGreatDoor.Rl
