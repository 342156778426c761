/- ftoa64 at every finite float but 0. Own work of the verifier. -/
import Derived.Test.YtlgfgeacphkhnaaGreatDoorWAP
import Derived.Lib.AppendStr
import Derived.Laws.FloatArith
import Derived.Test.YtlgfgeacphkhnaaGreatDoorWAN
namespace Go.Proofs.YtlgfgeacphkhnaaGreatDoor.Rl
open Go.RowKit Go.Sort

def fTxt (neg : Bool) (u k : Nat) (dp : Int) : List Int :=
 if dp ≤ 0 then (if neg then [45] else []) ++ [48, 46] ++ List.replicate (-dp).toNat 48 ++ (dI u).take k
 else if (k : Int) ≤ dp then (if neg then [45] else []) ++ (dI u).take k ++ List.replicate (dp.toNat - k) 48
 else (if neg then [45] else []) ++ (dI u).take dp.toNat ++ [46] ++ behind u dp.toNat k
theorem fmtF_any (neg : Bool) (B g u k : Nat) (dp : Int) (W0 w : World) (v : Value) (hu : 1 ≤ u) (hu1 : u < 18446744073709551616) (hdp0 : -390 ≤ dp) (hdp1 : dp ≤ 390) (ht : Trim u k) (hbuf : Buf B (some (g, u)) W0 v [] w) :
  Calls Tryz.prog 214 #[v, .bool neg, .slice (some ⟨g, 0, none⟩) 32 32, .int .i64 dp, .int .i64 (k : Int), .int .i64 (max ((k : Int) - dp) 0), .int .u8 102, .bool true] w fun r w' => ∃ v' o, r = .returned v' ∧ Buf B o W0 v' (fTxt neg u (trimLen u) dp) w' := by
 have hk1 := trim_pos hu ht
 have hk2 := ht.1
 have hk3 := Lib.nDigits_le20 u hu1
 rw [← trim_len ht]
 have hl := dI_length u
 unfold fTxt
 by_cases h1 : dp ≤ 0
 ·rw [if_pos h1, show max ((k : Int) - dp) 0 = ((k + (-dp).toNat : Nat) : Int) from by omega]
  have h := fmtF_below neg B g u k (-dp).toNat (k + (-dp).toNat) dp W0 w v hbuf hk1 (by omega) (by omega) (by omega) (by omega) rfl
  exact h.mono fun r w' ⟨v', a, b⟩ => ⟨v', _, a, b⟩
 ·rw [if_neg h1]
  obtain ⟨D, hD⟩ : ∃ D : Nat, dp = (D : Int) := ⟨dp.toNat, by omega⟩
  subst hD
  rw [Int.toNat_natCast]
  by_cases h2 : (k : Int) ≤ (D : Int)
  ·rw [if_pos h2, show max ((k : Int) - (D : Int)) 0 = 0 from by omega]
   have h := fmtF_whole neg B g u k D W0 w v hbuf hk1 (by omega) (by omega) (by omega) (by omega)
   exact h.mono fun r w' ⟨v', a, b⟩ => ⟨v', _, a, b⟩
  ·rw [if_neg h2, show max ((k : Int) - (D : Int)) 0 = ((k - D : Nat) : Int) from by omega]
   have h := fmtF_mid neg B g u k D (k - D) W0 w v hbuf (by omega) (by omega) (by omega) (by omega) rfl
   exact h.mono fun r w' ⟨v', a, b⟩ => ⟨v', _, a, b⟩
def sd (x : Nat) : Nat × Int :=
 if x % 9223372036854775808 < 4503599627370496 then shortF (x % 4503599627370496 * 2 ^ (64 - Lib.bitLen (x % 4503599627370496))) (-1074 - ((64 - Lib.bitLen (x % 4503599627370496) : Nat) : Int))
 else shortF ((4503599627370496 + x % 4503599627370496) * 2048) ((x / 4503599627370496 % 2048 : Nat) - 1086)
theorem sub_bits (f : Nat) (h0 : 1 ≤ f) (h1 : f < 4503599627370496) : ∃ z : Nat, 64 - Lib.bitLen f = z ∧ 64 - (Lib.bitLen f : Int) = (z : Int) ∧ 12 ≤ z ∧ z ≤ 63 ∧ 9223372036854775808 ≤ f * 2 ^ z ∧ f * 2 ^ z < 18446744073709551616 ∧ f * 2 ^ z % 2 ^ z = 0 ∧ f * 2 ^ z + 2 ^ (z - 1) < 18446744073709551616 := by
 obtain ⟨a, b, c⟩ := len_bounds f (by omega) (by omega)
 have k1 : Lib.bitLen f - 1 < 52 := (Nat.pow_lt_pow_iff_right (by decide : 1 < 2)).1 (Nat.lt_of_le_of_lt b (by rw [show (2 : Nat) ^ 52 = 4503599627370496 from by decide]; exact h1))
 refine ⟨64 - Lib.bitLen f, rfl, by omega, by omega, by omega, ?_, ?_, Nat.mul_mod_left _ _, ?_⟩
 ·have := Nat.mul_le_mul_right (2 ^ (64 - Lib.bitLen f)) b
  rw [← Nat.pow_add, show Lib.bitLen f - 1 + (64 - Lib.bitLen f) = 63 from by omega] at this
  exact this
 ·have := Nat.mul_lt_mul_of_pos_right c (show 0 < 2 ^ (64 - Lib.bitLen f) from Nat.pow_pos (by decide))
  rw [← Nat.pow_add, show Lib.bitLen f + (64 - Lib.bitLen f) = 64 from by omega] at this
  exact this
 ·have h2 := Nat.mul_le_mul_right (2 ^ (64 - Lib.bitLen f)) (show f + 1 ≤ 2 ^ Lib.bitLen f from c)
  rw [← Nat.pow_add, show Lib.bitLen f + (64 - Lib.bitLen f) = 64 from by omega, Nat.add_mul, Nat.one_mul] at h2
  have h3 : 2 ^ (64 - Lib.bitLen f) = 2 * 2 ^ (64 - Lib.bitLen f - 1) := by rw [← Nat.pow_succ', show (64 - Lib.bitLen f - 1).succ = 64 - Lib.bitLen f from by omega]
  have h4 : 0 < 2 ^ (64 - Lib.bitLen f - 1) := Nat.pow_pos (by decide)
  have h5 : (2 : Nat) ^ 64 = 18446744073709551616 := by decide
  omega
theorem ftoaE_all (x : Nat) (hx : x < 18446744073709551616) (h0 : x % 9223372036854775808 ≠ 0) (h1 : x % 9223372036854775808 < 9218868437227405312) (B : Nat) (W0 w : World) (v : Value) (hbuf : Buf B none W0 v [] w) (hGl : Glob w) :
  Calls Tryz.prog 197 #[v, .float .f64 x, .int .u8 101, .int .i64 (-1)] w fun r w' => ∃ v' o, r = .returned v' ∧ Buf B o W0 v' (eTxt (decide (9223372036854775808 ≤ x)) (sd x).1 (trimLen (sd x).1) ((Lib.nDigits (sd x).1 : Int) + (sd x).2)) w' := by
 have n1 := neg_bit x hx
 have n2 := ex_field x hx
 have n3 := fr_field x hx
 by_cases hs : x % 9223372036854775808 < 4503599627370496
 ·have hE0 : x / 4503599627370496 % 2048 = 0 := by omega
  rw [hE0] at n2
  obtain ⟨z, z1, z2, z3, z4, z5, z6, z7, z8⟩ := sub_bits (x % 4503599627370496) (by omega) (by omega)
  have hsd : sd x = shortF (x % 4503599627370496 * 2 ^ z) (-1074 - (z : Int)) := by unfold sd; rw [if_pos hs, z1]
  rw [hsd]
  have hb := short_between (x % 4503599627370496 * 2 ^ z) (-1074 - (z : Int)) z5 z6 (by omega) (fun _ => by rw [show (-1075 - (-1074 - (z : Int))).toNat = z - 1 from by omega]; exact z8) (by omega) (by omega)
  generalize hr : shortF (x % 4503599627370496 * 2 ^ z) (-1074 - (z : Int)) = R at *
  obtain ⟨u, p⟩ := R
  obtain ⟨b1, b2, b3, b4⟩ := hb
  simp only at b1 b2 b3 b4 ⊢
  have hn := Lib.nDigits_le20 u (by omega)
  refine ftoaE_sub _ x (x % 4503599627370496) (x % 4503599627370496 * 2 ^ z) u z (-1074 - (z : Int)) p B W0 w v _ hbuf hGl n1 n2 n3 (by omega) (by omega) hx z2 z3 z4 (by rw [Int.natCast_mul, Int.natCast_pow]; rfl) z5 z6 z7 rfl hr b1 (by omega) (by omega) (by omega) ?_
  intro g k W ht hb'
  exact fmtE_any _ B g u k _ W0 W v b1 (by omega) (by omega) (by omega) ht hb'
 ·have hsd : sd x = shortF ((4503599627370496 + x % 4503599627370496) * 2048) ((x / 4503599627370496 % 2048 : Nat) - 1086) := by unfold sd; rw [if_neg hs]
  rw [hsd]
  have hb := short_between ((4503599627370496 + x % 4503599627370496) * 2048) ((x / 4503599627370496 % 2048 : Nat) - 1086) (by omega) (by omega) (by omega) (by omega) (by omega) (by omega)
  generalize hr : shortF ((4503599627370496 + x % 4503599627370496) * 2048) (((x / 4503599627370496 % 2048 : Nat) : Int) - 1086) = R at *
  obtain ⟨u, p⟩ := R
  obtain ⟨b1, b2, b3, b4⟩ := hb
  simp only at b1 b2 b3 b4 ⊢
  have hn := Lib.nDigits_le20 u (by omega)
  refine ftoaE_w _ x (x / 4503599627370496 % 2048) (x % 4503599627370496) (4503599627370496 + x % 4503599627370496) ((4503599627370496 + x % 4503599627370496) * 2048) u _ p B W0 w v _ hbuf hGl n1 n2 n3 (by omega) (by omega) hx (hid_bit _ (by omega)) (by omega) (by omega) (len53 _ (by omega) (by omega)) (by omega) rfl hr b1 (by omega) (by omega) (by omega) ?_
  intro g k W ht hb'
  exact fmtE_any _ B g u k _ W0 W v b1 (by omega) (by omega) (by omega) ht hb'
theorem ftoaF_all (x : Nat) (hx : x < 18446744073709551616) (h0 : 4503599627370496 ≤ x % 9223372036854775808) (h1 : x % 9223372036854775808 < 9218868437227405312) (B : Nat) (W0 w : World) (v : Value) (hbuf : Buf B none W0 v [] w) (hGl : Glob w) :
  Calls Tryz.prog 197 #[v, .float .f64 x, .int .u8 102, .int .i64 (-1)] w fun r w' => ∃ v' o, r = .returned v' ∧ Buf B o W0 v' (fTxt (decide (9223372036854775808 ≤ x)) (sd x).1 (trimLen (sd x).1) ((Lib.nDigits (sd x).1 : Int) + (sd x).2)) w' := by
 have n1 := neg_bit x hx
 have n2 := ex_field x hx
 have n3 := fr_field x hx
 have hsd : sd x = shortF ((4503599627370496 + x % 4503599627370496) * 2048) ((x / 4503599627370496 % 2048 : Nat) - 1086) := by unfold sd; rw [if_neg (by omega)]
 rw [hsd]
 have hb := short_between ((4503599627370496 + x % 4503599627370496) * 2048) ((x / 4503599627370496 % 2048 : Nat) - 1086) (by omega) (by omega) (by omega) (by omega) (by omega) (by omega)
 generalize hr : shortF ((4503599627370496 + x % 4503599627370496) * 2048) (((x / 4503599627370496 % 2048 : Nat) : Int) - 1086) = R at *
 obtain ⟨u, p⟩ := R
 obtain ⟨b1, b2, b3, b4⟩ := hb
 simp only at b1 b2 b3 b4 ⊢
 have hn := Lib.nDigits_le20 u (by omega)
 refine ftoaF_w _ x (x / 4503599627370496 % 2048) (x % 4503599627370496) (4503599627370496 + x % 4503599627370496) ((4503599627370496 + x % 4503599627370496) * 2048) u _ p B W0 w v _ hbuf hGl n1 n2 n3 (by omega) (by omega) hx (hid_bit _ (by omega)) (by omega) (by omega) (len53 _ (by omega) (by omega)) (by omega) rfl hr b1 (by omega) (by omega) (by omega) ?_
 intro g k W ht hb'
 exact fmtF_any _ B g u k _ W0 W v b1 (by omega) (by omega) (by omega) ht hb'
end Go.Proofs.YtlgfgeacphkhnaaGreatDoor.Rl
/- ftoa64 AT INFINITIES AND NaN. Own work of the verifier. -/
namespace Go.Proofs.YtlgfgeacphkhnaaGreatDoor.Rl
open Go.RowKit Go.Sort

set_option maxHeartbeats 1000000 in
set_option maxRecDepth 100000 in
theorem ftoaF_special (neg nan : Bool) (x f : Nat) (B : Nat) (W0 w : World) (v : Value) (hbuf : Buf B none W0 v [] w)
  (hneg : ((x : Int) / 9223372036854775808 != 0) = neg) (hE : bits .and .i64 ((x : Int) / 4503599627370496) 2047 = 2047) (hf : bits .and .u64 (x : Int) 4503599627370495 = (f : Int)) (hn : ((f : Int) != 0) = nan) (hx : x < 18446744073709551616) :
  Calls Tryz.prog 197 #[v, .float .f64 x, .int .u8 102, .int .i64 (-1)] w fun r w' => ∃ v' o, r = .returned v' ∧ Buf B o W0 v' (if nan then [78, 97, 78] else if neg then [45, 73, 110, 102] else [43, 73, 110, 102]) w' := by
 obtain ⟨i0, hi, hz0, hz1, hz2⟩ := info_parts infoByte
 obtain ⟨T, HT⟩ : ∃ T : List Int, Hid ((if nan then [78, 97, 78] else if neg then [45, 73, 110, 102] else [43, 73, 110, 102]) = T) := ⟨_, rfl⟩
 rw [HT.out]
 cases nan
 ·cases neg
  all_goals
   go_enter Tryz.func197, Tryz.ntmps197
   go_wp2_with (first
    | simp only [f64bits]
    | fail)
   go_quiet (fail)
   have hbuf := hbuf.step (Below.drewN' (Below.refl _ _) nq)
   go_wp2_with (first
    | (at_builtin; refine Lib.wpList_append_own_string _ rfl _ _ 41 9 rfl B 5 i0 Tryz.underlying41 Tryz.underlying9 hi hz0 hz1 hz2 _ _ _ rfl hbuf.own _ rfl (by decide) (by decide) hbuf.size ?_; intro v w hown hgrow hnil)
    | fail)
   go_ret
   refine ⟨_, none, rfl, ?_⟩
   rw [← HT.out]
   exact hbuf.grow (World.grownBy.refl _ _) 4 rfl hown hgrow hnil (by decide)
 ·go_enter Tryz.func197, Tryz.ntmps197
  go_wp2_with (first
   | simp only [f64bits]
   | fail)
  go_quiet (fail)
  have hbuf := hbuf.step (Below.drewN' (Below.refl _ _) nq)
  go_wp2_with (first
   | (at_builtin; refine Lib.wpList_append_own_string _ rfl _ _ 41 9 rfl B 5 i0 Tryz.underlying41 Tryz.underlying9 hi hz0 hz1 hz2 _ _ _ rfl hbuf.own _ rfl (by decide) (by decide) hbuf.size ?_; intro v w hown hgrow hnil)
   | fail)
  go_ret
  refine ⟨_, none, rfl, ?_⟩
  rw [← HT.out]
  exact hbuf.grow (World.grownBy.refl _ _) 3 rfl hown hgrow hnil (by decide)
end Go.Proofs.YtlgfgeacphkhnaaGreatDoor.Rl
/- FormatFloat. Own work of the verifier. -/
namespace Go.Proofs.YtlgfgeacphkhnaaGreatDoor.Rl
open Go.RowKit Go.Sort

def asI (bs : List UInt8) : List Int := bs.map fun b => (b.toNat : Int)
theorem Buf.text {B : Nat} {o : Option (Nat × Nat)} {W0 w : World} {v : Value} {bs : List UInt8} (h : Buf B o W0 v (asI bs) w) : ∃ g cap, v = .slice (some ⟨g, 0, none⟩) bs.length cap ∧
  (convert 41 9 (.slice (some ⟨g, 0, none⟩) bs.length cap)).run Tryz.prog w = .ok (.string ⟨bs.toArray⟩) w := by
 obtain ⟨g, cap, cur, hv, hB, hcur⟩ := own_of h.own h.nz
 have hl : (asI bs).length = bs.length := by simp [asI]
 rw [hl] at hv
 refine ⟨g, cap, hv, ?_⟩
 have hown := h.own
 rw [hl, hv] at hown
 exact run_convert_bytes_back w 41 9 5 ⟨g, 0, none⟩ cap bs Tryz.underlying41 Tryz.underlying5 Tryz.underlying9 (fun i hi' => by
  exact hown.cells (g := g) rfl i _ (by simp [asI, hi']))
set_option maxHeartbeats 1000000 in
set_option maxRecDepth 100000 in
theorem format_of (x : Nat) (fmt : Int) (bs : List UInt8) (w : World) (hGl : Glob w)
  (HF : Hid (∀ (v : Value) (W : World), Buf w.heap.size none w v [] W → Glob W → Calls Tryz.prog 197 #[v, .float .f64 x, .int .u8 fmt, .int .i64 (-1)] W fun r w' => ∃ v' o, r = .returned v' ∧ Buf w.heap.size o w v' (asI bs) w')) :
  Calls Tryz.prog 174 #[.float .f64 x, .int .u8 fmt, .int .i64 (-1), .int .i64 64] w fun r w' => r = .returned (.string ⟨bs.toArray⟩) ∧ Below w.heap.size w w' := by
 obtain ⟨i0, hi, hz0, hz1, hz2⟩ := info_parts infoByte
 go_enter Tryz.func174, Tryz.ntmps174
 go_wp2_with (first
  | (at_make; refine wpList_make_own _ rfl _ _ 41 rfl w.heap.size 5 i0 (.int .u8 0) 1 Tryz.underlying41 hi hz0 hz1 _ _ _ 24 rfl rfl (by decide) (by rw [hz2]; decide) (by unfold maxLen; decide) (Nat.le_refl _) ?_; intro w1 hown hgrow)
  | fail)
 have hb1 : Below w.heap.size w w1 := (Below.refl _ _).grown hgrow (Nat.le_refl _) (fun k e => by cases e)
 have hbuf : Buf w.heap.size none w (.slice (some ⟨w.heap.size, 0, none⟩) 0 24) [] w1 := ⟨hown, by simp, hb1, hb1.size, by decide, fun g u e => by cases e⟩
 refine (HF.out _ w1 hbuf (hGl.below hb1)).mono ?_
 rintro r w2 ⟨v', o, rfl, hb2⟩
 obtain ⟨g, cap, rfl, hcv⟩ := hb2.text
 go_wp2
 go_ret
 exact ⟨rfl, hb2.below⟩
set_option maxHeartbeats 1000000 in
set_option maxRecDepth 100000 in
theorem Format_of (x : Nat) (fmt : Int) (bs : List UInt8) (w : World) (hGl : Glob w)
  (HF : Hid (∀ (v : Value) (W : World), Buf w.heap.size none w v [] W → Glob W → Calls Tryz.prog 197 #[v, .float .f64 x, .int .u8 fmt, .int .i64 (-1)] W fun r w' => ∃ v' o, r = .returned v' ∧ Buf w.heap.size o w v' (asI bs) w')) :
  Calls Tryz.prog 132 #[.float .f64 x, .int .u8 fmt, .int .i64 (-1), .int .i64 64] w fun r w' => r = .returned (.string ⟨bs.toArray⟩) ∧ Below w.heap.size w w' := by
 go_enter Tryz.func132, Tryz.ntmps132
 go_wp2_with fail
 refine (format_of x fmt bs w hGl HF).mono ?_
 rintro r w2 ⟨rfl, hb2⟩
 go_wp2
 go_ret
 exact ⟨rfl, hb2⟩
end Go.Proofs.YtlgfgeacphkhnaaGreatDoor.Rl
/- FormatFloat AT EVERY FLOAT. Own work of the verifier. -/
namespace Go.Proofs.YtlgfgeacphkhnaaGreatDoor.Rl
open Go.RowKit Go.Sort

def sgn (neg : Bool) : List UInt8 := if neg then [45] else []
def fB (neg : Bool) (u k : Nat) (dp : Int) : List UInt8 :=
 if dp ≤ 0 then sgn neg ++ [48, 46] ++ List.replicate (-dp).toNat 48 ++ (Lib.decDigits u).take k
 else if (k : Int) ≤ dp then sgn neg ++ (Lib.decDigits u).take k ++ List.replicate (dp.toNat - k) 48
 else sgn neg ++ (Lib.decDigits u).take dp.toNat ++ [46] ++ ((Lib.decDigits u).take k).drop dp.toNat
theorem fB_txt (neg : Bool) (u k : Nat) (dp : Int) : asI (fB neg u k dp) = fTxt neg u k dp := by
 unfold fB fTxt sgn asI dI behind
 by_cases h : dp ≤ 0
 ·rw [if_pos h, if_pos h]; cases neg <;> simp [List.map_take]
 ·rw [if_neg h, if_neg h]
  by_cases h' : (k : Int) ≤ dp
  ·rw [if_pos h', if_pos h']; cases neg <;> simp [List.map_take]
  ·rw [if_neg h', if_neg h']; cases neg <;> simp [List.map_take, List.map_drop, dI]
def xDig (E : Nat) : List UInt8 := if E < 10 then [48, UInt8.ofNat (E + 48)] else if E < 100 then [UInt8.ofNat (E / 10 + 48), UInt8.ofNat (E % 10 + 48)] else [UInt8.ofNat (E / 100 + 48), UInt8.ofNat (E / 10 % 10 + 48), UInt8.ofNat (E % 10 + 48)]
def xTail (dp : Int) : List UInt8 := if dp - 1 < 0 then 45 :: xDig (1 - dp).toNat else 43 :: xDig (dp - 1).toNat
def eHead (neg : Bool) (u k : Nat) : List UInt8 := if k = 1 then sgn neg ++ [(Lib.decDigits u).getD 0 0] else sgn neg ++ [(Lib.decDigits u).getD 0 0, 46] ++ ((Lib.decDigits u).take k).drop 1
def eB (neg : Bool) (u k : Nat) (dp : Int) : List UInt8 := eHead neg u k ++ 101 :: xTail dp
theorem xDig_I : ∀ E < 400, asI (xDig E) = eDig E := by decide +kernel
theorem xTail_I (dp : Int) (h0 : -390 ≤ dp) (h1 : dp ≤ 390) : asI (101 :: xTail dp) = eTail dp := by
 unfold xTail eTail
 by_cases h : dp - 1 < 0
 ·rw [if_pos h, if_pos h, ← xDig_I _ (by omega)]; rfl
 ·rw [if_neg h, if_neg h, ← xDig_I _ (by omega)]; rfl
theorem first_I (u : Nat) : (dI u).getD 0 0 = (((Lib.decDigits u).getD 0 0).toNat : Int) := by
 unfold dI
 cases Lib.decDigits u <;> rfl
theorem eB_txt (neg : Bool) (u k : Nat) (dp : Int) (h0 : -390 ≤ dp) (h1 : dp ≤ 390) : asI (eB neg u k dp) = eTxt neg u k dp := by
 unfold eB eTxt
 rw [← xTail_I dp h0 h1, first_I]
 unfold eHead asI sgn mid dI
 by_cases h : k = 1
 ·rw [if_pos h, if_pos h]; cases neg <;> simp
 ·rw [if_neg h, if_neg h]; cases neg <;> simp [List.map_take]
def pt (x : Nat) : Int := (Lib.nDigits (sd x).1 : Int) + (sd x).2
theorem sd_bounds (x : Nat) (h0 : x % 9223372036854775808 ≠ 0) (h1 : x % 9223372036854775808 < 9218868437227405312) : 1 ≤ (sd x).1 ∧ (sd x).1 < 288230376151711744 ∧ -350 ≤ (sd x).2 ∧ (sd x).2 ≤ 350 := by
 by_cases hs : x % 9223372036854775808 < 4503599627370496
 ·obtain ⟨z, z1, z2, z3, z4, z5, z6, z7, z8⟩ := sub_bits (x % 4503599627370496) (by omega) (by omega)
  have hsd : sd x = shortF (x % 4503599627370496 * 2 ^ z) (-1074 - (z : Int)) := by unfold sd; rw [if_pos hs, z1]
  rw [hsd]
  exact short_between (x % 4503599627370496 * 2 ^ z) (-1074 - (z : Int)) z5 z6 (by omega) (fun _ => by rw [show (-1075 - (-1074 - (z : Int))).toNat = z - 1 from by omega]; exact z8) (by omega) (by omega)
 ·have hsd : sd x = shortF ((4503599627370496 + x % 4503599627370496) * 2048) ((x / 4503599627370496 % 2048 : Nat) - 1086) := by unfold sd; rw [if_neg hs]
  rw [hsd]
  exact short_between ((4503599627370496 + x % 4503599627370496) * 2048) ((x / 4503599627370496 % 2048 : Nat) - 1086) (by omega) (by omega) (by omega) (by omega) (by omega) (by omega)
theorem pt_bounds (x : Nat) (h0 : x % 9223372036854775808 ≠ 0) (h1 : x % 9223372036854775808 < 9218868437227405312) : -390 ≤ pt x ∧ pt x ≤ 390 := by
 obtain ⟨a, b, c, d⟩ := sd_bounds x h0 h1
 have := Lib.nDigits_le20 (sd x).1 (by omega)
 unfold pt
 omega
noncomputable def eText (x : Nat) : List UInt8 := eB (decide (9223372036854775808 ≤ x)) (sd x).1 (trimLen (sd x).1) (pt x)
noncomputable def fText (x : Nat) : List UInt8 :=
 if x % 9223372036854775808 = 0 then (if 9223372036854775808 ≤ x then [45, 48] else [48])
 else if 9218868437227405312 < x % 9223372036854775808 then [78, 97, 78]
 else if x % 9223372036854775808 = 9218868437227405312 then (if 9223372036854775808 ≤ x then [45, 73, 110, 102] else [43, 73, 110, 102])
 else fB (decide (9223372036854775808 ≤ x)) (sd x).1 (trimLen (sd x).1) (pt x)
theorem Format_e (x : Nat) (hx : x < 18446744073709551616) (h0 : x % 9223372036854775808 ≠ 0) (h1 : x % 9223372036854775808 < 9218868437227405312) (w : World) (hGl : Glob w) :
  Calls Tryz.prog 132 #[.float .f64 x, .int .u8 101, .int .i64 (-1), .int .i64 64] w fun r w' => r = .returned (.string ⟨(eText x).toArray⟩) ∧ Below w.heap.size w w' := by
 refine Format_of x 101 (eText x) w hGl (fun v W hbuf hG => ?_)
 obtain ⟨p0, p1⟩ := pt_bounds x h0 h1
 unfold eText
 rw [eB_txt _ _ _ _ p0 p1]
 exact ftoaE_all x hx h0 h1 _ _ _ v hbuf hG
theorem Format_f (x : Nat) (hx : x < 18446744073709551616) (h0 : x % 9223372036854775808 = 0 ∨ 4503599627370496 ≤ x % 9223372036854775808) (w : World) (hGl : Glob w) :
  Calls Tryz.prog 132 #[.float .f64 x, .int .u8 102, .int .i64 (-1), .int .i64 64] w fun r w' => r = .returned (.string ⟨(fText x).toArray⟩) ∧ Below w.heap.size w w' := by
 refine Format_of x 102 (fText x) w hGl (fun v W hbuf hG => ?_)
 have n1 := neg_bit x hx
 have n2 := ex_field x hx
 have n3 := fr_field x hx
 by_cases c0 : x % 9223372036854775808 = 0
 ·have := ftoaF_zero _ x _ _ _ v hbuf n1 (by rw [n2]; omega) (by rw [n3]; omega) hx
  rw [show asI (fText x) = (if decide (9223372036854775808 ≤ x) then [45, 48] else [48]) from by unfold fText; rw [if_pos c0]; by_cases hn : 9223372036854775808 ≤ x <;> simp [hn, asI]]
  exact this
 ·by_cases c1 : x % 9223372036854775808 < 9218868437227405312
  ·rw [show fText x = fB (decide (9223372036854775808 ≤ x)) (sd x).1 (trimLen (sd x).1) (pt x) from by unfold fText; rw [if_neg c0, if_neg (by omega), if_neg (by omega)], fB_txt]
   exact ftoaF_all x hx (by omega) c1 _ _ _ v hbuf hG
  ·have := ftoaF_special _ (decide (9218868437227405312 < x % 9223372036854775808)) x (x % 4503599627370496) _ _ _ v hbuf n1 (by rw [n2]; omega) n3 (by
    by_cases hn : 9218868437227405312 < x % 9223372036854775808
    ·rw [decide_eq_true hn, bne_iff_ne]; omega
    ·rw [decide_eq_false hn, bne_eq_false_iff_eq]; omega) hx
   refine this.mono ?_
   rintro r w' ⟨v', o, e, hb⟩
   refine ⟨v', o, e, ?_⟩
   have he : asI (fText x) = (if decide (9218868437227405312 < x % 9223372036854775808) then [78, 97, 78] else if decide (9223372036854775808 ≤ x) then [45, 73, 110, 102] else [43, 73, 110, 102]) := by
    unfold fText
    rw [if_neg c0]
    by_cases hn : 9218868437227405312 < x % 9223372036854775808
    ·simp [hn, asI]
    ·rw [if_neg hn, if_pos (by omega)]
     by_cases hm : 9223372036854775808 ≤ x <;> simp [hn, hm, asI]
   rw [he]
   exact hb
end Go.Proofs.YtlgfgeacphkhnaaGreatDoor.Rl
/- THE ORDER of floats of 64 bits, by their words (no Go in sight). Own work of the verifier. -/
namespace Go.Proofs.YtlgfgeacphkhnaaGreatDoor


def uV (a : Nat) : Nat := if a < 4503599627370496 then a else (4503599627370496 + a % 4503599627370496) * 2 ^ (a / 4503599627370496 - 1)
theorem uV_succ (a : Nat) : uV a < uV (a + 1) := by
 unfold uV
 by_cases h1 : a + 1 < 4503599627370496
 ·rw [if_pos (by omega), if_pos h1]; omega
 ·by_cases h2 : a < 4503599627370496
  ·obtain rfl : a = 4503599627370495 := by omega
   decide
  ·rw [if_neg h2, if_neg h1]
   have hp : 0 < 2 ^ (a / 4503599627370496 - 1) := Nat.pow_pos (by decide)
   by_cases h3 : (a + 1) % 4503599627370496 = 0
   ·have e1 : (a + 1) / 4503599627370496 - 1 = (a / 4503599627370496 - 1) + 1 := by omega
    rw [h3, e1, Nat.pow_succ]
    have e2 : a % 4503599627370496 = 4503599627370495 := by omega
    rw [e2]
    generalize 2 ^ (a / 4503599627370496 - 1) = p at *
    omega
   ·have e1 : (a + 1) / 4503599627370496 = a / 4503599627370496 := by omega
    have e2 : (a + 1) % 4503599627370496 = a % 4503599627370496 + 1 := by omega
    rw [e1, e2]
    exact Nat.mul_lt_mul_of_pos_right (by omega) hp
theorem uV_mono {a b : Nat} (h : a < b) : uV a < uV b := by
 induction b with
 | zero => omega
 | succ b ih =>
  rcases Nat.lt_or_eq_of_le (Nat.le_of_lt_succ h) with k | k
  ·exact Nat.lt_trans (ih k) (uV_succ b)
  ·rw [k]; exact uV_succ b

def magOf (a : Nat) : Nat := if a < 4503599627370496 then a else 4503599627370496 + a % 4503599627370496
def upOf (a : Nat) : Nat := if a < 4503599627370496 then 0 else a / 4503599627370496 - 1
theorem uV_eq (a : Nat) : magOf a * 2 ^ upOf a = uV a := by
 unfold magOf upOf uV; split <;> simp
theorem fmt : Ieee.double.signWeight = 9223372036854775808 ∧ Ieee.double.binade = 4503599627370496 ∧ Ieee.double.infRung = 9218868437227405312 ∧ Ieee.double.leastPlace = -1074 := by decide
theorem read_pos (a : Nat) (h : a < 9218868437227405312) : Ieee.double.read a = .number false (magOf a) (-1074 + (upOf a : Int)) := by
 obtain ⟨f1, f2, f3, f4⟩ := fmt
 have e1 : (a / 9223372036854775808 % 2 == 1) = false := by rw [beq_eq_false_iff_ne]; omega
 have e2 : a % 9223372036854775808 = a := by omega
 unfold Ieee.Format.read magOf upOf
 simp only [f1, f2, f3, f4, e1, e2]
 by_cases hl : a < 4503599627370496
 ·rw [if_pos hl, if_pos hl, if_pos hl]; rfl
 ·rw [if_neg hl, if_neg hl, if_neg hl, if_pos h]

theorem cmp_nat (x y : Nat) : compare ((x : Nat) : Int) ((y : Nat) : Int) = compare x y := by
 rcases Nat.lt_trichotomy x y with h | h | h
 ·rw [Nat.compare_eq_lt.2 h]; exact Int.compare_eq_lt.2 (by omega)
 ·subst h; simp
 ·rw [Nat.compare_eq_gt.2 h]; exact Int.compare_eq_gt.2 (by omega)
theorem cmp_mul (x y p : Nat) (hp : 0 < p) : compare (x * p) (y * p) = compare x y := by
 rcases Nat.lt_trichotomy x y with h | h | h
 ·rw [Nat.compare_eq_lt.2 h, Nat.compare_eq_lt.2 (Nat.mul_lt_mul_of_pos_right h hp)]
 ·subst h; simp
 ·rw [Nat.compare_eq_gt.2 h, Nat.compare_eq_gt.2 (Nat.mul_lt_mul_of_pos_right h hp)]
theorem cmp_uV (a b : Nat) : compare (uV a) (uV b) = compare a b := by
 rcases Nat.lt_trichotomy a b with h | h | h
 ·rw [Nat.compare_eq_lt.2 h, Nat.compare_eq_lt.2 (uV_mono h)]
 ·subst h; simp
 ·rw [Nat.compare_eq_gt.2 h, Nat.compare_eq_gt.2 (uV_mono h)]
theorem order_pos (a b : Nat) (ha : a < 9218868437227405312) (hb : b < 9218868437227405312) : Ieee.double.order a b = some (compare a b) := by
 unfold Ieee.Format.order
 rw [read_pos a ha, read_pos b hb]
 simp only [Ieee.Datum.order, Ieee.signed]
 congr 1
 rw [if_neg (by decide), if_neg (by decide), cmp_nat]
 have s1 : ∀ (m k : Nat), m <<< k = m * 2 ^ k := fun m k => Nat.shiftLeft_eq m k
 rw [s1, s1, ← cmp_uV a b, ← uV_eq a, ← uV_eq b]
 have hx : ∃ c : Nat, upOf a = (-1074 + (upOf a : Int) - min (-1074 + (upOf a : Int)) (-1074 + (upOf b : Int))).toNat + c ∧ upOf b = (-1074 + (upOf b : Int) - min (-1074 + (upOf a : Int)) (-1074 + (upOf b : Int))).toNat + c := by
  refine ⟨min (upOf a) (upOf b), ?_, ?_⟩ <;> omega
 obtain ⟨c, h1, h2⟩ := hx
 generalize (-1074 + (upOf a : Int) - min (-1074 + (upOf a : Int)) (-1074 + (upOf b : Int))).toNat = x at *
 generalize (-1074 + (upOf b : Int) - min (-1074 + (upOf a : Int)) (-1074 + (upOf b : Int))).toNat = y at *
 rw [h1, h2, Nat.pow_add, Nat.pow_add, ← Nat.mul_assoc, ← Nat.mul_assoc, cmp_mul _ _ _ (Nat.pow_pos (by decide))]


def sw (s : Bool) (a : Nat) : Nat := if s then 9223372036854775808 + a else a
def sv (s : Bool) (a : Nat) : Int := if s then -(uV a : Int) else (uV a : Int)
theorem read_sw (s : Bool) (a : Nat) (h : a < 9218868437227405312) : Ieee.double.read (sw s a) = .number s (magOf a) (-1074 + (upOf a : Int)) := by
 cases s with
 | false => exact read_pos a h
 | true =>
  obtain ⟨f1, f2, f3, f4⟩ := fmt
  show Ieee.double.read (9223372036854775808 + a) = _
  have e1 : ((9223372036854775808 + a) / 9223372036854775808 % 2 == 1) = true := by rw [beq_iff_eq]; omega
  have e2 : (9223372036854775808 + a) % 9223372036854775808 = a := by omega
  unfold Ieee.Format.read magOf upOf
  simp only [f1, f2, f3, f4, e1, e2]
  by_cases hl : a < 4503599627370496
  ·rw [if_pos hl, if_pos hl, if_pos hl]; rfl
  ·rw [if_neg hl, if_neg hl, if_neg hl, if_pos h]
theorem cmpI_mul (x y : Int) (p : Nat) (hp : 0 < p) : compare (x * (p : Int)) (y * (p : Int)) = compare x y := by
 have hp' : (0 : Int) < p := by omega
 rcases Int.lt_trichotomy x y with h | h | h
 ·rw [Int.compare_eq_lt.2 h, Int.compare_eq_lt.2 (Int.mul_lt_mul_of_pos_right h hp')]
 ·subst h; simp
 ·rw [Int.compare_eq_gt.2 h, Int.compare_eq_gt.2 (Int.mul_lt_mul_of_pos_right h hp')]
theorem sv_signed (s : Bool) (a x c : Nat) (h : upOf a = x + c) : sv s a = Ieee.signed s (magOf a) x * ((2 ^ c : Nat) : Int) := by
 unfold sv Ieee.signed
 rw [← uV_eq a, h, Nat.pow_add, ← Nat.mul_assoc, Nat.shiftLeft_eq]
 cases s with
 | false => simp only [Bool.false_eq_true, if_false]; rw [Int.natCast_mul (magOf a * 2 ^ x)]
 | true => simp only [if_true]; rw [Int.natCast_mul (magOf a * 2 ^ x), Int.neg_mul]
theorem order_sw (s t : Bool) (a b : Nat) (ha : a < 9218868437227405312) (hb : b < 9218868437227405312) : Ieee.double.order (sw s a) (sw t b) = some (compare (sv s a) (sv t b)) := by
 unfold Ieee.Format.order
 rw [read_sw s a ha, read_sw t b hb]
 simp only [Ieee.Datum.order]
 congr 1
 have hx : ∃ c : Nat, upOf a = (-1074 + (upOf a : Int) - min (-1074 + (upOf a : Int)) (-1074 + (upOf b : Int))).toNat + c ∧ upOf b = (-1074 + (upOf b : Int) - min (-1074 + (upOf a : Int)) (-1074 + (upOf b : Int))).toNat + c := by
  refine ⟨min (upOf a) (upOf b), ?_, ?_⟩ <;> omega
 obtain ⟨c, h1, h2⟩ := hx
 rw [sv_signed s a _ c h1, sv_signed t b _ c h2, cmpI_mul _ _ _ (Nat.pow_pos (by decide))]

def sr (s : Bool) (a : Nat) : Int := if s then -(a : Int) else (a : Int)
theorem cmp_congr {x y x' y' : Int} (h1 : x < y ↔ x' < y') (h2 : y < x ↔ y' < x') : compare x y = compare x' y' := by
 rcases Int.lt_trichotomy x y with h | h | h
 ·rw [Int.compare_eq_lt.2 h, Int.compare_eq_lt.2 (h1.1 h)]
 ·have e : x' = y' := by
   rcases Int.lt_trichotomy x' y' with k | k | k
   ·have := h1.2 k; omega
   ·exact k
   ·have := h2.2 k; omega
  rw [h, e]; simp
 ·rw [Int.compare_eq_gt.2 h, Int.compare_eq_gt.2 (h2.1 h)]
theorem uV_zero : uV 0 = 0 := by decide
theorem uV_lt_iff (a b : Nat) : uV a < uV b ↔ a < b := by
 constructor
 ·intro h
  rcases Nat.lt_trichotomy a b with k | k | k
  ·exact k
  ·subst k; omega
  ·have := uV_mono k; omega
 ·exact uV_mono
theorem cmp_sv (s t : Bool) (a b : Nat) : compare (sv s a) (sv t b) = compare (sr s a) (sr t b) := by
 have h1 := uV_lt_iff a b
 have h2 := uV_lt_iff b a
 have h3 := uV_lt_iff 0 a
 have h4 := uV_lt_iff 0 b
 rw [uV_zero] at h3 h4
 apply cmp_congr
 ·cases s <;> cases t <;> simp only [sv, sr, Bool.false_eq_true, if_false, if_true] <;> omega
 ·cases s <;> cases t <;> simp only [sv, sr, Bool.false_eq_true, if_false, if_true] <;> omega
theorem read_inf (s : Bool) : Ieee.double.read (sw s 9218868437227405312) = .infinity s := by cases s <;> decide
theorem order_all (s t : Bool) (a b : Nat) (ha : a ≤ 9218868437227405312) (hb : b ≤ 9218868437227405312) : Ieee.double.order (sw s a) (sw t b) = some (compare (sr s a) (sr t b)) := by
 rcases Nat.lt_or_eq_of_le ha with ha | ha
 ·rcases Nat.lt_or_eq_of_le hb with hb | hb
  ·rw [order_sw s t a b ha hb, cmp_sv]
  ·subst hb
   unfold Ieee.Format.order
   rw [read_sw s a ha, read_inf t]
   simp only [Ieee.Datum.order]
   cases t
   ·rw [if_neg (by decide)]; congr 1; symm; rw [Int.compare_eq_lt]; unfold sr; cases s <;> simp <;> omega
   ·rw [if_pos rfl]; congr 1; symm; rw [Int.compare_eq_gt]; unfold sr; cases s <;> simp <;> omega
 ·subst ha
  rcases Nat.lt_or_eq_of_le hb with hb | hb
  ·unfold Ieee.Format.order
   rw [read_sw t b hb, read_inf s]
   simp only [Ieee.Datum.order]
   cases s
   ·rw [if_neg (by decide)]; congr 1; symm; rw [Int.compare_eq_gt]; unfold sr; cases t <;> simp <;> omega
   ·rw [if_pos rfl]; congr 1; symm; rw [Int.compare_eq_lt]; unfold sr; cases t <;> simp <;> omega
  ·subst hb
   unfold Ieee.Format.order
   rw [read_inf s, read_inf t]
   cases s <;> cases t <;> decide
theorem read_nan (s : Bool) (a : Nat) (h : 9218868437227405312 < a) (h2 : a < 9223372036854775808) : ∃ f, Ieee.double.read (sw s a) = .nan s f := by
 obtain ⟨f1, f2, f3, f4⟩ := fmt
 have e1 : ((sw s a) / 9223372036854775808 % 2 == 1) = s := by
  unfold sw; cases s
  ·rw [if_neg (by decide), beq_eq_false_iff_ne]; omega
  ·rw [if_pos rfl, beq_iff_eq]; omega
 have e2 : sw s a % 9223372036854775808 = a := by unfold sw; cases s <;> simp <;> omega
 unfold Ieee.Format.read
 simp only [f1, f2, f3, f4, e1, e2]
 rw [if_neg (by omega), if_neg (by omega), if_neg (by omega)]
 exact ⟨_, rfl⟩
theorem order_nan1 (s : Bool) (a y : Nat) (h : 9218868437227405312 < a) (h2 : a < 9223372036854775808) : Ieee.double.order (sw s a) y = none := by
 obtain ⟨f, e⟩ := read_nan s a h h2
 unfold Ieee.Format.order
 rw [e]; rfl
theorem order_nan2 (s : Bool) (a x : Nat) (h : 9218868437227405312 < a) (h2 : a < 9223372036854775808) : Ieee.double.order x (sw s a) = none := by
 obtain ⟨f, e⟩ := read_nan s a h h2
 unfold Ieee.Format.order
 rw [e]
 cases Ieee.double.read x <;> rfl
theorem sw_of (x : Nat) (h : x < 18446744073709551616) : ∃ s a, x = sw s a ∧ a < 9223372036854775808 := by
 by_cases k : x < 9223372036854775808
 ·exact ⟨false, x, rfl, k⟩
 ·exact ⟨true, x - 9223372036854775808, by unfold sw; rw [if_pos rfl]; omega, by omega⟩
end Go.Proofs.YtlgfgeacphkhnaaGreatDoor
/- THE ORDER OF FLOATS, the code's: comparisons, signs. Own work of the verifier. -/
namespace Go.Proofs.YtlgfgeacphkhnaaGreatDoor.Rl
open Go.RowKit

def isN (x : Nat) : Bool := decide (9218868437227405312 < x % 9223372036854775808)
def ov (x : Nat) : Int := if x < 9223372036854775808 then (x : Int) else 9223372036854775808 - (x : Int)
theorem ov_sw (s : Bool) (a : Nat) (h : a < 9223372036854775808) : ov (sw s a) = sr s a := by
 unfold ov sw sr; cases s <;> simp <;> omega
theorem isN_sw (s : Bool) (a : Nat) (h : a < 9223372036854775808) : isN (sw s a) = decide (9218868437227405312 < a) := by
 unfold isN sw; congr 2; cases s <;> simp <;> omega
theorem ord_nan {x : Nat} (hx : x < 18446744073709551616) (h : isN x = true) (y : Nat) : FloatKind.f64.format.order x y = none ∧ FloatKind.f64.format.order y x = none := by
 obtain ⟨s, a, rfl, ha⟩ := sw_of x hx
 rw [isN_sw s a ha] at h
 have h := of_decide_eq_true h
 exact ⟨order_nan1 s a y h ha, order_nan2 s a y h ha⟩
theorem ord_num {x y : Nat} (hx : x < 18446744073709551616) (hy : y < 18446744073709551616) (h : isN x = false) (k : isN y = false) : FloatKind.f64.format.order x y = some (compare (ov x) (ov y)) := by
 obtain ⟨s, a, rfl, ha⟩ := sw_of x hx
 obtain ⟨t, b, rfl, hb⟩ := sw_of y hy
 rw [isN_sw s a ha] at h
 rw [isN_sw t b hb] at k
 have h := of_decide_eq_false h
 have k := of_decide_eq_false k
 rw [ov_sw s a ha, ov_sw t b hb]
 exact order_all s t a b (by omega) (by omega)
end Go.Proofs.YtlgfgeacphkhnaaGreatDoor.Rl
/- Print AT THREE FLOATS. Own work of the verifier. -/
namespace Go.Proofs.YtlgfgeacphkhnaaGreatDoor.Rl
open Go.RowKit Go.Sort

theorem mf64bits (x : Nat) (w : World) : (callFunc 50 #[.float .f64 x]).run Tryz.prog w = .ok (.value (.int .u64 (x : Int))) w := by
 rw [run_callFunc_extern Tryz.func50 (by kernel_rfl) (by kernel_rfl) (by kernel_rfl) (e := Extern.MathFloatBits.float64bits) (by kernel_rfl)]
 rfl
theorem mf64from (x : Int) (w : World) : (callFunc 171 #[.int .u64 x]).run Tryz.prog w = .ok (.value (.float .f64 x.toNat)) w := by
 rw [run_callFunc_extern Tryz.func171 (by kernel_rfl) (by kernel_rfl) (by kernel_rfl) (e := Extern.MathFloatBits.float64frombits) (by kernel_rfl)]
 rfl
theorem clear_sign (x : Nat) (h : x < 18446744073709551616) : bits .andNot .u64 (x : Int) 9223372036854775808 = ((x % 9223372036854775808 : Nat) : Int) := by
 have := u64_andNot_nat x 9223372036854775808 (by omega) (by decide)
 rw [show ((9223372036854775808 : Nat) : Int) = 9223372036854775808 from rfl] at this
 rw [this, show 18446744073709551615 - 9223372036854775808 = 2 ^ 63 - 1 from by decide, Nat.and_two_pow_sub_one_eq_mod]
theorem abs_any (x : Nat) (h : x < 18446744073709551616) (w : World) : Calls Tryz.prog 130 #[.float .f64 x] w fun e w' => e = .returned (.float .f64 (x % 9223372036854775808)) ∧ w' = w := by
 have hc := clear_sign x h
 generalize x % 9223372036854775808 = y at *
 go_enter Tryz.func130, Tryz.ntmps130
 go_wp2_with (first | simp only [mf64bits] | simp only [mf64from])
 go_ret
 exact ⟨rfl, rfl⟩
set_option maxHeartbeats 1000000 in
theorem hasExp_w (x : Nat) (b1 b2 b3 b4 : Bool) (o1 : (FloatKind.f64.format.order 0 x == some .lt) = b1) (o2 : (FloatKind.f64.format.order x 4517329193108106637 == some .lt) = b2)
  (o3 : (FloatKind.f64.format.order 4921056587992461136 x == some .lt || FloatKind.f64.format.order 4921056587992461136 x == some .eq) = b3) (o4 : (FloatKind.f64.format.order x 9218868437227405311 == some .lt || FloatKind.f64.format.order x 9218868437227405311 == some .eq) = b4) (w : World) :
  Calls Tryz.prog 129 #[.float .f64 x] w fun e w' => e = .returned (.bool (b1 && b2 || b3 && b4)) ∧ w' = w := by
 cases b1 <;> cases b2 <;> cases b3 <;> cases b4
 all_goals
  go_enter Tryz.func129, Tryz.ntmps129
  go_wp2
  go_ret
  exact ⟨rfl, rfl⟩
end Go.Proofs.YtlgfgeacphkhnaaGreatDoor.Rl
