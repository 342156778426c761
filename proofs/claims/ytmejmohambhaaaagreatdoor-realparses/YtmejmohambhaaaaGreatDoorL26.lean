/- ftoa64 at every finite float but 0. Own work of the verifier. -/
import Derived.Test.YtmejmohambhaaaaGreatDoorL25
import Derived.Test.YtmejmohambhaaaaGreatDoorL21
namespace Go.Proofs.YtmejmohambhaaaaGreatDoor
open Go.RowKit Go.Sort

/-- The text of digits without an exponent. -/
def fTxt (neg : Bool) (u k : Nat) (dp : Int) : List Int :=
  if dp ≤ 0 then (if neg then [45] else []) ++ [48, 46] ++ List.replicate (-dp).toNat 48 ++ (dI u).take k
  else if (k : Int) ≤ dp then (if neg then [45] else []) ++ (dI u).take k ++ List.replicate (dp.toNat - k) 48
  else (if neg then [45] else []) ++ (dI u).take dp.toNat ++ [46] ++ behind u dp.toNat k
theorem fmtF_any (neg : Bool) (B g u k : Nat) (dp : Int) (W0 w : World) (v : Value) (hu : 1 ≤ u) (hu1 : u < 18446744073709551616) (hdp0 : -390 ≤ dp) (hdp1 : dp ≤ 390) (ht : Trim u k) (hbuf : Buf B (some (g, u)) W0 v [] w) :
    Calls Tryz.prog 60 #[v, .bool neg, .slice (some ⟨g, 0, none⟩) 32 32, .int .i64 dp, .int .i64 (k : Int), .int .i64 (max ((k : Int) - dp) 0), .int .u8 102, .bool true] w fun r w' => ∃ v' o, r = .returned v' ∧ Buf B o W0 v' (fTxt neg u (trimLen u) dp) w' := by
  have hk1 := trim_pos hu ht
  have hk2 := ht.1
  have hk3 := Lib.nDigits_le20 u hu1
  rw [← trim_len ht]
  have hl := dI_length u
  unfold fTxt
  by_cases h1 : dp ≤ 0
  · rw [if_pos h1, show max ((k : Int) - dp) 0 = ((k + (-dp).toNat : Nat) : Int) from by omega]
    have h := fmtF_below neg B g u k (-dp).toNat (k + (-dp).toNat) dp W0 w v hbuf hk1 (by omega) (by omega) (by omega) (by omega) rfl
    exact h.mono fun r w' ⟨v', a, b⟩ => ⟨v', _, a, b⟩
  · rw [if_neg h1]
    obtain ⟨D, hD⟩ : ∃ D : Nat, dp = (D : Int) := ⟨dp.toNat, by omega⟩
    subst hD
    rw [Int.toNat_natCast]
    by_cases h2 : (k : Int) ≤ (D : Int)
    · rw [if_pos h2, show max ((k : Int) - (D : Int)) 0 = 0 from by omega]
      have h := fmtF_whole neg B g u k D W0 w v hbuf hk1 (by omega) (by omega) (by omega) (by omega)
      exact h.mono fun r w' ⟨v', a, b⟩ => ⟨v', _, a, b⟩
    · rw [if_neg h2, show max ((k : Int) - (D : Int)) 0 = ((k - D : Nat) : Int) from by omega]
      have h := fmtF_mid neg B g u k D (k - D) W0 w v hbuf (by omega) (by omega) (by omega) (by omega) rfl
      exact h.mono fun r w' ⟨v', a, b⟩ => ⟨v', _, a, b⟩
/-- The digits and the exponent of a float. -/
def sd (x : Nat) : Nat × Int :=
  if x % 9223372036854775808 < 4503599627370496 then shortF (x % 4503599627370496 * 2 ^ (64 - Lib.bitLen (x % 4503599627370496))) (-1074 - ((64 - Lib.bitLen (x % 4503599627370496) : Nat) : Int))
  else shortF ((4503599627370496 + x % 4503599627370496) * 2048) ((x / 4503599627370496 % 2048 : Nat) - 1086)
theorem sub_bits (f : Nat) (h0 : 1 ≤ f) (h1 : f < 4503599627370496) : ∃ z : Nat, 64 - Lib.bitLen f = z ∧ 64 - (Lib.bitLen f : Int) = (z : Int) ∧ 12 ≤ z ∧ z ≤ 63 ∧ 9223372036854775808 ≤ f * 2 ^ z ∧ f * 2 ^ z < 18446744073709551616 ∧ f * 2 ^ z % 2 ^ z = 0 ∧ f * 2 ^ z + 2 ^ (z - 1) < 18446744073709551616 := by
  obtain ⟨a, b, c⟩ := len_bounds f (by omega) (by omega)
  have k1 : Lib.bitLen f - 1 < 52 := (Nat.pow_lt_pow_iff_right (by decide : 1 < 2)).1 (Nat.lt_of_le_of_lt b (by rw [show (2 : Nat) ^ 52 = 4503599627370496 from by decide]; exact h1))
  refine ⟨64 - Lib.bitLen f, rfl, by omega, by omega, by omega, ?_, ?_, Nat.mul_mod_left _ _, ?_⟩
  · have := Nat.mul_le_mul_right (2 ^ (64 - Lib.bitLen f)) b
    rw [← Nat.pow_add, show Lib.bitLen f - 1 + (64 - Lib.bitLen f) = 63 from by omega] at this
    exact this
  · have := Nat.mul_lt_mul_of_pos_right c (show 0 < 2 ^ (64 - Lib.bitLen f) from Nat.pow_pos (by decide))
    rw [← Nat.pow_add, show Lib.bitLen f + (64 - Lib.bitLen f) = 64 from by omega] at this
    exact this
  · have h2 := Nat.mul_le_mul_right (2 ^ (64 - Lib.bitLen f)) (show f + 1 ≤ 2 ^ Lib.bitLen f from c)
    rw [← Nat.pow_add, show Lib.bitLen f + (64 - Lib.bitLen f) = 64 from by omega, Nat.add_mul, Nat.one_mul] at h2
    have h3 : 2 ^ (64 - Lib.bitLen f) = 2 * 2 ^ (64 - Lib.bitLen f - 1) := by rw [← Nat.pow_succ', show (64 - Lib.bitLen f - 1).succ = 64 - Lib.bitLen f from by omega]
    have h4 : 0 < 2 ^ (64 - Lib.bitLen f - 1) := Nat.pow_pos (by decide)
    have h5 : (2 : Nat) ^ 64 = 18446744073709551616 := by decide
    omega
theorem ftoaE_all (x : Nat) (hx : x < 18446744073709551616) (h0 : x % 9223372036854775808 ≠ 0) (h1 : x % 9223372036854775808 < 9218868437227405312) (B : Nat) (W0 w : World) (v : Value) (hbuf : Buf B none W0 v [] w) (hGl : Glob w) :
    Calls Tryz.prog 43 #[v, .float .f64 x, .int .u8 101, .int .i64 (-1)] w fun r w' => ∃ v' o, r = .returned v' ∧ Buf B o W0 v' (eTxt (decide (9223372036854775808 ≤ x)) (sd x).1 (trimLen (sd x).1) ((Lib.nDigits (sd x).1 : Int) + (sd x).2)) w' := by
  have n1 := neg_bit x hx
  have n2 := ex_field x hx
  have n3 := fr_field x hx
  by_cases hs : x % 9223372036854775808 < 4503599627370496
  · have hE0 : x / 4503599627370496 % 2048 = 0 := by omega
    rw [hE0] at n2
    obtain ⟨z, z1, z2, z3, z4, z5, z6, z7, z8⟩ := sub_bits (x % 4503599627370496) (by omega) (by omega)
    have hsd : sd x = shortF (x % 4503599627370496 * 2 ^ z) (-1074 - (z : Int)) := by unfold sd; rw [if_pos hs, z1]
    rw [hsd]
    have hb := short_between (x % 4503599627370496 * 2 ^ z) (-1074 - (z : Int)) z5 z6 (by omega) (fun _ => by rw [show (-1075 - (-1074 - (z : Int))).toNat = z - 1 from by omega]; exact z8) (by omega) (by omega)
    generalize hr : shortF (x % 4503599627370496 * 2 ^ z) (-1074 - (z : Int)) = R at *
    obtain ⟨u, p⟩ := R
    obtain ⟨b1, b2, b3, b4⟩ := hb
    simp only at b1 b2 b3 b4 ⊢
    have hn := Lib.nDigits_le20 u (by omega)
    refine ftoaE_sub _ x (x % 4503599627370496) (x % 4503599627370496 * 2 ^ z) u z (-1074 - (z : Int)) p B W0 w v _ hbuf hGl n1 n2 n3 (by omega) (by omega) hx z2 z3 z4 (by rw [Int.natCast_mul, Int.natCast_pow]; rfl) z5 z6 z7 rfl hr b1 (by omega) (by omega) (by omega) ?_
    intro g k W ht hb'
    exact fmtE_any _ B g u k _ W0 W v b1 (by omega) (by omega) (by omega) ht hb'
  · have hsd : sd x = shortF ((4503599627370496 + x % 4503599627370496) * 2048) ((x / 4503599627370496 % 2048 : Nat) - 1086) := by unfold sd; rw [if_neg hs]
    rw [hsd]
    have hb := short_between ((4503599627370496 + x % 4503599627370496) * 2048) ((x / 4503599627370496 % 2048 : Nat) - 1086) (by omega) (by omega) (by omega) (by omega) (by omega) (by omega)
    generalize hr : shortF ((4503599627370496 + x % 4503599627370496) * 2048) (((x / 4503599627370496 % 2048 : Nat) : Int) - 1086) = R at *
    obtain ⟨u, p⟩ := R
    obtain ⟨b1, b2, b3, b4⟩ := hb
    simp only at b1 b2 b3 b4 ⊢
    have hn := Lib.nDigits_le20 u (by omega)
    refine ftoaE_w _ x (x / 4503599627370496 % 2048) (x % 4503599627370496) (4503599627370496 + x % 4503599627370496) ((4503599627370496 + x % 4503599627370496) * 2048) u _ p B W0 w v _ hbuf hGl n1 n2 n3 (by omega) (by omega) hx (hid_bit _ (by omega)) (by omega) (by omega) (len53 _ (by omega) (by omega)) (by omega) rfl hr b1 (by omega) (by omega) (by omega) ?_
    intro g k W ht hb'
    exact fmtE_any _ B g u k _ W0 W v b1 (by omega) (by omega) (by omega) ht hb'
theorem ftoaF_all (x : Nat) (hx : x < 18446744073709551616) (h0 : 4503599627370496 ≤ x % 9223372036854775808) (h1 : x % 9223372036854775808 < 9218868437227405312) (B : Nat) (W0 w : World) (v : Value) (hbuf : Buf B none W0 v [] w) (hGl : Glob w) :
    Calls Tryz.prog 43 #[v, .float .f64 x, .int .u8 102, .int .i64 (-1)] w fun r w' => ∃ v' o, r = .returned v' ∧ Buf B o W0 v' (fTxt (decide (9223372036854775808 ≤ x)) (sd x).1 (trimLen (sd x).1) ((Lib.nDigits (sd x).1 : Int) + (sd x).2)) w' := by
  have n1 := neg_bit x hx
  have n2 := ex_field x hx
  have n3 := fr_field x hx
  have hsd : sd x = shortF ((4503599627370496 + x % 4503599627370496) * 2048) ((x / 4503599627370496 % 2048 : Nat) - 1086) := by unfold sd; rw [if_neg (by omega)]
  rw [hsd]
  have hb := short_between ((4503599627370496 + x % 4503599627370496) * 2048) ((x / 4503599627370496 % 2048 : Nat) - 1086) (by omega) (by omega) (by omega) (by omega) (by omega) (by omega)
  generalize hr : shortF ((4503599627370496 + x % 4503599627370496) * 2048) (((x / 4503599627370496 % 2048 : Nat) : Int) - 1086) = R at *
  obtain ⟨u, p⟩ := R
  obtain ⟨b1, b2, b3, b4⟩ := hb
  simp only at b1 b2 b3 b4 ⊢
  have hn := Lib.nDigits_le20 u (by omega)
  refine ftoaF_w _ x (x / 4503599627370496 % 2048) (x % 4503599627370496) (4503599627370496 + x % 4503599627370496) ((4503599627370496 + x % 4503599627370496) * 2048) u _ p B W0 w v _ hbuf hGl n1 n2 n3 (by omega) (by omega) hx (hid_bit _ (by omega)) (by omega) (by omega) (len53 _ (by omega) (by omega)) (by omega) rfl hr b1 (by omega) (by omega) (by omega) ?_
  intro g k W ht hb'
  exact fmtF_any _ B g u k _ W0 W v b1 (by omega) (by omega) (by omega) ht hb'
end Go.Proofs.YtmejmohambhaaaaGreatDoor
