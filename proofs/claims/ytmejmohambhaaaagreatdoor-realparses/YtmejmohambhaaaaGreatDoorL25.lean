/- ftoa64 WITH AN EXPONENT, at every finite float but 0. Own work of the verifier. -/
import Derived.Test.YtmejmohambhaaaaGreatDoorL20
import Derived.Test.YtmejmohambhaaaaGreatDoorL22
import Derived.Test.YtmejmohambhaaaaGreatDoorL24
namespace Go.Proofs.YtmejmohambhaaaaGreatDoor
open Go.RowKit Go.Sort

theorem ex_field (x : Nat) (h : x < 18446744073709551616) : bits .and .i64 ((x : Int) / 4503599627370496) 2047 = ((x / 4503599627370496 % 2048 : Nat) : Int) := by
  have e : ((x : Int) / 4503599627370496) = ((x / 4503599627370496 : Nat) : Int) := by omega
  rw [e]
  show IntKind.i64.wrap ((BitVec.ofInt 64 ((x / 4503599627370496 : Nat) : Int) &&& BitVec.ofInt 64 ((2047 : Nat) : Int)).toNat : Int) = _
  rw [BitVec.toNat_and, ofInt_u64 _ (by omega), ofInt_u64 _ (by decide), show (2047 : Nat) = 2 ^ 11 - 1 from by decide, Nat.and_two_pow_sub_one_eq_mod, IntKind.wrap_i64]
  omega
theorem fr_field (x : Nat) (h : x < 18446744073709551616) : bits .and .u64 (x : Int) 4503599627370495 = ((x % 4503599627370496 : Nat) : Int) := by
  have := u64_and_nat x 4503599627370495 h (by decide)
  rw [show ((4503599627370495 : Nat) : Int) = 4503599627370495 from rfl] at this
  rw [this, show (4503599627370495 : Nat) = 2 ^ 52 - 1 from by decide, Nat.and_two_pow_sub_one_eq_mod]
theorem hid_bit (f : Nat) (h : f < 4503599627370496) : bits .or .u64 (f : Int) 4503599627370496 = ((4503599627370496 + f : Nat) : Int) := by
  have := u64_or_nat f 4503599627370496 (by omega) (by decide)
  rw [show ((4503599627370496 : Nat) : Int) = 4503599627370496 from rfl] at this
  rw [this, Nat.or_comm, nat_join 52 _ _ (by decide) (by rw [show (2 : Nat) ^ 52 = 4503599627370496 from by decide]; exact h)]
theorem neg_bit (x : Nat) (h : x < 18446744073709551616) : ((x : Int) / 9223372036854775808 != 0) = decide (9223372036854775808 ≤ x) := by
  by_cases k : 9223372036854775808 ≤ x
  · rw [decide_eq_true k, bne_iff_ne]; omega
  · rw [decide_eq_false k, bne_eq_false_iff_eq]; omega
theorem len_bounds (x : Nat) (h : x < 18446744073709551616) (h0 : x ≠ 0) : 1 ≤ Lib.bitLen x ∧ 2 ^ (Lib.bitLen x - 1) ≤ x ∧ x < 2 ^ Lib.bitLen x := Lib.bitLenAux_bounds 64 x h h0
theorem len53 (M : Nat) (h0 : 4503599627370496 ≤ M) (h1 : M < 9007199254740992) : Lib.bitLen M = 53 := by
  obtain ⟨a, b, c⟩ := len_bounds M (by omega) (by omega)
  have k1 : Lib.bitLen M - 1 < 53 := (Nat.pow_lt_pow_iff_right (by decide : 1 < 2)).1 (Nat.lt_of_le_of_lt b (by rw [show (2 : Nat) ^ 53 = 9007199254740992 from by decide]; exact h1))
  have k2 : 52 < Lib.bitLen M := (Nat.pow_lt_pow_iff_right (by decide : 1 < 2)).1 (Nat.lt_of_le_of_lt (by rw [show (2 : Nat) ^ 52 = 4503599627370496 from by decide]; exact h0) c)
  omega
theorem trim_inj {u k l : Nat} (h : Trim u k) (h' : Trim u l) : k = l := by
  obtain ⟨a1, a2, a3⟩ := h
  obtain ⟨b1, b2, b3⟩ := h'
  have hl := Lib.decDigits_length u
  rcases Nat.lt_trichotomy k l with c | c | c
  · rcases b3 with b3 | ⟨hb, b3⟩
    · omega
    · exact absurd (a2 (l - 1) hb (by omega)) b3
  · exact c
  · rcases a3 with a3 | ⟨ha, a3⟩
    · omega
    · exact absurd (b2 (k - 1) ha (by omega)) a3
/-- How many digits there are without zeros last. -/
noncomputable def trimLen (u : Nat) : Nat := @Classical.epsilon Nat ⟨0⟩ (Trim u)
theorem trim_len {u k : Nat} (h : Trim u k) : k = trimLen u := trim_inj h (Classical.epsilon_spec (p := Trim u) ⟨k, h⟩)
theorem le_of_lt_nDigits : ∀ (k u : Nat), 1 ≤ k → k < Lib.nDigits u → 10 ^ k ≤ u
  | 0, _, h, _ => by omega
  | 1, u, _, h => by
    by_cases hu : u < 10
    · rw [Lib.nDigits_small hu] at h; omega
    · simp; omega
  | k + 2, u, _, h => by
    by_cases hu : u < 10
    · rw [Lib.nDigits_small hu] at h; omega
    · rw [Lib.nDigits_big hu] at h
      have := le_of_lt_nDigits (k + 1) (u / 10) (by omega) (by omega)
      rw [Nat.pow_succ]
      omega
theorem first_digit (u : Nat) (hu : 1 ≤ u) (h : 0 < (Lib.decDigits u).length) : (Lib.decDigits u)[0] ≠ 48 := by
  have hn := Lib.nDigits_pos u
  have e : (Lib.decDigits u)[0] = Lib.dg u (Lib.nDigits u - 1) := by
    have : (Lib.decDigits u)[0]? = some (Lib.dg u (Lib.nDigits u - 1)) := by
      rw [Lib.decDigits_eq, List.getElem?_map, List.getElem?_range (by omega)]; rfl
    rw [List.getElem?_eq_getElem h] at this
    exact Option.some.inj this
  rw [e]
  have hlt := Lib.lt_pow_nDigits u
  have hp : 0 < 10 ^ (Lib.nDigits u - 1) := Nat.pow_pos (by decide)
  have hge : 10 ^ (Lib.nDigits u - 1) ≤ u := by
    rcases Nat.eq_or_lt_of_le hn with k | k
    · rw [← k]; simpa using hu
    · exact le_of_lt_nDigits _ u (by omega) (by omega)
  have q1 : 1 ≤ u / 10 ^ (Lib.nDigits u - 1) := (Nat.le_div_iff_mul_le hp).2 (by omega)
  have q2 : u / 10 ^ (Lib.nDigits u - 1) < 10 := by
    rw [Nat.div_lt_iff_lt_mul hp, Nat.mul_comm, ← Nat.pow_succ, show (Lib.nDigits u - 1).succ = Lib.nDigits u from by omega]; exact hlt
  unfold Lib.dg
  generalize u / 10 ^ (Lib.nDigits u - 1) = q at *
  intro hh
  have := congrArg UInt8.toNat hh
  rw [UInt8.toNat_ofNat'] at this
  have h48 : (48 : UInt8).toNat = 48 := rfl
  omega
theorem trim_pos {u k : Nat} (hu : 1 ≤ u) (h : Trim u k) : 1 ≤ k := by
  rcases Nat.eq_zero_or_pos k with e | e
  · subst e
    have hl := Lib.decDigits_length u
    have hn := Lib.nDigits_pos u
    exact absurd (h.2.1 0 (by omega) (Nat.le_refl _)) (first_digit u hu (by omega))
  · exact e
/-- The text of digits and an exponent. -/
def eTxt (neg : Bool) (u k : Nat) (dp : Int) : List Int :=
  if k = 1 then (if neg then [45, (dI u).getD 0 0] else [(dI u).getD 0 0]) ++ eTail dp
  else (if neg then [45, (dI u).getD 0 0, 46] else [(dI u).getD 0 0, 46]) ++ mid u k ++ eTail dp
theorem fmtE_any (neg : Bool) (B g u k : Nat) (dp : Int) (W0 w : World) (v : Value) (hu : 1 ≤ u) (hu1 : u < 18446744073709551616) (hdp0 : -390 ≤ dp) (hdp1 : dp ≤ 390) (ht : Trim u k) (hbuf : Buf B (some (g, u)) W0 v [] w) :
    Calls Tryz.prog 60 #[v, .bool neg, .slice (some ⟨g, 0, none⟩) 32 32, .int .i64 dp, .int .i64 (k : Int), .int .i64 (max ((k : Int) - 1) 0), .int .u8 101, .bool true] w fun r w' => ∃ v' o, r = .returned v' ∧ Buf B o W0 v' (eTxt neg u (trimLen u) dp) w' := by
  have hk1 := trim_pos hu ht
  have hk2 := ht.1
  have hk3 := Lib.nDigits_le20 u hu1
  rw [← trim_len ht]
  have hl := dI_length u
  have h0 : (dI u)[0]? = some ((dI u).getD 0 0) := by
    rw [List.getD, List.getElem?_eq_getElem (by omega)]; rfl
  have hE : dp - 1 = (((dp - 1).natAbs : Nat) : Int) ∨ dp - 1 < 0 ∧ 1 - dp = (((dp - 1).natAbs : Nat) : Int) := by omega
  unfold eTxt
  by_cases hk : k = 1
  · rw [if_pos hk]
    subst hk
    have h := fmtE_one neg B g u (dp - 1).natAbs dp _ W0 w v hbuf h0 hE (by omega)
    rw [show max (((1 : Nat) : Int) - 1) 0 = 0 from by decide, show ((1 : Nat) : Int) = 1 from rfl]
    exact h.mono fun r w' ⟨v', a, b⟩ => ⟨v', _, a, b⟩
  · rw [if_neg hk, show max ((k : Int) - 1) 0 = ((k - 1 : Nat) : Int) from by omega]
    have h := fmtE_many neg B g u (dp - 1).natAbs k (k - 1) dp _ W0 w v hbuf h0 hE (by omega) (by omega) (by omega) (by omega) rfl
    exact h.mono fun r w' ⟨v', a, b⟩ => ⟨v', _, a, b⟩
end Go.Proofs.YtmejmohambhaaaaGreatDoor
