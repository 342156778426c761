/- PRODUCTS WITH NUMBERS OF 62 BITS; the magnitude of a float. Own work of the verifier. -/
import Derived.Test.YtdlaloakochfeaaB5
namespace Go.Proofs.Ytdlaloakochfeaa
open Go.RowKit Soft

theorem len_of {T : List Nat} {k : Nat} (hT : Trm T) (h : bv T < 4294967296 ^ k) : T.length ≤ k := by
  rcases Nat.lt_or_ge k T.length with c | c
  · exfalso
    have h1 := bv_ge hT (fun e => by rw [e] at c; simp at c)
    have h3 : 4294967296 ^ k ≤ 4294967296 ^ (T.length - 1) := Nat.pow_le_pow_right (by decide) (by omega)
    omega
  · exact c
theorem up_lit {ao : Option Addr} {b o cap : Nat} {A : List Nat} {w : World} (h : RB w ao b o cap A) (q r : Nat) (k : Int) (hk : ((32 * q + r : Nat) : Int) = k) (hq : q ≤ 100) (hr : r < 32) (hl : A.length ≤ 100000000) :
    Calls Try.prog 25 #[.slice ao A.length cap, .int .i64 k] w fun e w' => ∃ v, e = .returned v ∧ Below w.heap.size w w' ∧ BigIn w' v (bv A * 2 ^ (32 * q + r)) := by
  subst hk
  exact up_rows ao b o cap A q r hq hr w h hl
set_option maxHeartbeats 2000000 in
theorem by_rows (ao : Option Addr) (b o cap : Nat) (A : List Nat) (n : Nat) (hn : n < 18446744073709551616) (w : World) (h : RB w ao b o cap A) (hl : A.length ≤ 10000000) :
    Calls Try.prog 23 #[.slice ao A.length cap, .int .u64 (n : Int)] w fun e w' => ∃ v, e = .returned v ∧ Below w.heap.size w w' ∧ BigAt w' v (bv A * n) := by
  obtain ⟨lo, hi, hlo, hhi, rfl⟩ : ∃ lo hi : Nat, lo < 4294967296 ∧ hi < 4294967296 ∧ n = 4294967296 * hi + lo := ⟨n % 4294967296, n / 4294967296, by omega, by omega, by omega⟩
  have s1 : IntKind.u32.wrap ((4294967296 * hi + lo : Nat) : Int) = (lo : Int) := by rw [IntKind.wrap_u32']; omega
  have s2 : ((4294967296 * hi + lo : Nat) : Int) / 4294967296 = (hi : Int) := by omega
  have s3 : IntKind.u32.wrap (hi : Int) = (hi : Int) := by rw [IntKind.wrap_u32']; omega
  have HN : Hid (bv A * lo + bv A * hi * 2 ^ (32 * 1 + 0) = bv A * (4294967296 * hi + lo)) := by
    unfold Hid
    rw [show 2 ^ (32 * 1 + 0) = 4294967296 from by decide, Nat.mul_add, Nat.mul_assoc, Nat.mul_comm hi, Nat.add_comm]
  generalize 4294967296 * hi + lo = n at *
  have hlow := times_rows ao b o cap A lo hlo w h (by omega)
  have HA : Hid (B32 A) := h.small
  go_enter Try.func23, Try.ntmps23
  go_wp2_with (first
    | (go_at_call 24; with_reducible refine hlow.mono ?_; rintro e w2 ⟨v2, rfl, hB2, hI2⟩; unfold BigIn at hI2; obtain ⟨b2, o2, cap2, T, hv2, hR2, hbv, hTrm⟩ := hI2; subst hv2
       have hlT : T.length ≤ A.length + 1 := len_times HA.out hTrm hlo hbv
       have HT : Hid (bv T = bv A * lo) := hbv
       clear hbv
       have hR1 := h.below hB2)
    | (go_at_call 24; with_reducible refine (times_rows ao b o cap A hi hhi w2 hR1 (by omega)).mono ?_; rintro e w3 ⟨v3, rfl, hB3, hI3⟩; unfold BigIn at hI3; obtain ⟨b3, o3, cap3, T3, hv3, hR3, hbv3, hTrm3⟩ := hI3; subst hv3
       have hlT3 : T3.length ≤ A.length + 1 := len_times HA.out hTrm3 hhi hbv3
       have HT3 : Hid (bv T3 = bv A * hi) := hbv3
       have hlb : bv T3 < 4294967296 ^ (A.length + 1) := Nat.lt_of_lt_of_le (bv_lt hR3.small) (Nat.pow_le_pow_right (by decide) hlT3)
       clear hbv3
       have hR23 := hR2.below hB3
       have hB13 := hB2.trans (hB3.mono hB2.size))
    | (go_at_call 25; with_reducible refine (up_lit hR3 1 0 32 rfl (by omega) (by omega) (by omega)).mono ?_; rintro e w4 ⟨v4, rfl, hB4, hI4⟩; unfold BigIn at hI4; obtain ⟨b4, o4, cap4, T4, hv4, hR4, hbv4, hTrm4⟩ := hI4; subst hv4
       have hlT4 : T4.length ≤ A.length + 2 := len_of hTrm4 (by rw [hbv4, show 2 ^ (32 * 1 + 0) = 4294967296 from by decide, Nat.pow_succ]; omega)
       have HT4 : Hid (bv T + bv T4 = bv A * n) := by unfold Hid; rw [hbv4, HT.out, HT3.out]; exact HN.out
       clear hbv4
       have hR24 := hR23.below hB4
       have hB14 := hB13.trans (hB4.mono hB13.size))
    | (go_at_call 20; with_reducible refine (plus_rows _ b2 o2 cap2 T _ b4 o4 cap4 T4 w4 hR24 hR4 (by omega) (by omega)).mono ?_; rintro e w5 ⟨v5, rfl, hB5, hbig⟩))
  go_ret
  rw [HT4.out] at hbig
  exact ⟨_, rfl, hB14.trans (hB5.mono hB14.size), hbig⟩
end Go.Proofs.Ytdlaloakochfeaa
