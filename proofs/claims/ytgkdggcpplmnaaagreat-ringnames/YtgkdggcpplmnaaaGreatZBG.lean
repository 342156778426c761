/- Own work of the verifier. -/
import Derived.Test.YtgkdggcpplmnaaaGreatZAG
import Derived.Test.YtgkdggcpplmnaaaGreatShelf
import Derived.Test.YtgkdggcpplmnaaaGreatZAB
import Derived.Test.YtgkdggcpplmnaaaGreatZAL
import Derived.Test.YtgkdggcpplmnaaaGreatZBF
import Derived.Lib.ItoaMem
import Derived.Laws.Strings
import Derived.Lib.ItoaNum
import Derived.Lib.Repeat
import Derived.Deep.RegionWith
namespace Go.Proofs.YtgkdggcpplmnaaaGreat.Wi
open Go.RowKit Go.Sort

theorem mag_0 (n : Int) : 0 ≤ mag n := by unfold mag; split <;> omega
theorem mag_le {ah al : Int} (h1 : Wf ah al) : 0 ≤ hiOf (mag (val ah al)) ∧ hiOf (mag (val ah al)) ≤ 9223372036854775808 ∧ 0 ≤ loOf (mag (val ah al)) ∧ loOf (mag (val ah al)) < 18446744073709551616 := by
  obtain ⟨_, _, _, _⟩ := h1
  unfold mag hiOf loOf val; split <;> omega
theorem val_neg {ah al : Int} (h1 : Wf ah al) : val ah al < 0 ↔ ah < 0 := by
  obtain ⟨_, _, _, _⟩ := h1; unfold val; omega

end Go.Proofs.YtgkdggcpplmnaaaGreat.Wi
namespace Go.Proofs.YtgkdggcpplmnaaaGreat.Wi
open Go.RowKit Go.Sort


theorem own2 {w w1 : World} {a b : Value} {t : TypeId} (hb : Below (w.alloc (.cells #[a, b] t)).heap.size (w.alloc (.cells #[a, b] t)) w1) :
    w1.cell? ⟨w.heap.size, 0, none⟩ = some a ∧ w1.cell? ⟨w.heap.size, 1, none⟩ = some b ∧ w1.frozen? ⟨w.heap.size, 0, none⟩ = false ∧ w1.frozen? ⟨w.heap.size, 1, none⟩ = false ∧ w.heap.size < w1.heap.size := by
  refine ⟨?_, ?_, ?_, ?_, by have := hb.size; simp at this; omega⟩
  · rw [hb.cell (p := ⟨w.heap.size, 0, none⟩) (by simp)]; simp [go_sem]
  · rw [hb.cell (p := ⟨w.heap.size, 1, none⟩) (by simp)]; simp [go_sem]
  · rw [hb.frozen (p := ⟨w.heap.size, 0, none⟩) (by simp)]; simp [go_sem]
  · rw [hb.frozen (p := ⟨w.heap.size, 1, none⟩) (by simp)]; simp [go_sem]
end Go.Proofs.YtgkdggcpplmnaaaGreat.Wi
/- wide.Float: THE WALK. Own work of the verifier. -/
namespace Go.Proofs.YtgkdggcpplmnaaaGreat.Wi
open Go.RowKit

theorem neg_word (Y : Nat) (h : Y < 9223372036854775808) : Op.negFloat .f64 Y = 9223372036854775808 + Y := by
  show Y ^^^ 2 ^ 63 = _
  have e : 9223372036854775808 + Y = 2 ^ 63 ||| Y := by
    rw [nat_join 63 (2 ^ 63) Y (Nat.mod_self _) (by rw [show (2 : Nat) ^ 63 = 9223372036854775808 from by decide]; exact h)]
  rw [e]
  apply Nat.eq_of_testBit_eq
  intro i
  rw [Nat.testBit_xor, Nat.testBit_or, Nat.testBit_two_pow]
  by_cases hi : 63 = i
  · subst hi
    have : Y.testBit 63 = false := Nat.testBit_lt_two_pow (by rw [show (2 : Nat) ^ 63 = 9223372036854775808 from by decide]; exact h)
    simp [this]
  · simp [hi]
theorem run_neg_float (P : Program) (Y : Nat) (h : Y < 9223372036854775808) (W : World) : (Op.unary .neg (.float .f64 Y)).run P W = .ok (.float .f64 (9223372036854775808 + Y)) W := by
  rw [← neg_word Y h]; rfl

set_option maxHeartbeats 1000000 in
set_option maxRecDepth 100000 in
theorem float_w (ah al s T T' : Int) (X Y : Nat) (hs0 : 0 ≤ s) (hs1 : s ≤ 64)
    (mh ml : Int) (HM : Hid (∀ W, Calls Tryz.prog 32 #[.agg #[.int .i64 ah, .int .u64 al]] W fun e w' => e = .returned (.tuple #[.int .u64 mh, .int .u64 ml]) ∧ Below W.heap.size W w'))
    (HS : Hid (64 - (Lib.bitLen mh.toNat : Int) = s)) (mh0 : 0 ≤ mh) (mh1 : mh ≤ 18446744073709551615)
    (eT : bits .or .u64 (IntKind.u64.wrap (mh * 2 ^ s.toNat)) (ml / 2 ^ (64 - s).toNat) = T)
    (eS : (IntKind.u64.wrap (ml * 2 ^ s.toNat) != 0) = true ∧ bits .or .u64 T 1 = T' ∨ (IntKind.u64.wrap (ml * 2 ^ s.toNat) != 0) = false ∧ T' = T) (eX : floatOfInt .f64 T' = X) (hY : Y < 9223372036854775808)
    (HL : Hid (∀ W, Calls Tryz.prog 34 #[.float .f64 X, .int .i64 (64 - s)] W fun e w' => e = .returned (.float .f64 Y) ∧ w' = W)) (w : World) :
    Calls Tryz.prog 21 #[.agg #[.int .i64 ah, .int .u64 al]] w fun e w' =>
      e = .returned (.float .f64 (if ah < 0 then 9223372036854775808 + Y else Y)) ∧ Below w.heap.size w w' := by
  have hs2 : 0 ≤ 64 - s := by omega
  have hng := run_neg_float Tryz.prog Y hY
  have hY' : Hid _ := hY
  clear hY
  rcases eS with ⟨eS, eT'⟩ | ⟨eS, eT'⟩
  · by_cases hn : ah < 0
    all_goals
      first | rw [if_pos hn] | rw [if_neg hn]
      go_enter Tryz.func21, Tryz.ntmps21
      go_wp2_with fail
      refine (HM.out _).mono ?_
      rintro e w1 ⟨rfl, hb1⟩
      have hc : w1.cell? ⟨w.heap.size, 0, none⟩ = some (.int .i64 ah) := (own2 hb1).1
      go_wp2_with (go_at_call 33; refine (Tryz.bits_LeadingZeros64 _ _ mh0 mh1).mono ?_; rw [HS.out]; rintro e w' ⟨rfl, rfl⟩)
      go_quiet (fail)
      go_wp2_with fail
      refine (HL.out _).mono ?_
      rintro e w2 ⟨rfl, rfl⟩
      go_wp2
      go_ret
      exact ⟨rfl, Below.drewN' ((bel1 w _).trans (hb1.mono (by simp))) _⟩
  · subst eT'
    by_cases hn : ah < 0
    all_goals
      first | rw [if_pos hn] | rw [if_neg hn]
      go_enter Tryz.func21, Tryz.ntmps21
      go_wp2_with fail
      refine (HM.out _).mono ?_
      rintro e w1 ⟨rfl, hb1⟩
      have hc : w1.cell? ⟨w.heap.size, 0, none⟩ = some (.int .i64 ah) := (own2 hb1).1
      go_wp2_with (go_at_call 33; refine (Tryz.bits_LeadingZeros64 _ _ mh0 mh1).mono ?_; rw [HS.out]; rintro e w' ⟨rfl, rfl⟩)
      go_quiet (fail)
      go_wp2_with fail
      refine (HL.out _).mono ?_
      rintro e w2 ⟨rfl, rfl⟩
      go_wp2
      go_ret
      exact ⟨rfl, Below.drewN' ((bel1 w _).trans (hb1.mono (by simp))) _⟩

theorem floatOf_nat (t : Nat) : floatOfInt .f64 (t : Int) = fword t := by
  show Ieee.double.nearest (decide ((t : Int) < 0)) (t : Int).natAbs 0 = fword t
  rw [show decide ((t : Int) < 0) = false from by simp, Int.natAbs_natCast]
  rfl
/-- The bits of the float nearest to a number. -/
def fbits (n : Int) : Nat := if n < 0 then 9223372036854775808 + fword (mag n).toNat else fword (mag n).toNat
theorem bitLen_zero : Lib.bitLen 0 = 0 := by decide

theorem float_any (ah al : Int) (h1 : Wf ah al) (w : World) :
    Calls Tryz.prog 21 #[.agg #[.int .i64 ah, .int .u64 al]] w fun e w' => e = .returned (.float .f64 (fbits (val ah al))) ∧ Below w.heap.size w w' := by
  obtain ⟨m0, m1, m2, m3⟩ := mag_le h1
  have hm := mag_any ah al h1
  have hN0 := mag_0 (val ah al)
  have hif : fbits (val ah al) = if ah < 0 then 9223372036854775808 + fword (mag (val ah al)).toNat else fword (mag (val ah al)).toNat := by
    unfold fbits
    by_cases hn : ah < 0
    · rw [if_pos hn, if_pos ((val_neg h1).2 hn)]
    · rw [if_neg hn, if_neg (fun h => hn ((val_neg h1).1 h))]
  rw [hif]
  obtain ⟨H, hH⟩ : ∃ H : Nat, (H : Int) = hiOf (mag (val ah al)) := ⟨(hiOf (mag (val ah al))).toNat, by omega⟩
  obtain ⟨l, hl⟩ : ∃ l : Nat, (l : Int) = loOf (mag (val ah al)) := ⟨(loOf (mag (val ah al))).toNat, by omega⟩
  have hN : (mag (val ah al)).toNat = H * 18446744073709551616 + l := by
    have := val_hl (mag (val ah al))
    rw [← hH, ← hl] at this
    generalize mag (val ah al) = M at this hN0
    unfold val at this
    omega
  rw [hN]
  rw [← hH, ← hl] at hm
  rw [← hH] at m0 m1
  rw [← hl] at m2 m3
  clear hN hH hl hif hN0
  by_cases hz : H = 0
  · subst hz
    have e1 : (64 - (Lib.bitLen ((0 : Nat) : Int).toNat : Int)) = 64 := by rw [show ((0 : Nat) : Int).toNat = 0 from rfl, bitLen_zero]; rfl
    have eT : bits .or .u64 (IntKind.u64.wrap (((0 : Nat) : Int) * 2 ^ (64 : Int).toNat)) ((l : Int) / 2 ^ (64 - (64 : Int)).toNat) = (l : Int) := by
      rw [show ((0 : Nat) : Int) * 2 ^ (64 : Int).toNat = ((0 : Nat) : Int) from by simp, show (2 : Int) ^ (64 - (64 : Int)).toNat = 1 from by decide, Int.ediv_one, IntKind.wrap_u64, show ((0 : Nat) : Int) % 18446744073709551616 = ((0 : Nat) : Int) from rfl, u64_or_nat 0 l (by decide) (by omega)]
      simp
    have eS : (IntKind.u64.wrap ((l : Int) * 2 ^ (64 : Int).toNat) != 0) = false := by
      rw [show (2 : Int) ^ (64 : Int).toNat = 18446744073709551616 from by decide, IntKind.wrap_u64]
      simp
    rw [Nat.zero_mul, Nat.zero_add]
    by_cases hl0 : l = 0
    · subst hl0
      exact float_w ah al 64 _ _ 0 (fword 0) (by decide) (by decide) _ _ hm e1 m0 (by omega) eT (Or.inr ⟨eS, rfl⟩) (by decide) (by decide) (fun W => Ldexp_of 0 0 _ (fun W => ldexp_zero _ W) W) w
    · have hlog : l.log2 ≤ 63 := by
        have := (Nat.log2_lt hl0 (k := 64)).2 (by omega)
        omega
      have hb := fword_bounds l hl0 (by omega)
      have hq : fword l / 4503599627370496 + 0 ≤ 2046 := by omega
      refine float_w ah al 64 _ _ (fword l) (fword l) (by decide) (by decide) _ _ hm e1 m0 (by omega) eT (Or.inr ⟨eS, rfl⟩) (floatOf_nat l) (by omega) (fun W => Ldexp_of (fword l) (fword l) _ (fun W => ?_) W) w
      have h := ldexp_any (fword l) 0 (by omega) (by omega) hq W
      rw [Nat.zero_mul, Nat.add_zero] at h
      exact h
  · obtain ⟨b1, b2, b3, b4⟩ := bitLen_norm H (by omega) (by omega)
    obtain ⟨n1, n2, n3, n4, n5⟩ := norm_words H l (64 - Lib.bitLen H) (by omega) (by omega) b4
    have ej : 64 - (64 - Lib.bitLen H) = Lib.bitLen H := by omega
    rw [ej] at n1 n2 n3 n4 n5
    obtain ⟨j, hj⟩ : ∃ j, j = Lib.bitLen H := ⟨_, rfl⟩
    have e1 : (64 - (Lib.bitLen ((H : Nat) : Int).toNat : Int)) = ((64 - j : Nat) : Int) := by rw [Int.toNat_natCast, ← hj]; omega
    rw [← hj] at b1 b2 b3 b4 n1 n2 n3 n4 n5
    have hp : 0 < 2 ^ j := Nat.pow_pos (by decide)
    have h64 : 2 ^ (64 - j) * 2 ^ j = 18446744073709551616 := by rw [← Nat.pow_add, show 64 - j + j = 64 from by omega]
    have htop : (H * 18446744073709551616 + l) / 2 ^ j = H * 2 ^ (64 - j) + l / 2 ^ j := by
      rw [← h64, ← Nat.mul_assoc, Nat.mul_comm (H * 2 ^ (64 - j)) (2 ^ j), Nat.mul_add_div hp]
    have hrest : (H * 18446744073709551616 + l) % 2 ^ j = l % 2 ^ j := by
      rw [← h64, ← Nat.mul_assoc, Nat.mul_comm (H * 2 ^ (64 - j)) (2 ^ j), Nat.mul_add_mod]
    have hT1 : 9223372036854775808 ≤ H * 2 ^ (64 - j) + l / 2 ^ j := Nat.le_trans b3 (Nat.le_add_right _ _)
    have hT2 : H * 2 ^ (64 - j) + l / 2 ^ j < 18446744073709551616 := by
      have : (H + 1) * 2 ^ (64 - j) ≤ 18446744073709551616 := by
        have hlt : H < 2 ^ j := by
          have := (Lib.bitLenAux_bounds 64 H (by omega) hz).2.2
          change H < 2 ^ Lib.bitLen H at this
          rw [← hj] at this; exact this
        rw [← h64, Nat.mul_comm (2 ^ (64 - j))]
        exact Nat.mul_le_mul_right _ hlt
      rw [Nat.add_mul, Nat.one_mul] at this
      omega
    have hlogN : (H * 18446744073709551616 + l).log2 = 63 + j := by
      have hne : H * 18446744073709551616 + l ≠ 0 := by omega
      rw [Nat.log2_eq_iff hne]
      rw [show 63 + j + 1 = 64 + j from by omega, Nat.pow_add, Nat.pow_add, show (2 : Nat) ^ 63 = 9223372036854775808 from by decide, show (2 : Nat) ^ 64 = 18446744073709551616 from by decide]
      rw [← htop] at hT1 hT2
      exact ⟨(Nat.le_div_iff_mul_le hp).1 hT1, (Nat.div_lt_iff_lt_mul hp).1 hT2⟩
    have hst := sticky_fword (H * 18446744073709551616 + l) j hlogN (by omega)
    have hsl := sticky_log (H * 18446744073709551616 + l) j hlogN
    have hse : sticky (H * 18446744073709551616 + l) j = if l % 2 ^ j = 0 then H * 2 ^ (64 - j) + l / 2 ^ j else (H * 2 ^ (64 - j) + l / 2 ^ j) / 2 * 2 + 1 := by
      unfold sticky; rw [hrest, htop]
    have hsn : sticky (H * 18446744073709551616 + l) j ≠ 0 := by intro e; rw [e] at hsl; simp at hsl
    have hb := fword_bounds (sticky (H * 18446744073709551616 + l) j) hsn (by omega)
    rw [hsl] at hb
    have hkt : ((64 - j : Nat) : Int).toNat = 64 - j := by omega
    have hkt2 : (64 - ((64 - j : Nat) : Int)).toNat = j := by omega
    have hS : (IntKind.u64.wrap ((l : Int) * 2 ^ ((64 - j : Nat) : Int).toNat) != 0) = true ∧ bits .or .u64 ((H * 2 ^ (64 - j) + l / 2 ^ j : Nat) : Int) 1 = ((sticky (H * 18446744073709551616 + l) j : Nat) : Int) ∨
        (IntKind.u64.wrap ((l : Int) * 2 ^ ((64 - j : Nat) : Int).toNat) != 0) = false ∧ ((sticky (H * 18446744073709551616 + l) j : Nat) : Int) = ((H * 2 ^ (64 - j) + l / 2 ^ j : Nat) : Int) := by
      rw [hkt, n2, hse]
      have hpk : 0 < 2 ^ (64 - j) := Nat.pow_pos (by decide)
      by_cases c : l % 2 ^ j = 0
      · right
        rw [if_pos c, c, Nat.mul_zero]
        exact ⟨rfl, rfl⟩
      · left
        rw [if_neg c]
        have hpos : 0 < 2 ^ (64 - j) * (l % 2 ^ j) := Nat.mul_pos hpk (by omega)
        refine ⟨by rw [bne_iff_ne]; omega, ?_⟩
        have := u64_or_nat (H * 2 ^ (64 - j) + l / 2 ^ j) 1 hT2 (by decide)
        rw [show ((1 : Nat) : Int) = 1 from rfl] at this
        rw [this]
        congr 1
        generalize H * 2 ^ (64 - j) + l / 2 ^ j = t
        have e := nat_join 1 (t / 2 * 2) 1 (by omega) (by decide)
        rw [← e]
        apply Nat.eq_of_testBit_eq
        intro i
        rw [Nat.testBit_or, Nat.testBit_or]
        cases i with
        | zero => simp
        | succ i => rw [Nat.testBit_succ, Nat.testBit_succ, Nat.testBit_succ, show t / 2 * 2 / 2 = t / 2 from by omega]
    have hY : fword (H * 18446744073709551616 + l) < 9223372036854775808 := by omega
    refine float_w ah al ((64 - j : Nat) : Int) _ _ (fword (sticky (H * 18446744073709551616 + l) j)) (fword (H * 18446744073709551616 + l)) (by omega) (by omega) _ _ hm e1 m0 (by omega) (by rw [hkt, hkt2]; exact n1) hS (floatOf_nat _) hY (fun W => Ldexp_of _ _ _ (fun W => ?_) W) w
    have hq : fword (sticky (H * 18446744073709551616 + l) j) / 4503599627370496 + j ≤ 2046 := by omega
    have h := ldexp_any (fword (sticky (H * 18446744073709551616 + l) j)) j (by omega) (by omega) hq W
    rw [← hst] at h
    rw [show (64 - ((64 - j : Nat) : Int)) = (j : Int) from by omega]
    exact h
end Go.Proofs.YtgkdggcpplmnaaaGreat.Wi
