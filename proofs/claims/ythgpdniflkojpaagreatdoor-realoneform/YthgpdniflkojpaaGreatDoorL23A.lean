/- ftoa64 AT INFINITIES AND NaN. Own work of the verifier. -/
import Derived.Test.YthgpdniflkojpaaGreatDoorL11
import Derived.Lib.AppendStr
import Derived.Test.YthgpdniflkojpaaGreatDoorL25A
namespace Go.Proofs.YthgpdniflkojpaaGreatDoor
open Go.RowKit Go.Sort

set_option maxHeartbeats 1000000 in
set_option maxRecDepth 100000 in
theorem ftoaF_special (neg nan : Bool) (x f : Nat) (B : Nat) (W0 w : World) (v : Value) (hbuf : Buf B none W0 v [] w)
    (hneg : ((x : Int) / 9223372036854775808 != 0) = neg) (hE : bits .and .i64 ((x : Int) / 4503599627370496) 2047 = 2047) (hf : bits .and .u64 (x : Int) 4503599627370495 = (f : Int)) (hn : ((f : Int) != 0) = nan) (hx : x < 18446744073709551616) :
    Calls Tryz.prog 51 #[v, .float .f64 x, .int .u8 102, .int .i64 (-1)] w fun r w' => ∃ v' o, r = .returned v' ∧ Buf B o W0 v' (if nan then [78, 97, 78] else if neg then [45, 73, 110, 102] else [43, 73, 110, 102]) w' := by
  obtain ⟨i0, hi, hz0, hz1, hz2⟩ := info_parts infoByte
  obtain ⟨T, HT⟩ : ∃ T : List Int, Hid ((if nan then [78, 97, 78] else if neg then [45, 73, 110, 102] else [43, 73, 110, 102]) = T) := ⟨_, rfl⟩
  rw [HT.out]
  cases nan
  · cases neg
    all_goals
      go_enter Tryz.func51, Tryz.ntmps51
      go_wp2_with (first
        | simp only [f64bits]
        | fail)
      go_quiet (fail)
      have hbuf := hbuf.step (Below.drewN' (Below.refl _ _) nq)
      go_wp2_with (first
        | (at_builtin; refine Lib.wpList_append_own_string _ rfl _ _ 68 9 rfl B 5 i0 Tryz.underlying68 Tryz.underlying9 hi hz0 hz1 hz2 _ _ _ rfl hbuf.own _ rfl (by decide) (by decide) hbuf.size ?_; intro v w hown hgrow hnil)
        | fail)
      go_ret
      refine ⟨_, none, rfl, ?_⟩
      rw [← HT.out]
      exact hbuf.grow (World.grownBy.refl _ _) 4 rfl hown hgrow hnil (by decide)
  · go_enter Tryz.func51, Tryz.ntmps51
    go_wp2_with (first
      | simp only [f64bits]
      | fail)
    go_quiet (fail)
    have hbuf := hbuf.step (Below.drewN' (Below.refl _ _) nq)
    go_wp2_with (first
      | (at_builtin; refine Lib.wpList_append_own_string _ rfl _ _ 68 9 rfl B 5 i0 Tryz.underlying68 Tryz.underlying9 hi hz0 hz1 hz2 _ _ _ rfl hbuf.own _ rfl (by decide) (by decide) hbuf.size ?_; intro v w hown hgrow hnil)
      | fail)
    go_ret
    refine ⟨_, none, rfl, ?_⟩
    rw [← HT.out]
    exact hbuf.grow (World.grownBy.refl _ _) 3 rfl hown hgrow hnil (by decide)
end Go.Proofs.YthgpdniflkojpaaGreatDoor
/- FormatFloat. Own work of the verifier. -/
namespace Go.Proofs.YthgpdniflkojpaaGreatDoor
open Go.RowKit Go.Sort

def asI (bs : List UInt8) : List Int := bs.map fun b => (b.toNat : Int)
theorem Buf.text {B : Nat} {o : Option (Nat × Nat)} {W0 w : World} {v : Value} {bs : List UInt8} (h : Buf B o W0 v (asI bs) w) : ∃ g cap, v = .slice (some ⟨g, 0, none⟩) bs.length cap ∧
    (convert 68 9 (.slice (some ⟨g, 0, none⟩) bs.length cap)).run Tryz.prog w = .ok (.string ⟨bs.toArray⟩) w := by
  obtain ⟨g, cap, cur, hv, hB, hcur⟩ := own_of h.own h.nz
  have hl : (asI bs).length = bs.length := by simp [asI]
  rw [hl] at hv
  refine ⟨g, cap, hv, ?_⟩
  have hown := h.own
  rw [hl, hv] at hown
  exact run_convert_bytes_back w 68 9 5 ⟨g, 0, none⟩ cap bs Tryz.underlying68 Tryz.underlying5 Tryz.underlying9 (fun i hi' => by
    exact hown.cells (g := g) rfl i _ (by simp [asI, hi']))
set_option maxHeartbeats 1000000 in
set_option maxRecDepth 100000 in
theorem format_of (x : Nat) (fmt : Int) (bs : List UInt8) (w : World) (hGl : Glob w)
    (HF : Hid (∀ (v : Value) (W : World), Buf w.heap.size none w v [] W → Glob W → Calls Tryz.prog 51 #[v, .float .f64 x, .int .u8 fmt, .int .i64 (-1)] W fun r w' => ∃ v' o, r = .returned v' ∧ Buf w.heap.size o w v' (asI bs) w')) :
    Calls Tryz.prog 36 #[.float .f64 x, .int .u8 fmt, .int .i64 (-1), .int .i64 64] w fun r w' => r = .returned (.string ⟨bs.toArray⟩) ∧ Below w.heap.size w w' := by
  obtain ⟨i0, hi, hz0, hz1, hz2⟩ := info_parts infoByte
  go_enter Tryz.func36, Tryz.ntmps36
  go_wp2_with (first
    | (at_make; refine wpList_make_own _ rfl _ _ 68 rfl w.heap.size 5 i0 (.int .u8 0) 1 Tryz.underlying68 hi hz0 hz1 _ _ _ 24 rfl rfl (by decide) (by rw [hz2]; decide) (by unfold maxLen; decide) (Nat.le_refl _) ?_; intro w1 hown hgrow)
    | fail)
  have hb1 : Below w.heap.size w w1 := (Below.refl _ _).grown hgrow (Nat.le_refl _) (fun k e => by cases e)
  have hbuf : Buf w.heap.size none w (.slice (some ⟨w.heap.size, 0, none⟩) 0 24) [] w1 := ⟨hown, by simp, hb1, hb1.size, by decide, fun g u e => by cases e⟩
  refine (HF.out _ w1 hbuf (hGl.below hb1)).mono ?_
  rintro r w2 ⟨v', o, rfl, hb2⟩
  obtain ⟨g, cap, rfl, hcv⟩ := hb2.text
  go_wp2
  go_ret
  exact ⟨rfl, hb2.below⟩
set_option maxHeartbeats 1000000 in
set_option maxRecDepth 100000 in
theorem Format_of (x : Nat) (fmt : Int) (bs : List UInt8) (w : World) (hGl : Glob w)
    (HF : Hid (∀ (v : Value) (W : World), Buf w.heap.size none w v [] W → Glob W → Calls Tryz.prog 51 #[v, .float .f64 x, .int .u8 fmt, .int .i64 (-1)] W fun r w' => ∃ v' o, r = .returned v' ∧ Buf w.heap.size o w v' (asI bs) w')) :
    Calls Tryz.prog 24 #[.float .f64 x, .int .u8 fmt, .int .i64 (-1), .int .i64 64] w fun r w' => r = .returned (.string ⟨bs.toArray⟩) ∧ Below w.heap.size w w' := by
  go_enter Tryz.func24, Tryz.ntmps24
  go_wp2_with fail
  refine (format_of x fmt bs w hGl HF).mono ?_
  rintro r w2 ⟨rfl, hb2⟩
  go_wp2
  go_ret
  exact ⟨rfl, hb2⟩
end Go.Proofs.YthgpdniflkojpaaGreatDoor
/- FormatFloat AT EVERY FLOAT. Own work of the verifier. -/
namespace Go.Proofs.YthgpdniflkojpaaGreatDoor
open Go.RowKit Go.Sort

def sgn (neg : Bool) : List UInt8 := if neg then [45] else []
/-- The bytes of digits without an exponent. -/
def fB (neg : Bool) (u k : Nat) (dp : Int) : List UInt8 :=
  if dp ≤ 0 then sgn neg ++ [48, 46] ++ List.replicate (-dp).toNat 48 ++ (Lib.decDigits u).take k
  else if (k : Int) ≤ dp then sgn neg ++ (Lib.decDigits u).take k ++ List.replicate (dp.toNat - k) 48
  else sgn neg ++ (Lib.decDigits u).take dp.toNat ++ [46] ++ ((Lib.decDigits u).take k).drop dp.toNat
theorem fB_txt (neg : Bool) (u k : Nat) (dp : Int) : asI (fB neg u k dp) = fTxt neg u k dp := by
  unfold fB fTxt sgn asI dI behind
  by_cases h : dp ≤ 0
  · rw [if_pos h, if_pos h]; cases neg <;> simp [List.map_take]
  · rw [if_neg h, if_neg h]
    by_cases h' : (k : Int) ≤ dp
    · rw [if_pos h', if_pos h']; cases neg <;> simp [List.map_take]
    · rw [if_neg h', if_neg h']; cases neg <;> simp [List.map_take, List.map_drop, dI]
/-- The bytes of an exponent as the library tells it. -/
def xDig (E : Nat) : List UInt8 := if E < 10 then [48, UInt8.ofNat (E + 48)] else if E < 100 then [UInt8.ofNat (E / 10 + 48), UInt8.ofNat (E % 10 + 48)] else [UInt8.ofNat (E / 100 + 48), UInt8.ofNat (E / 10 % 10 + 48), UInt8.ofNat (E % 10 + 48)]
def xTail (dp : Int) : List UInt8 := if dp - 1 < 0 then 45 :: xDig (1 - dp).toNat else 43 :: xDig (dp - 1).toNat
def eHead (neg : Bool) (u k : Nat) : List UInt8 := if k = 1 then sgn neg ++ [(Lib.decDigits u).getD 0 0] else sgn neg ++ [(Lib.decDigits u).getD 0 0, 46] ++ ((Lib.decDigits u).take k).drop 1
def eB (neg : Bool) (u k : Nat) (dp : Int) : List UInt8 := eHead neg u k ++ 101 :: xTail dp
theorem xDig_I : ∀ E < 400, asI (xDig E) = eDig E := by decide +kernel
theorem xTail_I (dp : Int) (h0 : -390 ≤ dp) (h1 : dp ≤ 390) : asI (101 :: xTail dp) = eTail dp := by
  unfold xTail eTail
  by_cases h : dp - 1 < 0
  · rw [if_pos h, if_pos h, ← xDig_I _ (by omega)]; rfl
  · rw [if_neg h, if_neg h, ← xDig_I _ (by omega)]; rfl
theorem first_I (u : Nat) : (dI u).getD 0 0 = (((Lib.decDigits u).getD 0 0).toNat : Int) := by
  unfold dI
  cases Lib.decDigits u <;> rfl
theorem eB_txt (neg : Bool) (u k : Nat) (dp : Int) (h0 : -390 ≤ dp) (h1 : dp ≤ 390) : asI (eB neg u k dp) = eTxt neg u k dp := by
  unfold eB eTxt
  rw [← xTail_I dp h0 h1, first_I]
  unfold eHead asI sgn mid dI
  by_cases h : k = 1
  · rw [if_pos h, if_pos h]; cases neg <;> simp
  · rw [if_neg h, if_neg h]; cases neg <;> simp [List.map_take]
/-- Where a float's point stands. -/
def pt (x : Nat) : Int := (Lib.nDigits (sd x).1 : Int) + (sd x).2
theorem sd_bounds (x : Nat) (h0 : x % 9223372036854775808 ≠ 0) (h1 : x % 9223372036854775808 < 9218868437227405312) : 1 ≤ (sd x).1 ∧ (sd x).1 < 288230376151711744 ∧ -350 ≤ (sd x).2 ∧ (sd x).2 ≤ 350 := by
  by_cases hs : x % 9223372036854775808 < 4503599627370496
  · obtain ⟨z, z1, z2, z3, z4, z5, z6, z7, z8⟩ := sub_bits (x % 4503599627370496) (by omega) (by omega)
    have hsd : sd x = shortF (x % 4503599627370496 * 2 ^ z) (-1074 - (z : Int)) := by unfold sd; rw [if_pos hs, z1]
    rw [hsd]
    exact short_between (x % 4503599627370496 * 2 ^ z) (-1074 - (z : Int)) z5 z6 (by omega) (fun _ => by rw [show (-1075 - (-1074 - (z : Int))).toNat = z - 1 from by omega]; exact z8) (by omega) (by omega)
  · have hsd : sd x = shortF ((4503599627370496 + x % 4503599627370496) * 2048) ((x / 4503599627370496 % 2048 : Nat) - 1086) := by unfold sd; rw [if_neg hs]
    rw [hsd]
    exact short_between ((4503599627370496 + x % 4503599627370496) * 2048) ((x / 4503599627370496 % 2048 : Nat) - 1086) (by omega) (by omega) (by omega) (by omega) (by omega) (by omega)
theorem pt_bounds (x : Nat) (h0 : x % 9223372036854775808 ≠ 0) (h1 : x % 9223372036854775808 < 9218868437227405312) : -390 ≤ pt x ∧ pt x ≤ 390 := by
  obtain ⟨a, b, c, d⟩ := sd_bounds x h0 h1
  have := Lib.nDigits_le20 (sd x).1 (by omega)
  unfold pt
  omega
/-- The text with an exponent, as the library tells it, of a finite float but 0. -/
noncomputable def eText (x : Nat) : List UInt8 := eB (decide (9223372036854775808 ≤ x)) (sd x).1 (trimLen (sd x).1) (pt x)
/-- The text without an exponent. -/
noncomputable def fText (x : Nat) : List UInt8 :=
  if x % 9223372036854775808 = 0 then (if 9223372036854775808 ≤ x then [45, 48] else [48])
  else if 9218868437227405312 < x % 9223372036854775808 then [78, 97, 78]
  else if x % 9223372036854775808 = 9218868437227405312 then (if 9223372036854775808 ≤ x then [45, 73, 110, 102] else [43, 73, 110, 102])
  else fB (decide (9223372036854775808 ≤ x)) (sd x).1 (trimLen (sd x).1) (pt x)
theorem Format_e (x : Nat) (hx : x < 18446744073709551616) (h0 : x % 9223372036854775808 ≠ 0) (h1 : x % 9223372036854775808 < 9218868437227405312) (w : World) (hGl : Glob w) :
    Calls Tryz.prog 24 #[.float .f64 x, .int .u8 101, .int .i64 (-1), .int .i64 64] w fun r w' => r = .returned (.string ⟨(eText x).toArray⟩) ∧ Below w.heap.size w w' := by
  refine Format_of x 101 (eText x) w hGl (fun v W hbuf hG => ?_)
  obtain ⟨p0, p1⟩ := pt_bounds x h0 h1
  unfold eText
  rw [eB_txt _ _ _ _ p0 p1]
  exact ftoaE_all x hx h0 h1 _ _ _ v hbuf hG
theorem Format_f (x : Nat) (hx : x < 18446744073709551616) (h0 : x % 9223372036854775808 = 0 ∨ 4503599627370496 ≤ x % 9223372036854775808) (w : World) (hGl : Glob w) :
    Calls Tryz.prog 24 #[.float .f64 x, .int .u8 102, .int .i64 (-1), .int .i64 64] w fun r w' => r = .returned (.string ⟨(fText x).toArray⟩) ∧ Below w.heap.size w w' := by
  refine Format_of x 102 (fText x) w hGl (fun v W hbuf hG => ?_)
  have n1 := neg_bit x hx
  have n2 := ex_field x hx
  have n3 := fr_field x hx
  by_cases c0 : x % 9223372036854775808 = 0
  · have := ftoaF_zero _ x _ _ _ v hbuf n1 (by rw [n2]; omega) (by rw [n3]; omega) hx
    rw [show asI (fText x) = (if decide (9223372036854775808 ≤ x) then [45, 48] else [48]) from by unfold fText; rw [if_pos c0]; by_cases hn : 9223372036854775808 ≤ x <;> simp [hn, asI]]
    exact this
  · by_cases c1 : x % 9223372036854775808 < 9218868437227405312
    · rw [show fText x = fB (decide (9223372036854775808 ≤ x)) (sd x).1 (trimLen (sd x).1) (pt x) from by unfold fText; rw [if_neg c0, if_neg (by omega), if_neg (by omega)], fB_txt]
      exact ftoaF_all x hx (by omega) c1 _ _ _ v hbuf hG
    · have := ftoaF_special _ (decide (9218868437227405312 < x % 9223372036854775808)) x (x % 4503599627370496) _ _ _ v hbuf n1 (by rw [n2]; omega) n3 (by
        by_cases hn : 9218868437227405312 < x % 9223372036854775808
        · rw [decide_eq_true hn, bne_iff_ne]; omega
        · rw [decide_eq_false hn, bne_eq_false_iff_eq]; omega) hx
      refine this.mono ?_
      rintro r w' ⟨v', o, e, hb⟩
      refine ⟨v', o, e, ?_⟩
      have he : asI (fText x) = (if decide (9218868437227405312 < x % 9223372036854775808) then [78, 97, 78] else if decide (9223372036854775808 ≤ x) then [45, 73, 110, 102] else [43, 73, 110, 102]) := by
        unfold fText
        rw [if_neg c0]
        by_cases hn : 9218868437227405312 < x % 9223372036854775808
        · simp [hn, asI]
        · rw [if_neg hn, if_pos (by omega)]
          by_cases hm : 9223372036854775808 ≤ x <;> simp [hn, hm, asI]
      rw [he]
      exact hb
end Go.Proofs.YthgpdniflkojpaaGreatDoor
