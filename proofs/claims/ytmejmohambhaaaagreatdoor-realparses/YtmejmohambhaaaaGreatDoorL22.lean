/- THE TEXTS OF 0 AND OF LEAST FLOATS, as the library writes them. Own work of the verifier. -/
import Derived.Test.YtmejmohambhaaaaGreatDoorL11
namespace Go.Proofs.YtmejmohambhaaaaGreatDoor
open Go.RowKit Go.Sort

set_option maxHeartbeats 1000000 in
set_option maxRecDepth 100000 in
theorem fmtF_zero (neg : Bool) (B : Nat) (W0 w : World) (v : Value) (hbuf : Buf B none W0 v [] w) :
    Calls Tryz.prog 60 #[v, .bool neg, .slice none 0 0, .int .i64 0, .int .i64 0, .int .i64 (-1), .int .u8 102, .bool true] w fun r w' => ∃ v', r = .returned v' ∧ Buf B none W0 v' (if neg then [45, 48] else [48]) w' := by
  obtain ⟨i0, hi, hz0, hz1, hz2⟩ := info_parts infoByte
  cases neg
  all_goals
    go_enter Tryz.func60, Tryz.ntmps60
    go_wp2_with (first
      | (at_builtin; refine wpList_append_own _ rfl _ _ 58 rfl B 5 i0 (.int .u8 0) 1 1 Tryz.underlying58 hi hz0 hz1 hz2 rfl (by decide) _ _ _ rfl (hbuf.own.alloc _) ⟨_, 0, none⟩ 1 1 [_] rfl rfl (cell_one_new _ _ _) (by intro u hu; simp at hu; subst hu; rfl) (by have := hbuf.len; unfold maxLen; omega) (by have := hbuf.len; omega) (by have := hbuf.size; simp; omega) ?_; intro v w hown hgrow hnil; have hbuf := hbuf.push _ hown hgrow hnil (by simp); clear hown hgrow hnil)
      | fail)
    go_ret
    exact ⟨_, rfl, hbuf⟩
set_option maxHeartbeats 1000000 in
set_option maxRecDepth 100000 in
theorem ftoaF_zero (neg : Bool) (x : Nat) (B : Nat) (W0 w : World) (v : Value) (hbuf : Buf B none W0 v [] w)
    (hneg : ((x : Int) / 9223372036854775808 != 0) = neg) (hE : bits .and .i64 ((x : Int) / 4503599627370496) 2047 = 0) (hf : bits .and .u64 (x : Int) 4503599627370495 = 0) (hx : x < 18446744073709551616) :
    Calls Tryz.prog 43 #[v, .float .f64 x, .int .u8 102, .int .i64 (-1)] w fun r w' => ∃ v' o, r = .returned v' ∧ Buf B o W0 v' (if neg then [45, 48] else [48]) w' := by
  obtain ⟨T, HT⟩ : ∃ T : List Int, Hid ((if neg then [45, 48] else [48]) = T) := ⟨_, rfl⟩
  have HZ : Hid (∀ W v, Buf B none W0 v [] W → Calls Tryz.prog 60 #[v, .bool neg, .slice none 0 0, .int .i64 0, .int .i64 0, .int .i64 (-1), .int .u8 102, .bool true] W fun r w' => ∃ v', r = .returned v' ∧ Buf B none W0 v' T w') := fun W v h => by rw [← HT.out]; exact fmtF_zero neg B W0 W v h
  rw [HT.out]
  go_enter Tryz.func43, Tryz.ntmps43
  go_wp2_with (first
    | simp only [f64bits]
    | fail)
  go_quiet (fail)
  go_wp2_with fail
  refine (HZ.out _ v (hbuf.step (Below.drewN' (Below.refl _ _) _))).mono ?_
  rintro r w4 ⟨v', rfl, hb4⟩
  go_wp2
  go_ret
  exact ⟨_, _, rfl, hb4⟩
set_option maxHeartbeats 4000000 in
set_option maxRecDepth 100000 in
theorem ftoaE_sub (neg : Bool) (x f m u z : Nat) (e p : Int) (B : Nat) (W0 w : World) (v : Value) (T : List Int) (hbuf : Buf B none W0 v [] w) (hGl : Glob w)
    (hneg : ((x : Int) / 9223372036854775808 != 0) = neg) (hE : bits .and .i64 ((x : Int) / 4503599627370496) 2047 = 0) (hf : bits .and .u64 (x : Int) 4503599627370495 = (f : Int)) (hf0 : 1 ≤ f) (hf1 : f < 4503599627370496) (hx : x < 18446744073709551616)
    (hl : 64 - (Lib.bitLen f : Int) = (z : Int)) (hz0 : 12 ≤ z) (hz1 : z ≤ 63) (hm : (f : Int) * 2 ^ z = (m : Int)) (hm0 : 9223372036854775808 ≤ m) (hm1 : m < 18446744073709551616) (hmz : m % 2 ^ z = 0) (he : -1074 - (z : Int) = e) (hs : shortF m e = (u, p)) (hu0 : 1 ≤ u) (hu1 : u < 18446744073709551616) (hp0 : -400 ≤ p) (hp1 : p ≤ 400)
    (HC : Hid (∀ (g k : Nat) (W : World), Trim u k → Buf B (some (g, u)) W0 v [] W →
      Calls Tryz.prog 60 #[v, .bool neg, .slice (some ⟨g, 0, none⟩) 32 32, .int .i64 ((Lib.nDigits u : Int) + p), .int .i64 (k : Int), .int .i64 (max ((k : Int) - 1) 0), .int .u8 101, .bool true] W fun r w' => ∃ v' o, r = .returned v' ∧ Buf B o W0 v' T w')) :
    Calls Tryz.prog 43 #[v, .float .f64 x, .int .u8 101, .int .i64 (-1)] w fun r w' => ∃ v' o, r = .returned v' ∧ Buf B o W0 v' T w' := by
  have hM2 : ((f : Int) == 0) = false := by rw [beq_eq_false_iff_ne]; omega
  have HL : Hid (∀ W, Calls Tryz.prog 61 #[.int .u64 (f : Int)] W fun r w' => r = .returned (.int .i64 (Lib.bitLen f : Int)) ∧ w' = W) := by
    intro W
    have h := Tryz.bits_Len64 (f : Int) W (by omega) (by omega)
    rw [Int.toNat_natCast] at h
    exact h
  have HU : Hid _ := hs
  have hn20 : Lib.nDigits u ≤ 20 := Lib.nDigits_le20 u hu1
  have HMZ : Hid _ := hmz
  clear hs hmz
  generalize (Lib.bitLen f : Int) = bl at *
  go_enter Tryz.func43, Tryz.ntmps43
  go_wp2_with (first
    | simp only [f64bits]
    | (go_at_call 61; with_reducible refine (HL.out _).mono ?_; rintro r w ⟨rfl, rfl⟩)
    | fail)
  go_quiet (fail)
  go_wp2_with (first
    | (go_at_call 61; with_reducible refine (HL.out _).mono ?_; rintro r w ⟨rfl, rfl⟩)
    | fail)
  rw [show -1022 - (z : Int) - 52 = e from by omega]
  obtain ⟨W1, hW1⟩ : ∃ W1, (w.drewN nq).alloc (.cells (Array.replicate 32 (.int .u8 0)) 81) = W1 := ⟨_, rfl⟩
  have hb1 : Below w.heap.size w W1 := by rw [← hW1]; exact (Below.drewN' (Below.refl _ _) _).alloc (by rw [drewN_heap]; exact Nat.le_refl _) _
  have hbuf1 := hbuf.step hb1
  have hG1 := hGl.below hb1
  have hob1 : W1.heap[w.heap.size]? = some (.cells (Array.replicate 32 (.int .u8 0)) 81) := by
    rw [← hW1]; have := (MapKept.heap_alloc (w.drewN nq) (.cells (Array.replicate 32 (.int .u8 0)) 81)).1; rw [drewN_heap] at this; exact this
  have hz1 : w.heap.size < W1.heap.size := by
    rcases Nat.lt_or_ge w.heap.size W1.heap.size with h | h
    · exact h
    · rw [Array.getElem?_eq_none h] at hob1; cases hob1
  rw [show (w.drewN nq).alloc (.cells #[.int .u8 0, .int .u8 0, .int .u8 0, .int .u8 0, .int .u8 0, .int .u8 0, .int .u8 0, .int .u8 0, .int .u8 0, .int .u8 0, .int .u8 0, .int .u8 0, .int .u8 0, .int .u8 0, .int .u8 0, .int .u8 0, .int .u8 0, .int .u8 0, .int .u8 0, .int .u8 0, .int .u8 0, .int .u8 0, .int .u8 0, .int .u8 0, .int .u8 0, .int .u8 0, .int .u8 0, .int .u8 0, .int .u8 0, .int .u8 0, .int .u8 0, .int .u8 0] 81) = W1 from hW1]
  clear hW1
  have hB0 : B ≤ w.heap.size := hbuf.size
  refine (short_any m e hm0 hm1 (by omega) (fun _ => by rw [show (-1074 - e).toNat = z from by omega]; exact HMZ.out) (by omega) (by omega) W1 hG1.pow.lt hG1.pow).mono ?_
  rintro r w2 ⟨rfl, hb2⟩
  rw [HU.out]
  have hbuf2 := hbuf1.step hb2
  have hG2 := hG1.below hb2
  have hob2 : w2.heap[w.heap.size]? = some (.cells (Array.replicate 32 (.int .u8 0)) 81) := by rw [hb2.block _ hz1, hob1]
  clear hb2 hbuf1 hG1 hob1 hb1 HU HL
  go_wp2_with fail
  go_region_with (first
    | (go_at_call 64; refine (Tryz.internal_strconv_numDigits u hu0 hu1 _ (hG2.below (Below.drewN' (Below.refl _ _) 1)).tab).mono ?_; rintro r wn ⟨rfl, rfl⟩)
    | (go_at_call 63; refine (setDigits_any w.heap.size u p (w2.drewN 1) hob2 hu1 (by omega) (by omega)).mono ?_; rintro r w3 ⟨k, hk, hz, hnz, rfl, hD, hgr, hsz⟩))
  have hbuf3 : Buf B (some (w.heap.size, u)) W0 v [] w3 := (hbuf2.step (Below.drewN' (Below.refl _ _) 1)).digits hob2 hB0 hgr hD
  have HT : Hid (Trim u k) := ⟨hk, hz, hnz⟩
  have hk20 : k ≤ 20 := by omega
  clear hz hnz hD hgr hsz hbuf2 hG2 hob2
  go_wp2_with fail
  refine (HC.out _ k w3 HT.out hbuf3).mono ?_
  rintro r w4 ⟨v', o, rfl, hb4⟩
  go_wp2
  go_ret
  exact ⟨_, _, rfl, hb4⟩
end Go.Proofs.YtmejmohambhaaaaGreatDoor
