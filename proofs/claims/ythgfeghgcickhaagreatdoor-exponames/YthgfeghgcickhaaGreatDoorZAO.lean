/- THE PLAIN MATHEMATICS of numerals (no Go in sight). Own work of the verifier. -/
import Derived.Test.YthgfeghgcickhaaGreatDoorZAK
import Derived.Lib.ItoaNum
import Derived.Lib.Repeat
import Derived.Test.YthgfeghgcickhaaGreatDoorZAN
namespace Go.Proofs.YthgfeghgcickhaaGreatDoor.Wi

theorem dec_small {u : Nat} (h : u < 10) : Lib.decDigits u = [UInt8.ofNat (48 + u)] := by rw [Lib.decDigits, dif_pos h]
theorem dec_big {u : Nat} (h : ¬ u < 10) : Lib.decDigits u = Lib.decDigits (u / 10) ++ [UInt8.ofNat (48 + u % 10)] := by rw [Lib.decDigits, dif_neg h]
theorem dec_snoc {a b : Nat} (ha : 0 < a) (hb : b < 10) : Lib.decDigits (a * 10 + b) = Lib.decDigits a ++ [UInt8.ofNat (48 + b)] := by
  rw [dec_big (by omega), show (a * 10 + b) / 10 = a from by omega, show (a * 10 + b) % 10 = b from by omega]

/-- The numeral of a number in two pieces. -/
theorem dec_join (a : Nat) (ha : 0 < a) : ∀ (k b : Nat), 1 ≤ k → b < 10 ^ k → Lib.decDigits (a * 10 ^ k + b) = Lib.decDigits a ++ (List.replicate (k - Lib.nDigits b) 48 ++ Lib.decDigits b)
  | 0, _, h, _ => by omega
  | 1, b, _, hb => by
    have hb' : b < 10 := by simpa using hb
    rw [show (10 : Nat) ^ 1 = 10 from rfl, dec_snoc ha hb', Lib.nDigits_small hb', dec_small hb']
    simp
  | k + 2, b, _, hb => by
    have hp : (10 : Nat) ^ (k + 2) = 10 ^ (k + 1) * 10 := Nat.pow_succ ..
    have hpos : 0 < 10 ^ (k + 1) := Nat.pow_pos (by decide)
    rw [hp] at hb
    have hN : a * 10 ^ (k + 2) + b = (a * 10 ^ (k + 1) + b / 10) * 10 + b % 10 := by
      rw [hp, ← Nat.mul_assoc]
      omega
    have h1 : 0 < a * 10 ^ (k + 1) := Nat.mul_pos ha hpos
    rw [hN, dec_snoc (by omega) (Nat.mod_lt _ (by decide)), dec_join a ha (k + 1) (b / 10) (by omega) (by omega)]
    by_cases hb10 : b < 10
    · rw [show b / 10 = 0 from by omega, show b % 10 = b from by omega, Lib.nDigits_small (u := 0) (by decide), Lib.nDigits_small hb10, dec_small (u := 0) (by decide), dec_small hb10, show k + 2 - 1 = (k + 1 - 1) + 1 from by omega, List.replicate_succ']
      simp
    · rw [Lib.nDigits_big hb10, dec_big hb10, show k + 2 - (Lib.nDigits (b / 10) + 1) = k + 1 - Lib.nDigits (b / 10) from by omega]
      simp

theorem nDigits_le_pow : ∀ (k u : Nat), u < 10 ^ (k + 1) → Lib.nDigits u ≤ k + 1
  | 0, u, h => by rw [Lib.nDigits_small (by simpa using h)]; omega
  | k + 1, u, h => by
    by_cases hu : u < 10
    · rw [Lib.nDigits_small hu]; omega
    · rw [Lib.nDigits_big hu]
      have := nDigits_le_pow k (u / 10) (by rw [Nat.pow_succ] at h; omega)
      omega
theorem repeat_48 (k : Nat) : Lib.repeatL [48] k = List.replicate k 48 := by
  induction k with
  | zero => rfl
  | succ k ih => simp [Lib.repeatL, ih, List.replicate_succ]

/-- The text of a magnitude in two pieces of 64 bits. -/
theorem dec_piece (N : Nat) (h : ¬ N / 10000000000000000000 = 0) :
    Lib.decDigits (N / 10000000000000000000) ++ (Lib.repeatL [48] (19 - Lib.nDigits (N % 10000000000000000000)) ++ Lib.decDigits (N % 10000000000000000000)) = Lib.decDigits N := by
  have e := dec_join (N / 10000000000000000000) (by omega) 19 (N % 10000000000000000000) (by omega) (by simp only [show (10 : Nat) ^ 19 = 10000000000000000000 from by decide]; omega)
  rw [repeat_48, ← e, show (10 : Nat) ^ 19 = 10000000000000000000 from by decide]
  congr 1
  omega
end Go.Proofs.YthgfeghgcickhaaGreatDoor.Wi
namespace Go.Proofs.YthgfeghgcickhaaGreatDoor.Wi
open Go.RowKit Go.Sort


/-- strings.Repeat of a zero. -/
theorem rep_any (c : Int) (h0 : 0 ≤ c) (h1 : c ≤ 19) (w : World) :
    Calls Tryz.prog 104 #[.string ⟨#[48]⟩, .int .i64 c] w fun e w' => e = .returned (.string ⟨(Lib.repeatL [48] c.toNat).toArray⟩) ∧ Below w.heap.size w w' := by
  obtain ⟨c, rfl⟩ := Int.eq_ofNat_of_zero_le h0
  rw [Int.toNat_natCast]
  have h := Tryz.strings_Repeat ⟨#[48]⟩ c w (by omega) (by show 1 * c ≤ _; omega)
  exact h
set_option maxHeartbeats 1000000 in
set_option maxRecDepth 100000 in
theorem digits_any (hi lo : Int) (h0 : 0 ≤ hi) (h1 : hi ≤ 9223372036854775808) (h2 : 0 ≤ lo) (h3 : lo < 18446744073709551616) (w : World) (htab : Tab w) :
    Calls Tryz.prog 70 #[.int .u64 hi, .int .u64 lo] w fun e w' => e = .returned (.string ⟨(Lib.decDigits (val hi lo).toNat).toArray⟩) ∧ Below w.heap.size w w' := by
  have hd := div64_any hi lo 10000000000000000000 h0 h2 h3 (by omega) (by decide)
  obtain ⟨N, hN⟩ : ∃ N : Nat, (N : Int) = hi * 18446744073709551616 + lo := ⟨(hi * 18446744073709551616 + lo).toNat, by omega⟩
  rw [← hN] at hd
  have q0 : 0 ≤ (N : Int) / 10000000000000000000 := by omega
  have q1 : (N : Int) / 10000000000000000000 < 18446744073709551616 := by omega
  have r0 : 0 ≤ (N : Int) % 10000000000000000000 := by omega
  have r1 : (N : Int) % 10000000000000000000 < 10000000000000000000 := by omega
  rw [show (val hi lo).toNat = N from by unfold val; omega]
  have hq : ((N : Int) / 10000000000000000000).toNat = N / 10000000000000000000 := by omega
  have hr : ((N : Int) % 10000000000000000000).toNat = N % 10000000000000000000 := by omega
  have hlen := nDigits_le_pow 18 (N % 10000000000000000000) (by rw [show (10 : Nat) ^ (18 + 1) = 10000000000000000000 from by decide]; omega)
  rw [← Lib.decDigits_length] at hlen
  have hl1 : ((Lib.decDigits (N % 10000000000000000000)).length : Int) ≤ 19 := by omega
  have hl0 : Lib.repeatL [48] (19 - ((Lib.decDigits (N % 10000000000000000000)).length : Int)).toNat = Lib.repeatL [48] (19 - Lib.nDigits (N % 10000000000000000000)) := by
    congr 1
    rw [Lib.decDigits_length]; rw [Lib.decDigits_length] at hl1; omega
  have HL0 : Hid _ := hl0
  have hA : (Lib.decDigits (N / 10000000000000000000)).length ≤ 20 := by
    rw [Lib.decDigits_length]; exact nDigits_le_pow 19 _ (by rw [show (10 : Nat) ^ (19 + 1) = 100000000000000000000 from by decide]; omega)
  have hZ : (Lib.repeatL [48] (19 - Lib.nDigits (N % 10000000000000000000))).length ≤ 19 := by rw [repeat_48, List.length_replicate]; omega
  have HD : Hid _ := hd
  clear hlen hl0
  have HP : Hid _ := dec_piece N
  have f1 := fun W (h : Tab W) => fmt_any ((N : Int) / 10000000000000000000) q0 q1 W h
  have f2 := fun W (h : Tab W) => fmt_any ((N : Int) % 10000000000000000000) r0 (by omega) W h
  rw [hq] at f1
  rw [hr] at f2
  have F1 : Hid _ := f1
  have F2 : Hid _ := f2
  clear hd hN f1 f2 hq hr
  have hfin : ¬ (N : Int) / 10000000000000000000 = 0 → Lib.decDigits (N / 10000000000000000000) ++ (Lib.repeatL [48] (19 - Lib.nDigits (N % 10000000000000000000)) ++ Lib.decDigits (N % 10000000000000000000)) = Lib.decDigits N := by
    intro h
    exact HP.out (by omega)
  have HF : Hid _ := hfin
  clear HP hfin
  by_cases hz : (N : Int) / 10000000000000000000 = 0
  · have hN2 : N % 10000000000000000000 = N := by omega
    have HN2 : Hid _ := hN2
    have hz' : ((N : Int) / 10000000000000000000 == 0) = true := by rw [beq_iff_eq]; exact hz
    clear hN2 hz
    go_enter Tryz.func70, Tryz.ntmps70
    go_wp2_with fail
    refine (HD.out _).mono ?_
    rintro e w1 ⟨rfl, k, rfl⟩
    go_wp2_with fail
    refine (F2.out _ (htab.drewN k)).mono ?_
    rintro e w2 ⟨rfl, hb⟩
    go_wp2
    go_ret
    refine ⟨?_, (Below.drewN' (Below.refl _ _) k).trans hb⟩
    rw [HN2.out]
    rfl
  · have hz' : ((N : Int) / 10000000000000000000 == 0) = false := by rw [beq_eq_false_iff_ne]; exact hz
    have HF' : Hid _ := HF.out hz
    clear HF
    generalize Lib.decDigits (N / 10000000000000000000) = A at *
    generalize Lib.repeatL [48] (19 - Lib.nDigits (N % 10000000000000000000)) = Z at *
    generalize Lib.decDigits (N % 10000000000000000000) = C at *
    generalize Lib.decDigits N = D at *
    generalize (N : Int) / 10000000000000000000 = q at *
    generalize (N : Int) % 10000000000000000000 = r at *
    have c1 : ∀ W, (Op.stringOp .add ⟨A.toArray⟩ ⟨Z.toArray⟩).run Tryz.prog W = .ok (.string ⟨(A ++ Z).toArray⟩) W := fun W => run_string_add_lists W A Z (by omega) (by omega)
    have c2 : ∀ W, (Op.stringOp .add ⟨(A ++ Z).toArray⟩ ⟨C.toArray⟩).run Tryz.prog W = .ok (.string ⟨(A ++ Z ++ C).toArray⟩) W := fun W => run_string_add_lists W (A ++ Z) C (by rw [List.length_append]; omega) (by omega)
    go_enter Tryz.func70, Tryz.ntmps70
    go_wp2_with fail
    refine (HD.out _).mono ?_
    rintro e w1 ⟨rfl, k, rfl⟩
    go_wp2_with fail
    refine (F2.out _ (htab.drewN k)).mono ?_
    rintro e w2 ⟨rfl, hb⟩
    go_wp2_with fail
    refine (F1.out _ ((htab.drewN k).below hb)).mono ?_
    rintro e w3 ⟨rfl, hb3⟩
    go_wp2_with fail
    refine (rep_any _ (by omega) (by omega) _).mono ?_
    rintro e w4 ⟨rfl, hb4⟩
    rw [HL0.out]
    go_wp2
    go_ret
    exact ⟨by rw [← HF'.out]; rfl, (((Below.drewN' (Below.refl _ _) k).trans hb).trans (hb3.mono hb.size)).trans (hb4.mono (Nat.le_trans hb.size hb3.size))⟩
end Go.Proofs.YthgfeghgcickhaaGreatDoor.Wi
namespace Go.Proofs.YthgfeghgcickhaaGreatDoor.Wi
open Go.RowKit Go.Sort

theorem mag_le {ah al : Int} (h1 : Wf ah al) : 0 ≤ hiOf (mag (val ah al)) ∧ hiOf (mag (val ah al)) ≤ 9223372036854775808 ∧ 0 ≤ loOf (mag (val ah al)) ∧ loOf (mag (val ah al)) < 18446744073709551616 := by
  obtain ⟨_, _, _, _⟩ := h1
  unfold mag hiOf loOf val; split <;> omega
theorem itoa_neg' {n : Int} (h : n < 0) : Lib.itoa n = 45 :: Lib.decDigits (mag n).toNat := by
  unfold Lib.itoa mag; rw [if_pos h, if_pos h, show n.natAbs = (-n).toNat from by omega]
theorem itoa_pos' {n : Int} (h : ¬ n < 0) : Lib.itoa n = Lib.decDigits (mag n).toNat := by
  unfold Lib.itoa mag; rw [if_neg h, if_neg h]
theorem dec_len (N : Nat) (h : N ≤ 170141183460469231731687303715884105728) : (Lib.decDigits N).length ≤ 39 := by
  rw [Lib.decDigits_length]; exact nDigits_le_pow 38 _ (by rw [show (10 : Nat) ^ (38 + 1) = 1000000000000000000000000000000000000000 from by decide]; omega)
theorem val_neg {ah al : Int} (h1 : Wf ah al) : val ah al < 0 ↔ ah < 0 := by
  obtain ⟨_, _, _, _⟩ := h1; unfold val; omega

set_option maxHeartbeats 1000000 in
set_option maxRecDepth 100000 in
theorem print_any (ah al : Int) (h1 : Wf ah al) (w : World) (htab : Tab w) :
    Calls Tryz.prog 39 #[.agg #[.int .i64 ah, .int .u64 al]] w fun e w' =>
      e = .returned (.string ⟨(Lib.itoa (val ah al)).toArray⟩) ∧ Below w.heap.size w w' := by
  obtain ⟨m0, m1, m2, m3⟩ := mag_le h1
  have hd := fun W => digits_any _ _ m0 m1 m2 m3 W
  rw [val_hl] at hd
  have HD : Hid _ := hd
  have HM : Hid _ := mag_any ah al h1
  have hl : (Lib.decDigits (mag (val ah al)).toNat).length ≤ 39 := dec_len _ (by obtain ⟨_, _, _, _⟩ := h1; unfold mag val; split <;> omega)
  clear hd
  by_cases hn : ah < 0
  · rw [itoa_neg' ((val_neg h1).2 hn)]
    generalize Lib.decDigits (mag (val ah al)).toNat = D at *
    generalize hiOf (mag (val ah al)) = mh at *
    generalize loOf (mag (val ah al)) = ml at *
    have c1 : ∀ W, (Op.stringOp .add ⟨#[45]⟩ ⟨D.toArray⟩).run Tryz.prog W = .ok (.string ⟨(45 :: D).toArray⟩) W := fun W => run_string_add_lists W [45] D (by decide) (by omega)
    clear h1
    go_enter Tryz.func39, Tryz.ntmps39
    go_wp2_with fail
    refine (HM.out _).mono ?_
    rintro e w1 ⟨rfl, hb1⟩
    go_wp2_with fail
    refine (HD.out _ ((htab.alloc _).below hb1)).mono ?_
    rintro e w2 ⟨rfl, hb2⟩
    have hc : w2.cell? ⟨w.heap.size, 0, none⟩ = some (.int .i64 ah) := by
      rw [hb2.cell (p := ⟨w.heap.size, 0, none⟩) (by have := hb1.size; simp at this; simp; omega), hb1.cell (p := ⟨w.heap.size, 0, none⟩) (by simp)]
      simp [go_sem]
    go_wp2
    go_ret
    exact ⟨rfl, ((bel1 w _).trans (hb1.mono (by simp))).trans (hb2.mono (by have := hb1.size; simp at this; omega))⟩
  · rw [itoa_pos' (fun h => hn ((val_neg h1).1 h))]
    generalize Lib.decDigits (mag (val ah al)).toNat = D at *
    generalize hiOf (mag (val ah al)) = mh at *
    generalize loOf (mag (val ah al)) = ml at *
    clear h1
    go_enter Tryz.func39, Tryz.ntmps39
    go_wp2_with fail
    refine (HM.out _).mono ?_
    rintro e w1 ⟨rfl, hb1⟩
    go_wp2_with fail
    refine (HD.out _ ((htab.alloc _).below hb1)).mono ?_
    rintro e w2 ⟨rfl, hb2⟩
    have hc : w2.cell? ⟨w.heap.size, 0, none⟩ = some (.int .i64 ah) := by
      rw [hb2.cell (p := ⟨w.heap.size, 0, none⟩) (by have := hb1.size; simp at this; simp; omega), hb1.cell (p := ⟨w.heap.size, 0, none⟩) (by simp)]
      simp [go_sem]
    go_wp2
    go_ret
    exact ⟨rfl, ((bel1 w _).trans (hb1.mono (by simp))).trans (hb2.mono (by have := hb1.size; simp at this; omega))⟩
end Go.Proofs.YthgfeghgcickhaaGreatDoor.Wi
