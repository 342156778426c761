import Derived.Test.YtbobhjgndgaoaaaDoorT7
import Derived.Test.YtbobhjgndgaoaaaDoorText
namespace Go.Proofs.YtbobhjgndgaoaaaDoor
open Go.RowKit Go.Sort

/-- bits.Mul64, over Int. -/
theorem mul64_any (x y : Int) (hx0 : 0 ≤ x) (hx : x < 18446744073709551616) (hy0 : 0 ≤ y) (hy : y < 18446744073709551616) (w : World) :
    Calls Tryd.prog 46 #[.int .u64 x, .int .u64 y] w fun e w' => e = .returned (.tuple #[.int .u64 (hiOf (x * y)), .int .u64 (loOf (x * y))]) ∧ w' = w := by
  obtain ⟨x, rfl⟩ := Int.eq_ofNat_of_zero_le hx0
  obtain ⟨y, rfl⟩ := Int.eq_ofNat_of_zero_le hy0
  refine (Tryd.bits_Mul64 x y (by omega) (by omega) w).mono ?_
  rintro e w' ⟨rfl, rfl⟩
  refine ⟨?_, rfl⟩
  unfold hiOf loOf
  rw [← Int.natCast_mul]
  simp only [Int.natCast_ediv, Int.natCast_emod]
  rfl
set_option maxHeartbeats 400000 in
theorem mul_any (x y : Int) (hx0 : 0 ≤ x) (hx : x < 18446744073709551616) (hy0 : 0 ≤ y) (hy : y < 18446744073709551616) (w : World) :
    Calls Tryd.prog 31 #[.int .u64 x, .int .u64 y] w fun e w' => e = .returned (.tuple #[.int .u64 (hiOf (x * y)), .int .u64 (loOf (x * y))]) ∧ w' = w := by
  go_enter Tryd.func31, Tryd.ntmps31
  go_wp2_with fail
  refine (mul64_any x y hx0 hx hy0 hy _).mono ?_
  rintro e w1 ⟨rfl, rfl⟩
  go_wp2
  go_ret2
  exact ⟨rfl, rfl⟩
theorem rnd_words {h l : Int} (l0 : 0 ≤ l) (l1 : l < 18446744073709551616) : hiOf (rnd (h * 18446744073709551616 + l)) = wrap64 h ∧ loOf (rnd (h * 18446744073709551616 + l)) = l := by
  unfold wrap64 hiOf loOf rnd; constructor <;> omega
theorem wrap64_add (a b : Int) : wrap64 (wrap64 a + b) = wrap64 (a + b) := by unfold wrap64; omega
theorem ten_words {ah al : Int} (_h1 : Wf ah al) : wrap64 (wrap64 (ah * 10) + hiOf (al * 10)) = hiOf (rnd (val ah al * 10)) ∧ loOf (al * 10) = loOf (rnd (val ah al * 10)) := by
  have e : val ah al * 10 = (ah * 10 + hiOf (al * 10)) * 18446744073709551616 + loOf (al * 10) := by unfold val hiOf loOf; omega
  obtain ⟨e1, e2⟩ := rnd_words (h := ah * 10 + hiOf (al * 10)) (l := loOf (al * 10)) (by unfold loOf; omega) (by unfold loOf; omega)
  rw [wrap64_add, e, e1, e2]
  exact ⟨rfl, rfl⟩
set_option maxHeartbeats 400000 in
theorem ten_any (ah al : Int) (h1 : Wf ah al) (w : World) :
    Calls Tryd.prog 49 #[.agg #[.int .i64 ah, .int .u64 al]] w fun e w' =>
      e = .returned (num (rnd (val ah al * 10))) ∧ Below w.heap.size w w' := by
  rw [num_of (ten_words h1)]
  have k0 : 0 ≤ hiOf (al * 10) := by obtain ⟨_, _, _, _⟩ := h1; unfold hiOf; omega
  have k1 : hiOf (al * 10) ≤ 9 := by obtain ⟨_, _, _, _⟩ := h1; unfold hiOf; omega
  obtain ⟨a1, a2, a3, a4⟩ := h1
  go_enter Tryd.func49, Tryd.ntmps49
  go_wp2_with fail
  refine (mul_any al 10 a3 a4 (by decide) (by decide) _).mono ?_
  rintro e w1 ⟨rfl, rfl⟩
  go_wp2
  simp [bodyPost, results, Tryd.results49, go_sem]
  exact bel2 _ _ _

/-- strings.Repeat of a zero. -/
theorem rep_any (c : Int) (h0 : 0 ≤ c) (h1 : c ≤ 19) (w : World) :
    Calls Tryd.prog 51 #[.string ⟨#[48]⟩, .int .i64 c] w fun e w' => e = .returned (.string ⟨(Lib.repeatL [48] c.toNat).toArray⟩) ∧ Below w.heap.size w w' := by
  obtain ⟨c, rfl⟩ := Int.eq_ofNat_of_zero_le h0
  rw [Int.toNat_natCast]
  have h := Tryd.strings_Repeat ⟨#[48]⟩ c w (by omega) (by show 1 * c ≤ _; omega)
  exact h
set_option maxHeartbeats 1000000 in
set_option maxRecDepth 100000 in
theorem digits_any (hi lo : Int) (h0 : 0 ≤ hi) (h1 : hi ≤ 9223372036854775808) (h2 : 0 ≤ lo) (h3 : lo < 18446744073709551616) (w : World) (htab : Tab w) :
    Calls Tryd.prog 39 #[.int .u64 hi, .int .u64 lo] w fun e w' => e = .returned (.string ⟨(Lib.decDigits (val hi lo).toNat).toArray⟩) ∧ Below w.heap.size w w' := by
  have hd := div64_any hi lo 10000000000000000000 h0 h2 h3 (by omega) (by decide)
  obtain ⟨N, hN⟩ : ∃ N : Nat, (N : Int) = hi * 18446744073709551616 + lo := ⟨(hi * 18446744073709551616 + lo).toNat, by omega⟩
  rw [← hN] at hd
  have q0 : 0 ≤ (N : Int) / 10000000000000000000 := by omega
  have q1 : (N : Int) / 10000000000000000000 < 18446744073709551616 := by omega
  have r0 : 0 ≤ (N : Int) % 10000000000000000000 := by omega
  have r1 : (N : Int) % 10000000000000000000 < 10000000000000000000 := by omega
  rw [show (val hi lo).toNat = N from by unfold val; omega]
  have hq : ((N : Int) / 10000000000000000000).toNat = N / 10000000000000000000 := by omega
  have hr : ((N : Int) % 10000000000000000000).toNat = N % 10000000000000000000 := by omega
  have hlen := nDigits_le_pow 18 (N % 10000000000000000000) (by rw [show (10 : Nat) ^ (18 + 1) = 10000000000000000000 from by decide]; omega)
  rw [← Lib.decDigits_length] at hlen
  have hl1 : ((Lib.decDigits (N % 10000000000000000000)).length : Int) ≤ 19 := by omega
  have hl0 : Lib.repeatL [48] (19 - ((Lib.decDigits (N % 10000000000000000000)).length : Int)).toNat = Lib.repeatL [48] (19 - Lib.nDigits (N % 10000000000000000000)) := by
    congr 1
    rw [Lib.decDigits_length]; rw [Lib.decDigits_length] at hl1; omega
  have HL0 : Hid _ := hl0
  have hA : (Lib.decDigits (N / 10000000000000000000)).length ≤ 20 := by
    rw [Lib.decDigits_length]; exact nDigits_le_pow 19 _ (by rw [show (10 : Nat) ^ (19 + 1) = 100000000000000000000 from by decide]; omega)
  have hZ : (Lib.repeatL [48] (19 - Lib.nDigits (N % 10000000000000000000))).length ≤ 19 := by rw [repeat_48, List.length_replicate]; omega
  have HD : Hid _ := hd
  clear hlen hl0
  have HP : Hid _ := dec_piece N
  have f1 := fun W (h : Tab W) => fmt_any ((N : Int) / 10000000000000000000) q0 q1 W h
  have f2 := fun W (h : Tab W) => fmt_any ((N : Int) % 10000000000000000000) r0 (by omega) W h
  rw [hq] at f1
  rw [hr] at f2
  have F1 : Hid _ := f1
  have F2 : Hid _ := f2
  clear hd hN f1 f2 hq hr
  have hfin : ¬ (N : Int) / 10000000000000000000 = 0 → Lib.decDigits (N / 10000000000000000000) ++ (Lib.repeatL [48] (19 - Lib.nDigits (N % 10000000000000000000)) ++ Lib.decDigits (N % 10000000000000000000)) = Lib.decDigits N := by
    intro h
    exact HP.out (by omega)
  have HF : Hid _ := hfin
  clear HP hfin
  by_cases hz : (N : Int) / 10000000000000000000 = 0
  · have hN2 : N % 10000000000000000000 = N := by omega
    have HN2 : Hid _ := hN2
    have hz' : ((N : Int) / 10000000000000000000 == 0) = true := by rw [beq_iff_eq]; exact hz
    clear hN2 hz
    go_enter Tryd.func39, Tryd.ntmps39
    go_wp2_with fail
    refine (HD.out _).mono ?_
    rintro e w1 ⟨rfl, k, rfl⟩
    go_wp2_with fail
    refine (F2.out _ (htab.drewN k)).mono ?_
    rintro e w2 ⟨rfl, hb⟩
    go_wp2
    go_ret
    refine ⟨?_, (Below.drewN' (Below.refl _ _) k).trans hb⟩
    rw [HN2.out]
    rfl
  · have hz' : ((N : Int) / 10000000000000000000 == 0) = false := by rw [beq_eq_false_iff_ne]; exact hz
    have HF' : Hid _ := HF.out hz
    clear HF
    generalize Lib.decDigits (N / 10000000000000000000) = A at *
    generalize Lib.repeatL [48] (19 - Lib.nDigits (N % 10000000000000000000)) = Z at *
    generalize Lib.decDigits (N % 10000000000000000000) = C at *
    generalize Lib.decDigits N = D at *
    generalize (N : Int) / 10000000000000000000 = q at *
    generalize (N : Int) % 10000000000000000000 = r at *
    have c1 : ∀ W, (Op.stringOp .add ⟨A.toArray⟩ ⟨Z.toArray⟩).run Tryd.prog W = .ok (.string ⟨(A ++ Z).toArray⟩) W := fun W => run_string_add_lists W A Z (by omega) (by omega)
    have c2 : ∀ W, (Op.stringOp .add ⟨(A ++ Z).toArray⟩ ⟨C.toArray⟩).run Tryd.prog W = .ok (.string ⟨(A ++ Z ++ C).toArray⟩) W := fun W => run_string_add_lists W (A ++ Z) C (by rw [List.length_append]; omega) (by omega)
    go_enter Tryd.func39, Tryd.ntmps39
    go_wp2_with fail
    refine (HD.out _).mono ?_
    rintro e w1 ⟨rfl, k, rfl⟩
    go_wp2_with fail
    refine (F2.out _ (htab.drewN k)).mono ?_
    rintro e w2 ⟨rfl, hb⟩
    go_wp2_with fail
    refine (F1.out _ ((htab.drewN k).below hb)).mono ?_
    rintro e w3 ⟨rfl, hb3⟩
    go_wp2_with fail
    refine (rep_any _ (by omega) (by omega) _).mono ?_
    rintro e w4 ⟨rfl, hb4⟩
    rw [HL0.out]
    go_wp2
    go_ret
    exact ⟨by rw [← HF'.out]; rfl, (((Below.drewN' (Below.refl _ _) k).trans hb).trans (hb3.mono hb.size)).trans (hb4.mono (Nat.le_trans hb.size hb3.size))⟩
end Go.Proofs.YtbobhjgndgaoaaaDoor
