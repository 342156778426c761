/- RATE; the law's one. Own work of the verifier. -/
import Derived.Test.YtgkdggcpplmnaaaGreatZBT
import Derived.Test.YtgkdggcpplmnaaaGreatZBD
import Derived.Test.YtgkdggcpplmnaaaGreatZBG
namespace Go.Proofs.YtgkdggcpplmnaaaGreat.Ri
open Go.RowKit Me

set_option maxRecDepth 100000 in
set_option maxHeartbeats 2000000 in
theorem one_any (n : Nat) (h : n < 9223372036854775808) (w : World) :
    Calls Tryz.prog 7 #[.int .u64 (n : Int)] w fun e w' => ∃ v, e = .returned v ∧ SnAt w' (oneS n) v ∧ Below w.heap.size w w' := by
  have hhi : hiOf (n : Int) = 0 := by unfold hiOf; omega
  have hlo : loOf (n : Int) = (n : Int) := by unfold loOf; omega
  have sF := store_f
  have HH := hid_of (⟨hhi, hlo⟩ : _ ∧ _)
  clear hhi hlo
  go_enter Tryz.func7, Tryz.ntmps7
  go_wp2_with fail
  simp [bodyPost, results, Tryz.results7, go_sem]
  refine ⟨?_, bel2 w _ _⟩
  generalize ho : (Obj.cells #[Value.int .i64 2, Value.slice (some ⟨w.heap.size + 1, 0, none⟩) 1 1, Value.int .u64 0] 31) = o1
  have hh : ((w.alloc o1).alloc (.cells #[.int .i64 1, .string ⟨#[99]⟩, .string ⟨#[]⟩, .slice none 0 0, .int .i64 0, .int .u64 (n : Int), .slice none 0 0, .int .u64 0, .float .f64 0, .float .f64 0, .float .f64 0] 45)).heap[w.heap.size + 1]? = some (.cells #[.int .i64 1, .string ⟨#[99]⟩, .string ⟨#[]⟩, .slice none 0 0, .int .i64 0, .int .u64 (n : Int), .slice none 0 0, .int .u64 0, .float .f64 0, .float .f64 0, .float .f64 0] 45 (0, 0)) := by
    have := new_1 (w.alloc o1) (.cells #[.int .i64 1, .string ⟨#[99]⟩, .string ⟨#[]⟩, .slice none 0 0, .int .i64 0, .int .u64 (n : Int), .slice none 0 0, .int .u64 0, .float .f64 0, .float .f64 0, .float .f64 0] 45)
    rw [show (w.alloc o1).heap.size = w.heap.size + 1 by simp] at this
    exact this
  obtain ⟨k0, k1, k2, k3, k4, k5, k6, k7, k8, k9, k10⟩ := eleven_cells (hid_of hh)
  refine ⟨_, rfl, Or.inr ⟨w.heap.size + 1, 0, 1, rfl, by show 1 ≤ 1; omega, by omega, fun i hi => ?_⟩⟩
  have hi0 : i = 0 := by have : i < 1 := hi; omega
  subst hi0
  refine ⟨.slice none 0 0, .slice none 0 0, ⟨k0, k1, k2, k3, ?_, ?_, k6, k7, k8, k9, k10⟩, Or.inl ⟨rfl, rfl⟩, Or.inl ⟨rfl, rfl⟩⟩
  · rw [show hiOf ((oneS n).vs[0]).t = 0 from HH.out.1]; exact k4
  · rw [show loOf ((oneS n).vs[0]).t = (n : Int) from HH.out.2]; exact k5
theorem one_find (n : Nat) : fndS (oneS n) [99] [] = (oneV n, 0) := by
  have h : hitB (qV [99] []) (oneV n) = true := by
    unfold hitB
    rw [(La.ordD_zero (oneV n).d (qV [99] []).d).2 ⟨rfl, rfl⟩]
    rfl
  have e : fdI (qV [99] []) (oneS n).vs 0 = 0 := by
    show fdI (qV [99] []) [oneV n] 0 = 0
    rw [fdI, if_pos h]
    rfl
  unfold fndS
  rw [e, if_neg (by decide)]
  rfl
theorem fl6 : Wi.fbits 6 = 4618441417868443648 := by decide +kernel
theorem fl10 : Wi.fbits 10 = 4621819117588971520 := by decide +kernel
end Go.Proofs.YtgkdggcpplmnaaaGreat.Ri
/- RATE of a counter of one value. Own work of the verifier. -/
namespace Go.Proofs.YtgkdggcpplmnaaaGreat.Ri
open Go.RowKit Me

/-- What a window of a counter c of 6 tells. -/
def Wn6 (w : World) (e : Ending) (w' : World) : Prop := ∃ ua uc n, e = .returned (.tuple #[.agg #[.int .i64 2, .slice ua 1 uc, .int .u64 0], .int .i64 n, .int .i64 0]) ∧ SnAt w' (oneS 6) (.agg #[.int .i64 2, .slice ua 1 uc, .int .u64 0]) ∧ Below w.heap.size w w'
set_option maxRecDepth 100000 in
set_option maxHeartbeats 4000000 in
theorem rate_one (b : Nat) (w : World) (hWin : Calls Tryz.prog 8 #[.pointer (some ⟨b, 0, none⟩), .int .i64 15, .int .i64 25] w fun e w' => Wn6 w e w') :
    Calls Tryz.prog 9 #[.pointer (some ⟨b, 0, none⟩), .string ⟨#[99]⟩, .slice none 0 0, .int .i64 15, .int .i64 25] w fun e w' => e = .returned (.tuple #[.float .f64 4603579539098121011, .int .i64 0]) ∧ Below w.heap.size w w' := by
  have HWin := hid_of hWin
  clear hWin
  have hi6 : hiOf ((6 : Nat) : Int) = 0 := by decide
  have lo6 : loOf ((6 : Nat) : Int) = 6 := by decide
  have HF : Hid (∀ W v, SnAt W (oneS 6) v → Calls Tryz.prog 18 #[v, .string ⟨#[99]⟩, .slice none 0 0] W fun e w' => ∃ la lc ca cc, e = .returned (.tuple #[.agg #[.int .i64 1, .string ⟨#[99]⟩, .string ⟨#[]⟩, .slice la 0 lc, .int .i64 0, .int .u64 6, .slice ca 0 cc, .int .u64 0, .float .f64 0, .float .f64 0, .float .f64 0], .int .i64 0]) ∧ Below W.heap.size W w') := fun W v h => by
    refine (find_any (oneS 6) v [99] (.slice none 0 0) [] W h (Or.inl ⟨rfl, rfl⟩) (fun x hx => by
      rw [show (oneS 6).vs = [oneV 6] from rfl, List.mem_singleton] at hx
      subst hx
      exact ⟨by show 0 ≤ _; omega, by show 0 ≤ _; omega⟩)).mono ?_
    rintro e w' ⟨lv, cv, rfl, h1, h2, hb⟩
    rw [one_find] at h1 h2
    obtain ⟨la, g, lc, rfl, -⟩ := own_slice h1
    obtain ⟨ca, g', cc, rfl, -⟩ := own_slice h2
    refine ⟨la, lc, ca, cc, ?_, hb⟩
    rw [one_find]
    show Ending.returned (.tuple #[.agg #[.int .i64 1, .string ⟨#[99]⟩, .string ⟨#[]⟩, .slice la 0 lc, .int .i64 (hiOf ((6 : Nat) : Int)), .int .u64 (loOf ((6 : Nat) : Int)), .slice ca 0 cc, .int .u64 0, .float .f64 0, .float .f64 0, .float .f64 0], .int .i64 0]) = _
    rw [hi6, lo6]
  have HO1 : Hid (∀ W, Calls Tryz.prog 20 #[.int .i64 25] W fun e w' => e = .returned (.agg #[.int .i64 0, .int .u64 25]) ∧ Below W.heap.size W w') := fun W => (of_any 25 (by omega) (by omega) W).mono (by
    rintro e w' ⟨rfl, hb⟩
    refine ⟨?_, hb⟩
    show Ending.returned (.agg #[.int .i64 (hiOf 25), .int .u64 (loOf 25)]) = _
    rw [show hiOf 25 = 0 by decide, show loOf 25 = 25 by decide])
  have HO2 : Hid (∀ W, Calls Tryz.prog 20 #[.int .i64 15] W fun e w' => e = .returned (.agg #[.int .i64 0, .int .u64 15]) ∧ Below W.heap.size W w') := fun W => (of_any 15 (by omega) (by omega) W).mono (by
    rintro e w' ⟨rfl, hb⟩
    refine ⟨?_, hb⟩
    show Ending.returned (.agg #[.int .i64 (hiOf 15), .int .u64 (loOf 15)]) = _
    rw [show hiOf 15 = 0 by decide, show loOf 15 = 15 by decide])
  have HS : Hid (∀ W, Calls Tryz.prog 19 #[.agg #[.int .i64 0, .int .u64 25], .agg #[.int .i64 0, .int .u64 15]] W fun e w' => e = .returned (.agg #[.int .i64 0, .int .u64 10]) ∧ Below W.heap.size W w') := fun W => (sub_any 0 25 0 15 ⟨by omega, by omega, by omega, by omega⟩ ⟨by omega, by omega, by omega, by omega⟩ W).mono (by
    rintro e w' ⟨rfl, hb⟩
    refine ⟨?_, hb⟩
    rw [show rnd (val 0 25 - val 0 15) = 10 by decide]
    show Ending.returned (.agg #[.int .i64 (hiOf 10), .int .u64 (loOf 10)]) = _
    rw [show hiOf 10 = 0 by decide, show loOf 10 = 10 by decide])
  have HF6 : Hid (∀ W, Calls Tryz.prog 21 #[.agg #[.int .i64 0, .int .u64 6]] W fun e w' => e = .returned (.float .f64 4618441417868443648) ∧ Below W.heap.size W w') := fun W => by
    have := Wi.float_any 0 6 ⟨by omega, by omega, by omega, by omega⟩ W
    rw [show val 0 6 = 6 by decide, fl6] at this
    exact this
  have HF10 : Hid (∀ W, Calls Tryz.prog 21 #[.agg #[.int .i64 0, .int .u64 10]] W fun e w' => e = .returned (.float .f64 4621819117588971520) ∧ Below W.heap.size W w') := fun W => by
    have := Wi.float_any 0 10 ⟨by omega, by omega, by omega, by omega⟩ W
    rw [show val 0 10 = 10 by decide, fl10] at this
    exact this
  have sF := store_f
  clear hi6 lo6
  go_enter Tryz.func9, Tryz.ntmps9
  go_upto_region 4 with (go_at_call 8; (with_reducible refine HWin.out.mono ?_); rintro e w1 ⟨ua, uc, nn, rfl, h1, hb1⟩)
  have hb2 := bt hb1 (bel1 w1 (.cells #[.int .i64 2, .slice ua 1 uc, .int .u64 0] 31))
  have h2 := h1.below (bel1 w1 (.cells #[.int .i64 2, .slice ua 1 uc, .int .u64 0] 31))
  have n2 := new_1 w1 (.cells #[.int .i64 2, .slice ua 1 uc, .int .u64 0] 31)
  generalize w1.alloc (.cells #[.int .i64 2, .slice ua 1 uc, .int .u64 0] 31) = w2 at *
  obtain ⟨c0, c1, c2, -, -, -⟩ := three_cells n2
  go_upto_region 7 with (go_at_call 18; (with_reducible refine (HF.out _ _ h2).mono ?_); rintro e w3 ⟨la, lc, ca, cc, rfl, hb3⟩)
  have hb4 := bt (bt hb2 hb3) (bel1 w3 (.cells #[.int .i64 1, .string ⟨#[99]⟩, .string ⟨#[]⟩, .slice la 0 lc, .int .i64 0, .int .u64 6, .slice ca 0 cc, .int .u64 0, .float .f64 0, .float .f64 0, .float .f64 0] 45))
  have n4 := new_1 w3 (.cells #[.int .i64 1, .string ⟨#[99]⟩, .string ⟨#[]⟩, .slice la 0 lc, .int .i64 0, .int .u64 6, .slice ca 0 cc, .int .u64 0, .float .f64 0, .float .f64 0, .float .f64 0] 45)
  generalize w3.alloc (.cells #[.int .i64 1, .string ⟨#[99]⟩, .string ⟨#[]⟩, .slice la 0 lc, .int .i64 0, .int .u64 6, .slice ca 0 cc, .int .u64 0, .float .f64 0, .float .f64 0, .float .f64 0] 45) = w4 at *
  have HB4 := hid_of hb4
  have HN4 := hid_of n4
  obtain ⟨y0, y1, y2, y3, y4, y5, y6, y7, y8, y9, y10⟩ := eleven_cells (hid_of n4)
  clear HWin HF h1 h2 hb1 hb2 hb3 hb4 n2 n4 c0 c1 c2
  go_upto_region 12 with (first
    | (go_at_call 20; (with_reducible refine (HO1.out _).mono ?_); rintro e w5 ⟨rfl, hb5⟩)
    | (go_at_call 20; (with_reducible refine (HO2.out _).mono ?_); rintro e w6 ⟨rfl, hb6⟩)
    | (go_at_call 19; (with_reducible refine (HS.out _).mono ?_); rintro e w7 ⟨rfl, hb7⟩))
  have hb8 := bt (bt (bt (bt hb5 hb6) hb7) (bel1 w7 (.cells #[.int .i64 0, .int .u64 10] 39))) (drew_bel1 _)
  have n8 := hkN (new_1 w7 (.cells #[.int .i64 0, .int .u64 10] 39)) (drew_bel1 _)
  obtain ⟨-, -, -, -, z4, z5, -⟩ := eleven_cells (hid_of (hkN HN4.out hb8))
  have q0 := cell_0 n8
  have q1 := cell_1 n8
  have HB8 := hid_of (bt HB4.out hb8)
  clear hb5 hb6 hb7 hb8 n8 y0 y1 y2 y3 y4 y5 y6 y7 y8 y9 y10 HO1 HO2 HS sF HB4 HN4
  have hq : floatBits .quo .f64 4618441417868443648 4621819117588971520 = some 4603579539098121011 := by decide +kernel
  have hqr : ∀ W : World, (binOp .quo 35 (.float .f64 4618441417868443648) (.float .f64 4621819117588971520)).run Tryz.prog W = .ok (.float .f64 4603579539098121011) W := fun W => run_float_arith W .quo 35 .f64 _ _ _ hq
  go_region_with (first
    | (go_at_call 21; (with_reducible refine (HF6.out _).mono ?_); rintro e w9 ⟨rfl, hb9⟩; have q0' := cellB hb9 q0; have q1' := cellB hb9 q1; have HB9 := hid_of (bt HB8.out hb9))
    | (go_at_call 21; (with_reducible refine (HF10.out _).mono ?_); rintro e wa ⟨rfl, hba⟩; have HBa := hid_of (bt HB9.out hba)))
  all_goals
    go_wp2
    simp [bodyPost, results, Tryz.results9, go_sem]
    exact HBa.out
end Go.Proofs.YtgkdggcpplmnaaaGreat.Ri
