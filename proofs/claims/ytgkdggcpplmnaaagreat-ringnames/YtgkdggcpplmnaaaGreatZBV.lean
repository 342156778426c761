/- THE LAW'S fixed. Own work of the verifier. -/
import Derived.Test.YtgkdggcpplmnaaaGreatZBP
import Derived.Test.YtgkdggcpplmnaaaGreatZBS
import Derived.Test.YtgkdggcpplmnaaaGreatZBU
namespace Go.Proofs.YtgkdggcpplmnaaaGreat.Ri
open Go.RowKit Me

theorem one_lk (m q : Nat) : Lk1 2 (oneV m) (oneS q) := ⟨oneV q, 0, rfl, rfl, rfl, rfl⟩
theorem one_fit (m : Nat) (h : m < 9223372036854775808) : Fit1 (oneS m) := ⟨one_W m h, by show 1 ≤ _; omega, fun x hx => by
  rw [show (oneS m).vs = [oneV m] from rfl, List.mem_singleton] at hx
  subst hx
  exact ⟨by show 0 ≤ _; omega, by show 0 ≤ _; omega⟩⟩
/-- A ring whose snapshots are all of that counter. -/
def AllOne (R : List Rs) : Prop := ∀ q ∈ R, ∃ m, q.1 = oneS m
theorem push_a (B b : Nat) (T : List Int) (R : List Rs) (tv sv : Value) (tm : Int) (m : Nat) (v : Value) (w : World) (hm : m < 9223372036854775808) (hg : Rg B b 2 T R 0 tv sv w) (hBw : B ≤ w.heap.size) (hA : AllOne R) (hl : R.length < 2) (hv : SnAt w (oneS m) v) (hord : R.length = 0 ∨ 0 < R.length ∧ T.getD (plc 0 (R.length - 1) R.length) 0 < tm) :
    Calls Tryz.prog 6 #[.pointer (some ⟨b, 0, none⟩), .int .i64 tm, v] w fun e w' => e = .returned (.int .i64 0) ∧ ∃ u tv' sv', Rg B b 2 (T ++ [tm]) (R ++ [(oneS m, u)]) 0 tv' sv' w' ∧ Below B w w' :=
  push_one B b 2 0 T R tv sv tm 2 (oneV m) 0 v w (T ++ [tm]) (fun u => R ++ [(oneS m, u)]) 0 hg hBw (fun q hq => by
    obtain ⟨z, e⟩ := hA q hq
    rw [e]
    exact one_lk m z) hv (one_chkS m) (one_W m hm) ⟨by show 0 ≤ _; omega, by show 0 ≤ _; omega⟩ hord (fun W u h1 h2 h3 => lay_grow B b 2 T R tv sv tm (oneS m) u W h1 h2 hl h3)
theorem push_o (B b k : Nat) (T : List Int) (R : List Rs) (tv sv : Value) (tm : Int) (m : Nat) (v : Value) (w : World) (hm : m < 9223372036854775808) (hg : Rg B b 2 T R k tv sv w) (hBw : B ≤ w.heap.size) (hA : AllOne R) (hl : R.length = 2) (hk : k < 2) (hv : SnAt w (oneS m) v) (hord : R.length = 0 ∨ 0 < R.length ∧ T.getD (plc k (R.length - 1) R.length) 0 < tm) :
    Calls Tryz.prog 6 #[.pointer (some ⟨b, 0, none⟩), .int .i64 tm, v] w fun e w' => e = .returned (.int .i64 0) ∧ ∃ u tv' sv', Rg B b 2 (T.set k tm) (R.set k (oneS m, u)) (plc k 1 2) tv' sv' w' ∧ Below B w w' :=
  push_one B b 2 k T R tv sv tm 2 (oneV m) 0 v w (T.set k tm) (fun u => R.set k (oneS m, u)) (plc k 1 2) hg hBw (fun q hq => by
    obtain ⟨z, e⟩ := hA q hq
    rw [e]
    exact one_lk m z) hv (one_chkS m) (one_W m hm) ⟨by show 0 ≤ _; omega, by show 0 ≤ _; omega⟩ hord (fun W u h1 h2 h3 => lay_over B b 2 k T R tv sv tm (oneS m) u W h1 h2 hl hk h3)
theorem wst_two (u v : Value) : wst [(oneS 2, u), (oneS 4, v)] 2 = (oneS 6, 0) := one_merge 2 4 (by decide)
/-- The window of both. -/
theorem win_two (B b : Nat) (tv sv u v : Value) (fr tO : Int) (w : World) (hg : Rg B b 2 [25, 20] [(oneS 4, u), (oneS 2, v)] 1 tv sv w) (hBw : B ≤ w.heap.size) (h1 : fr < 20) (h2 : 25 ≤ tO) :
    Calls Tryz.prog 8 #[.pointer (some ⟨b, 0, none⟩), .int .i64 fr, .int .i64 tO] w fun e w' => ∃ ua uc, e = .returned (.tuple #[.agg #[.int .i64 2, .slice ua 1 uc, .int .u64 0], .int .i64 2, .int .i64 0]) ∧ SnAt w' (oneS 6) (.agg #[.int .i64 2, .slice ua 1 uc, .int .u64 0]) ∧ Below w.heap.size w w' := by
  have e0 : inW [25, 20] 1 2 fr tO 0 = true := by
    show (decide (fr < 20) && decide (20 ≤ tO)) = true
    rw [decide_eq_true h1, decide_eq_true (by omega)]
    rfl
  have e1 : inW [25, 20] 1 2 fr tO 1 = true := by
    show (decide (fr < 25) && decide (25 ≤ tO)) = true
    rw [decide_eq_true (by omega), decide_eq_true h2]
    rfl
  have hL : wL [25, 20] [(oneS 4, u), (oneS 2, v)] 1 fr tO = [(oneS 2, v), (oneS 4, u)] := by
    show (([0, 1] : List Nat).filter (inW [25, 20] 1 2 fr tO)).map _ = _
    rw [List.filter_cons, if_pos e0, List.filter_cons, if_pos e1, List.filter_nil]
    simp [plc, List.getD]
  have hw : ∀ j, j ≤ 2 → (wst [(oneS 2, v), (oneS 4, u)] j).2 = 0 := fun j hj => by
    have : j = 0 ∨ j = 1 ∨ j = 2 := by omega
    rcases this with rfl | rfl | rfl
    · rfl
    · rfl
    · rw [wst_two]
  refine (window_any B b 2 1 [25, 20] _ tv sv fr tO w hg hBw (fun r hr => ?_) (fun j h1 h2 _ => ?_)).mono ?_
  · simp only [List.mem_cons, List.not_mem_nil, or_false] at hr
    rcases hr with rfl | rfl
    · exact one_fit 4 (by decide)
    · exact one_fit 2 (by decide)
  · rw [hL] at h2 ⊢
    have : j = 1 ∨ j = 2 := by have : j ≤ 2 := h2; omega
    rcases this with rfl | rfl
    · exact one_W 2 (by decide)
    · rw [wst_two]
      exact one_W 6 (by decide)
  · rintro e w' ⟨hb, hq⟩
    rw [hL] at hq
    rcases hq with ⟨h, -⟩ | ⟨-, -, x, rfl, hos⟩ | ⟨j, hj, -, hne, -⟩
    · cases h
    · have hos' : OS w.heap.size (oneS 6, x) w' := by
        have q := wst_two v u
        rw [show ([(oneS 2, v), (oneS 4, u)] : List Rs).length = 2 from rfl, q] at hos
        exact hos
      obtain ⟨ua, uc, hu⟩ := hos'.form
      dsimp only at hu
      subst hu
      refine ⟨ua, uc, ?_, hos'.at_ hb.size, hb⟩
      rw [show ([(oneS 2, v), (oneS 4, u)] : List Rs).length = 2 from rfl, wst_two v u]
      rfl
    · exact absurd (hw (j + 1) (by have : j < 2 := hj; omega)) hne
end Go.Proofs.YtgkdggcpplmnaaaGreat.Ri
/- THE LAW'S fixed: the walk. Own work of the verifier. -/
namespace Go.Proofs.YtgkdggcpplmnaaaGreat.Ri
open Go.RowKit Me

/-- The ring that fixed makes. -/
def R3 (B : Nat) (w W : World) : Prop := ∃ tv sv u v, Rg B B 2 [25, 20] [(oneS 4, u), (oneS 2, v)] 1 tv sv W ∧ Below B w W
theorem R3.below {B : Nat} {w W W1 : World} (h : R3 B w W) (hb : Below W.heap.size W W1) : R3 B w W1 := by
  obtain ⟨tv, sv, u, v, h1, h2⟩ := h
  exact ⟨tv, sv, u, v, h1.below hb, h2.trans (hb.mono (Nat.le_of_lt h1.lt))⟩
theorem R3.win {B : Nat} {w W : World} (h : R3 B w W) (fr tO : Int) (h1 : fr < 20) (h2 : 25 ≤ tO) : Calls Tryz.prog 8 #[.pointer (some ⟨B, 0, none⟩), .int .i64 fr, .int .i64 tO] W fun e w' => ∃ ua uc, e = .returned (.tuple #[.agg #[.int .i64 2, .slice ua 1 uc, .int .u64 0], .int .i64 2, .int .i64 0]) ∧ SnAt w' (oneS 6) (.agg #[.int .i64 2, .slice ua 1 uc, .int .u64 0]) ∧ Below W.heap.size W w' := by
  obtain ⟨tv, sv, u, v, h3, -⟩ := h
  exact win_two B B tv sv u v fr tO W h3 (Nat.le_of_lt h3.lt) h1 h2
theorem R3.rate {B : Nat} {w W : World} (h : R3 B w W) : Calls Tryz.prog 9 #[.pointer (some ⟨B, 0, none⟩), .string ⟨#[99]⟩, .slice none 0 0, .int .i64 15, .int .i64 25] W fun e w' => e = .returned (.tuple #[.float .f64 4603579539098121011, .int .i64 0]) ∧ Below W.heap.size W w' :=
  rate_one B W ((h.win 15 25 (by omega) (by omega)).mono (by
    rintro e w' ⟨ua, uc, rfl, h1, h2⟩
    exact ⟨ua, uc, 2, rfl, h1, h2⟩))
theorem R3.len {B : Nat} {w W : World} (h : R3 B w W) : Calls Tryz.prog 10 #[.pointer (some ⟨B, 0, none⟩)] W fun e w' => e = .returned (.int .i64 2) ∧ w' = W := by
  obtain ⟨tv, sv, u, v, h3, -⟩ := h
  obtain ⟨tg, tc, sg, sc, ta, sa, rfl, rfl, hR⟩ := h3.rw
  exact len_any B 2 tc ta W hR.c1
/-- The three that are pushed. -/
theorem push_1 (w W : World) (v : Value) (hW : W = w.alloc (.cells #[.int .i64 2, .slice none 0 0, .slice none 0 0, .int .i64 0] 50)) (W1 : World) (hb : Below W.heap.size W W1) (hv : SnAt W1 (oneS 1) v) : Calls Tryz.prog 6 #[.pointer (some ⟨w.heap.size, 0, none⟩), .int .i64 10, v] W1 fun e w' => e = .returned (.int .i64 0) ∧ Hid (∃ u tv sv, Rg w.heap.size w.heap.size 2 [10] [(oneS 1, u)] 0 tv sv w' ∧ Below w.heap.size w w') := by
  have hg0 : Rg w.heap.size w.heap.size 2 [] [] 0 (.slice none 0 0) (.slice none 0 0) W := by rw [hW]; exact Rg.new w 2 (by omega) (by omega)
  have hg := hg0.below hb
  refine (push_a w.heap.size w.heap.size [] [] _ _ 10 1 v W1 (by decide) hg (Nat.le_of_lt hg.lt) (fun q hq => by cases hq) (by decide) hv (Or.inl rfl)).mono ?_
  rintro e w' ⟨rfl, u, tv, sv, h1, h2⟩
  refine ⟨rfl, u, tv, sv, h1, ?_⟩
  have hb0 : Below w.heap.size w W := by rw [hW]; exact bel1 _ _
  exact (bt hb0 hb).trans h2
theorem push_2 (w W1 W2 : World) (v : Value) (h : Hid (∃ u tv sv, Rg w.heap.size w.heap.size 2 [10] [(oneS 1, u)] 0 tv sv W1 ∧ Below w.heap.size w W1)) (hb : Below W1.heap.size W1 W2) (hv : SnAt W2 (oneS 2) v) : Calls Tryz.prog 6 #[.pointer (some ⟨w.heap.size, 0, none⟩), .int .i64 20, v] W2 fun e w' => e = .returned (.int .i64 0) ∧ Hid (∃ u u' tv sv, Rg w.heap.size w.heap.size 2 [10, 20] [(oneS 1, u), (oneS 2, u')] 0 tv sv w' ∧ Below w.heap.size w w') := by
  obtain ⟨u, tv, sv, h1, h2⟩ := h.out
  have hg := h1.below hb
  refine (push_a w.heap.size w.heap.size [10] [(oneS 1, u)] tv sv 20 2 v W2 (by decide) hg (Nat.le_of_lt hg.lt) (fun q hq => by
    rw [List.mem_singleton] at hq
    subst hq
    exact ⟨1, rfl⟩) (by simp) hv (Or.inr ⟨by simp, by simp [plc]⟩)).mono ?_
  rintro e w' ⟨rfl, u', tv', sv', h3, h4⟩
  exact ⟨rfl, u, u', tv', sv', h3, (h2.trans (hb.mono (Nat.le_of_lt h1.lt))).trans h4⟩
theorem push_3 (w W1 W2 : World) (v : Value) (h : Hid (∃ u u' tv sv, Rg w.heap.size w.heap.size 2 [10, 20] [(oneS 1, u), (oneS 2, u')] 0 tv sv W1 ∧ Below w.heap.size w W1)) (hb : Below W1.heap.size W1 W2) (hv : SnAt W2 (oneS 4) v) : Calls Tryz.prog 6 #[.pointer (some ⟨w.heap.size, 0, none⟩), .int .i64 25, v] W2 fun e w' => e = .returned (.int .i64 0) ∧ Hid (R3 w.heap.size w w') := by
  obtain ⟨u, u', tv, sv, h1, h2⟩ := h.out
  have hg := h1.below hb
  refine (push_o w.heap.size w.heap.size 0 [10, 20] [(oneS 1, u), (oneS 2, u')] tv sv 25 4 v W2 (by decide) hg (Nat.le_of_lt hg.lt) (fun q hq => by
    simp only [List.mem_cons, List.not_mem_nil, or_false] at hq
    rcases hq with rfl | rfl
    · exact ⟨1, rfl⟩
    · exact ⟨2, rfl⟩) rfl (by decide) hv (Or.inr ⟨by simp, by simp [plc]⟩)).mono ?_
  rintro e w' ⟨rfl, u3, tv', sv', h3, h4⟩
  exact ⟨rfl, tv', sv', u3, u', h3, (h2.trans (hb.mono (Nat.le_of_lt h1.lt))).trans h4⟩
set_option maxRecDepth 100000 in
set_option maxHeartbeats 8000000 in
theorem fixed_any (w : World) : Calls Tryz.prog 4 #[] w fun e w' => e = .returned (.bool true) ∧ Below w.heap.size w w' := by
  have HN : Hid (Calls Tryz.prog 5 #[.int .i64 2] w fun e w' => e = .returned (.tuple #[.pointer (some ⟨w.heap.size, 0, none⟩), .int .i64 0]) ∧ w' = w.alloc (.cells #[.int .i64 2, .slice none 0 0, .slice none 0 0, .int .i64 0] 50)) := rnew_any 2 (by omega) (by omega) w
  have O1 : Hid (∀ W, Calls Tryz.prog 7 #[.int .u64 1] W fun e w' => ∃ v, e = .returned v ∧ SnAt w' (oneS 1) v ∧ Below W.heap.size W w') := fun W => one_any 1 (by decide) W
  have O2 : Hid (∀ W, Calls Tryz.prog 7 #[.int .u64 2] W fun e w' => ∃ v, e = .returned v ∧ SnAt w' (oneS 2) v ∧ Below W.heap.size W w') := fun W => one_any 2 (by decide) W
  have O4 : Hid (∀ W, Calls Tryz.prog 7 #[.int .u64 4] W fun e w' => ∃ v, e = .returned v ∧ SnAt w' (oneS 4) v ∧ Below W.heap.size W w') := fun W => one_any 4 (by decide) W
  go_enter Tryz.func4, Tryz.ntmps4
  go_upto_region 4 with (go_at_call 5; with_reducible refine HN.out.mono ?_; rintro e w1 ⟨rfl, hw1⟩; have HW1 := hid_of hw1; clear hw1)
  clear HN
  go_upto_region 5 with (first
    | (go_at_call 7; (with_reducible refine (O1.out _).mono ?_); rintro e w2 ⟨v2, rfl, h2, hb2⟩)
    | (go_at_call 6; (with_reducible refine (push_1 w w1 v2 HW1.out w2 hb2 h2).mono ?_); rintro e w3 ⟨rfl, h3⟩)
    | (go_at_call 7; (with_reducible refine (O2.out _).mono ?_); rintro e w4 ⟨v4, rfl, h4, hb4⟩)
    | (go_at_call 6; (with_reducible refine (push_2 w w3 w4 v4 h3 hb4 h4).mono ?_); rintro e w5 ⟨rfl, h5⟩)
    | (go_at_call 7; (with_reducible refine (O4.out _).mono ?_); rintro e w6 ⟨v6, rfl, h6, hb6⟩)
    | (go_at_call 6; (with_reducible refine (push_3 w w5 w6 v6 h5 hb6 h6).mono ?_); rintro e w7 ⟨rfl, h7⟩))
  clear O1 O2 O4 h2 hb2 h3 h4 hb4 h5 h6 hb6 HW1
  go_upto_region 6 with (go_at_call 8; (with_reducible refine (h7.out.win 0 100 (by omega) (by omega)).mono ?_); rintro e w8 ⟨ua, uc, rfl, h8, hb8⟩)
  have h9 := h8.below (bel1 w8 (.cells #[.int .i64 2, .slice ua 1 uc, .int .u64 0] 31))
  have H9 := hid_of ((h7.out.below hb8).below (bel1 w8 (.cells #[.int .i64 2, .slice ua 1 uc, .int .u64 0] 31)))
  have n9 := new_1 w8 (.cells #[.int .i64 2, .slice ua 1 uc, .int .u64 0] 31)
  generalize w8.alloc (.cells #[.int .i64 2, .slice ua 1 uc, .int .u64 0] 31) = w9 at *
  have HN9 := hid_of n9
  have HS9 := hid_of h9
  clear h7 h8 hb8 h9 n9
  go_upto_region 7 with (go_at_call 9; (with_reducible refine H9.out.rate.mono ?_); rintro e wa ⟨rfl, hba⟩)
  have HA := hid_of (H9.out.below hba)
  obtain ⟨c0, c1, c2, -, -, -⟩ := three_cells (hkN HN9.out hba)
  obtain ⟨us, hus, su⟩ := HS9.out.below hba
  have hue : us = .slice ua 1 uc := by
    have q : #[Value.int .i64 2, .slice ua 1 uc, .int .u64 0] = #[Value.int .i64 2, us, .int .u64 0] := by injection hus
    simpa using q.symm
  subst hue
  obtain ⟨ao, b1, o1, cap, e1, hao, -, hrow⟩ := sv_open su
  injection e1 with e1 e2 e3
  clear e2
  subst e1 e3
  obtain rfl := hao (by intro q; cases q)
  obtain ⟨lv, cv, k1, -, -⟩ := hrow 0 (by decide)
  have k5 := k1.c5
  have hlo : loOf ((oneS 6).vs[0]).t = 6 := by show loOf ((6 : Nat) : Int) = 6; decide
  rw [hlo, Nat.zero_mul, Nat.add_zero] at k5
  have hix := index_val b1 o1 1 uc 0 0 rfl (by omega)
  rw [Nat.zero_mul, Nat.add_zero] at hix
  have hord : (FloatKind.f64.format.order 4603579539098121011 4603579539098121011 == some .eq) = true := by decide +kernel
  clear hrow k1 su hus hba H9 HN9 HS9 hao
  go_wp2_with (go_at_call 10; (with_reducible refine HA.out.len.mono ?_); rintro e wb ⟨rfl, rfl⟩)
  go_ret
  obtain ⟨_, _, _, _, _, hfin⟩ := HA.out
  exact ⟨rfl, hfin⟩
end Go.Proofs.YtgkdggcpplmnaaaGreat.Ri
/- RingNames: the walk. Own work of the verifier. -/
namespace Go.Proofs.YtgkdggcpplmnaaaGreat.Ri
open Go.RowKit Me

set_option maxHeartbeats 1000000 in
theorem rnames_walk (w : World) :
    Calls Tryz.prog 3 #[] w fun r w' => r = .returned (.bool true) ∧ Below w.heap.size w w' := by
  have HA : Hid (∀ W, Calls Tryz.prog 4 #[] W fun r w' => r = .returned (.bool true) ∧ Below W.heap.size W w') := fun W => fixed_any W
  go_enter Tryz.func3, Tryz.ntmps3
  go_wp2_with (go_at_call 4; refine (HA.out _).mono ?_; rintro e1 w1 ⟨rfl, hb⟩)
  go_ret
  exact ⟨rfl, hb⟩
end Go.Proofs.YtgkdggcpplmnaaaGreat.Ri
