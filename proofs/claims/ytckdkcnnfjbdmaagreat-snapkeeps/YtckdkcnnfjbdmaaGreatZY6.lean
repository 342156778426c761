/- AtMost, the code's. Own work of the verifier. -/
import Derived.Test.YtckdkcnnfjbdmaaGreatZY5
import Derived.Test.YtckdkcnnfjbdmaaGreatZA4
import Derived.Test.YtckdkcnnfjbdmaaGreatZT
namespace Go.Proofs.YtckdkcnnfjbdmaaGreat
open Go.RowKit Go.Shelf

attribute [local go_sem] Oper.semAt_some

/-- What lies in the first k buckets. -/
theorem amN_all {p : Nat} {L : List Cn} {y : Int} {k : Nat} (hk : k ≤ L.length) (h1 : ∀ j (hj : j < L.length), j < k → (hiV p L[j].1.toNat : Int) ≤ y) (h2 : ∀ j (hj : j < L.length), k ≤ j → ¬ (hiV p L[j].1.toNat : Int) ≤ y) : amN p L y = sN L k := by
  have a : ∀ m, m ≤ k → amN p (L.take m) y = sN L m := fun m => by
    induction m with
    | zero => intro _; simp [amN, sN, sumN]
    | succ m ih =>
      intro hm
      unfold sN at *
      rw [amN_take p L y m (by omega), sumN_take L m (by omega), ih (by omega), if_pos (h1 m (by omega) (by omega))]
  have b : ∀ m, k ≤ m → m ≤ L.length → amN p (L.take m) y = sN L k := fun m => by
    induction m with
    | zero => intro hm _; rw [show k = 0 by omega]; exact a 0 (by omega)
    | succ m ih =>
      intro hm hl
      by_cases e : k = m + 1
      · rw [e]; exact a (m + 1) (by omega)
      · rw [amN_take p L y m (by omega), ih (by omega) (by omega), if_neg (h2 m (by omega) (by omega))]; rfl
  have c := b L.length hk (Nat.le_refl _)
  rwa [List.take_length] at c
def mostI (w : World) (M p : Nat) (L : List Cn) (y : Int) (i : Nat) (W : World) : Prop := (Boxed W w.heap.size 3 (.int .i64 (p : Int)) ∧ Boxed W (w.heap.size + 1) 2 (.int .i64 y) ∧ Boxed W M 24 (.int .u64 ((sN L i % 18446744073709551616 : Nat) : Int))) ∧ Below w.heap.size w W ∧ Hid (∀ j (hj : j < L.length), j < i → (hiV p L[j].1.toNat : Int) ≤ y)
def mostX (w : World) (M p : Nat) (L : List Cn) (y : Int) (c : Code) (_ : Nat) (W : World) : Prop := Hid (c = .exit 0) ∧ (∃ k, k < L.length ∧ Hid ((∀ j (hj : j < L.length), j < k → (hiV p L[j].1.toNat : Int) ≤ y) ∧ ¬ (hiV p (L.getD k (0, 0)).1.toNat : Int) ≤ y) ∧ Boxed W M 24 (.int .u64 ((sN L k % 18446744073709551616 : Nat) : Int))) ∧ Below w.heap.size w W
theorem may_rise {p : Int} {L : List Cn} (h : MayIs p L 0) : ∀ j i (hj : j < L.length) (hi : i < L.length), i < j → L[i].1 < L[j].1 := by
  have step : ∀ j (hj : j + 1 < L.length), L[j].1 < L[j + 1].1 := fun j hj => by
    rcases h with ⟨_, h⟩ | ⟨hp, h⟩
    · exact absurd h (by decide)
    · rcases h with ⟨i, _, _, h3, h4⟩ | ⟨h1, h2⟩
      · exact absurd h4.symm h3
      · have hb := h1 (j + 1) hj
        unfold bad at hb
        rw [show L.getD (j + 1) (0, 1) = L[j + 1] from by simp [List.getD, hj], show L.getD (j + 1 - 1) (0, 1) = L[j] from by simp [List.getD, show j < L.length by omega]] at hb
        by_cases c1 : L[j + 1].1 < 0 ∨ (((64 - p.toNat) * 2 ^ p.toNat : Nat) : Int) ≤ L[j + 1].1
        · rw [if_pos c1] at hb; exact absurd hb (by decide)
        · rw [if_neg c1] at hb
          by_cases c2 : 0 < j + 1 ∧ L[j + 1].1 ≤ L[j].1
          · rw [if_pos c2] at hb; exact absurd hb (by decide)
          · omega
  intro j
  induction j with
  | zero => intro i _ _ h; omega
  | succ j ih =>
    intro i hj hi hij
    by_cases e : i = j
    · subst e; exact step i hj
    · have := ih i (by omega) hi (by omega)
      have := step j hj
      omega
theorem chigh_at (p : Nat) (h1 : 1 ≤ p) (h2 : p ≤ 14) (x : Int) (hx : 0 ≤ x) (hx' : x < (((64 - p) * 2 ^ p : Nat) : Int)) (w : World) :
    Calls Tryz.prog 74 #[.int .i64 (p : Int), .int .i64 x] w fun e w' => e = two (hiV p x.toNat : Nat) 0 ∧ Below w.heap.size w w' := by
  obtain ⟨i, rfl⟩ := Int.eq_ofNat_of_zero_le hx
  refine (high_of (bounds_yes p i h1 h2 (by omega)) w).mono ?_
  rintro e w' ⟨⟨n, rfl⟩, rfl⟩
  exact ⟨rfl, below_drew w n⟩
theorem below_mid {w A B : World} {_M : Nat} (h : Below w.heap.size w A) (k : Below A.heap.size A B) : Below w.heap.size w B := bt h k

end Go.Proofs.YtckdkcnnfjbdmaaGreat
/- THE FACTS OF THE QUANTILES' LAW. Own work of the verifier. -/
namespace Go.Proofs.YtckdkcnnfjbdmaaGreat
open Go.RowKit

theorem hiV_top {p i : Nat} (hp : p ≤ 14) (h : i < (64 - p) * 2 ^ p) : hiV p i < 9223372036854775808 := by
  have := hi_top h hp
  unfold hiV
  have := Nat.two_pow_pos (kk (2 ^ p) i)
  omega
theorem le_sumN {O : List Cn} {c : Cn} (h : c ∈ O) : c.2 ≤ sumN O := by
  unfold sumN
  induction O with
  | nil => cases h
  | cons d O ih =>
    rw [List.map_cons, List.sum_cons]
    rcases List.mem_cons.1 h with rfl | h
    · exact Nat.le_add_right _ _
    · exact Nat.le_trans (ih h) (Nat.le_add_left _ _)
theorem quant_facts {p num den n : Nat} {S ks : List Int} {O : List Cn} (h1 : 1 ≤ p) (h2 : p ≤ 14) (h3 : 1 ≤ den) (h4 : num ≤ den) (hn : 1 ≤ n) (hl : n ≤ 17592186043904) (hS : ∀ x ∈ S, 0 ≤ x ∧ x < 9223372036854775808) (hs : SrtI S) (hSn : S.length = n) (hC : CI ks O) (hK : KsOf p S ks) :
    ∃ r q a y : Nat, r = rkN n num den ∧ 1 ≤ r ∧ r ≤ n ∧ (∃ h : r - 1 < S.length, S[r - 1] = (y : Int)) ∧ qF p O num den = ((q : Int), 0) ∧ rkF n num den = (r, 0) ∧ amN p O q = a ∧ r ≤ a ∧ a ≤ n ∧ y ≤ q ∧ q - y ≤ y / 2 ^ p ∧ q < 9223372036854775808 ∧ MayIs (p : Int) O 0 ∧ Wc O ∧ O.length ≤ 4194304 := by
  have hkn : ks.length = n := by rw [hK.1, hSn]
  have hr := rkN_le (n := n) hn h4 h3
  have hr1 : 1 ≤ rkN n num den := by unfold rkN; omega
  have hrk : rkF n num den = (rkN n num den, 0) := by
    unfold rkF
    rw [if_pos ⟨by omega, by omega, by omega⟩, if_neg (by omega), Int.toNat_natCast, Int.toNat_natCast]
  generalize hrr : rkN n num den = r at *
  have b1 : r - 1 < ks.length := by omega
  have b2 : r - 1 < S.length := by omega
  have hix := hK.2 (r - 1) b1 b2
  have hv := hS _ (List.getElem_mem b2)
  have hin := ix_in h2 hix hv.2
  have hw := ix_wide hix
  have hat := hC.at hr1 b1
  have hmost := counted_most hC hK hs hr1 b1
  have hq : qF p O num den = (((hiV p ks[r - 1].toNat : Nat) : Int), 0) := by
    unfold qF
    rw [hC.sum, hkn, hrk]
    show (if (0 : Int) = 0 then _ else _) = _
    rw [if_pos rfl, hat]
  have htop := hiV_top h2 (show ks[r - 1].toNat < (64 - p) * 2 ^ p by omega)
  have ham := amN_le p O (hiV p ks[r - 1].toNat : Nat)
  rw [hC.sum, hkn] at ham
  have hmy := counted_may h1 h2 (by omega) hS hC hK
  obtain ⟨y, hy⟩ := Int.eq_ofNat_of_zero_le hv.1
  rw [hy, ← Int.natCast_ediv] at hw
  refine ⟨r, hiV p ks[r - 1].toNat, _, y, rfl, hr1, hr.1, ⟨b2, hy⟩, hq, hrk, rfl, hmost, ham, by omega, ?_, htop, hmy, ?_, by have := ci_few h2 (fun y hy => (hS y hy).2) hC hK; omega⟩
  · generalize y / 2 ^ p = z at *
    omega
  · intro c hc
    obtain ⟨v, hv, hx⟩ := hK.mem (hC.mem hc)
    have hi := ix_in h2 hx (hS v hv).2
    have hN : (64 - p) * 2 ^ p < 9223372036854775808 := by
      have : 2 ^ p ≤ 2 ^ 14 := Nat.pow_le_pow_right (by decide) h2
      have : (64 - p) * 2 ^ p ≤ 64 * 2 ^ 14 := Nat.mul_le_mul (by omega) this
      omega
    have hsum : c.2 ≤ sumN O := le_sumN hc
    rw [hC.sum, hkn] at hsum
    exact ⟨by omega, by omega, by omega⟩
end Go.Proofs.YtckdkcnnfjbdmaaGreat
/- Rank and Quantile, the code's. Own work of the verifier. -/
namespace Go.Proofs.YtckdkcnnfjbdmaaGreat
open Go.RowKit

theorem cmul64_any (x y : Int) (hx0 : 0 ≤ x) (hx : x < 18446744073709551616) (hy0 : 0 ≤ y) (hy : y < 18446744073709551616) (w : World) :
    Calls Tryz.prog 136 #[.int .u64 x, .int .u64 y] w fun e w' => e = .returned (.tuple #[.int .u64 (hiOf (x * y)), .int .u64 (loOf (x * y))]) ∧ w' = w := by
  obtain ⟨x, rfl⟩ := Int.eq_ofNat_of_zero_le hx0
  obtain ⟨y, rfl⟩ := Int.eq_ofNat_of_zero_le hy0
  refine (Tryz.bits_Mul64 x y (by omega) (by omega) w).mono ?_
  rintro e w' ⟨rfl, rfl⟩
  refine ⟨?_, rfl⟩
  unfold hiOf loOf
  rw [← Int.natCast_mul]
  simp only [Int.natCast_ediv, Int.natCast_emod]
  rfl
set_option maxHeartbeats 400000 in
theorem cmul_any (x y : Int) (hx0 : 0 ≤ x) (hx : x < 18446744073709551616) (hy0 : 0 ≤ y) (hy : y < 18446744073709551616) (w : World) :
    Calls Tryz.prog 107 #[.int .u64 x, .int .u64 y] w fun e w' => e = .returned (.tuple #[.int .u64 (hiOf (x * y)), .int .u64 (loOf (x * y))]) ∧ w' = w := by
  go_enter Tryz.func107, Tryz.ntmps107
  go_wp2_with fail
  refine (cmul64_any x y hx0 hx hy0 hy _).mono ?_
  rintro e w1 ⟨rfl, rfl⟩
  go_wp2
  go_ret2
  exact ⟨rfl, rfl⟩
set_option maxHeartbeats 1000000 in
theorem cdiv_any (hi lo y : Int) (h0 : 0 ≤ hi) (h1 : 0 ≤ lo) (h2 : lo < 18446744073709551616) (h3 : hi < y) (h4 : y < 18446744073709551616) (w : World) :
    Calls Tryz.prog 108 #[.int .u64 hi, .int .u64 lo, .int .u64 y] w fun e w' =>
      e = .returned (.tuple #[.int .u64 ((hi * 18446744073709551616 + lo) / y), .int .u64 ((hi * 18446744073709551616 + lo) % y), .int .i64 0]) ∧ Below w.heap.size w w' := by
  have hz : (y == 0) = false := by rw [beq_eq_false_iff_ne]; omega
  have HD : Hid _ := div64_any hi lo y h0 h1 h2 h3 h4
  generalize (hi * 18446744073709551616 + lo) / y = q at *
  generalize (hi * 18446744073709551616 + lo) % y = r at *
  go_enter Tryz.func108, Tryz.ntmps108
  go_wp2_with fail
  refine (HD.out _).mono ?_
  rintro e w1 ⟨rfl, k, rfl⟩
  go_wp2
  go_ret3
  exact ⟨rfl, below_drew _ _⟩
theorem cdiv_w (H l Y : Nat) (hl : l < 18446744073709551616) (hH : H < Y) (hY : Y < 18446744073709551616) (w : World) :
    Calls Tryz.prog 108 #[.int .u64 H, .int .u64 l, .int .u64 Y] w fun e w' =>
      e = .returned (.tuple #[.int .u64 (((H * 18446744073709551616 + l) / Y : Nat) : Int), .int .u64 (((H * 18446744073709551616 + l) % Y : Nat) : Int), .int .i64 0]) ∧ Below w.heap.size w w' := by
  refine (cdiv_any (H : Int) (l : Int) (Y : Int) (by omega) (by omega) (by omega) (by omega) (by omega) w).mono ?_
  rintro e w' ⟨rfl, hb⟩
  exact ⟨rfl, hb⟩
set_option maxHeartbeats 1000000 in
theorem crank_good (n num den : Nat) (h1 : 1 ≤ n) (hn : n < 18446744073709551616) (h2 : num ≤ den) (h3 : 1 ≤ den) (h4 : den < 9223372036854775808) (w : World) :
    Calls Tryz.prog 71 #[.int .u64 (n : Int), .int .i64 (num : Int), .int .i64 (den : Int)] w fun e w' => e = twoU (rkN n num den : Nat) 0 ∧ Below w.heap.size w w' := by
  have c1 : ¬ (den : Int) < 1 := by omega
  have c2 : ¬ (num : Int) < 0 := by omega
  have c3 : ¬ (den : Int) < (num : Int) := by omega
  have c4 : ((n : Int) == 0) = false := by rw [beq_eq_false_iff_ne]; omega
  obtain ⟨r1, r2, r3⟩ := rkN_le (n := n) h1 h2 h3
  have HM : Hid (∀ W, _) := cmul_any (n : Int) (num : Int) (by omega) (by omega) (by omega) (by omega)
  have hmul : (n : Int) * (num : Int) = ((n * num : Nat) : Int) := by rw [Int.natCast_mul]
  rw [hmul] at HM
  have hle : n * num < 18446744073709551616 * den := Nat.lt_of_le_of_lt (Nat.mul_le_mul_left _ h2) (Nat.mul_lt_mul_of_pos_right hn (by omega))
  have hhi : hiOf ((n * num : Nat) : Int) = ((n * num / 18446744073709551616 : Nat) : Int) := by unfold hiOf; omega
  have hlo : loOf ((n * num : Nat) : Int) = ((n * num % 18446744073709551616 : Nat) : Int) := by unfold loOf; omega
  have HD : Hid (∀ W, _) := cdiv_w (n * num / 18446744073709551616) (n * num % 18446744073709551616) den (by omega) (by rw [Nat.div_lt_iff_lt_mul (by decide)]; omega) (by omega)
  rw [show n * num / 18446744073709551616 * 18446744073709551616 + n * num % 18446744073709551616 = n * num by omega] at HD
  rw [hhi, hlo] at HM
  unfold rkN at *
  clear hmul hle hhi hlo
  generalize n * num / 18446744073709551616 = H at *
  generalize n * num % 18446744073709551616 = l at *
  generalize n * num / den = q at *
  generalize n * num % den = r at *
  by_cases hr : 0 < r
  · have c5 : (0 : Int) < (r : Int) := by omega
    have hw : IntKind.u64.wrap ((q : Int) + 1) = ((q + 1 : Nat) : Int) := by have := r3 hr; rw [IntKind.wrap_u64]; omega
    rw [if_pos hr]
    have hmax : max ((q + 1 : Nat) : Int) 1 = ((max (q + 1) 1 : Nat) : Int) := by omega
    go_enter Tryz.func71, Tryz.ntmps71
    go_wp2_with (first
      | (go_at_call 107; with_reducible refine (HM.out _).mono ?_; rintro e w1 ⟨rfl, rfl⟩)
      | (go_at_call 108; with_reducible refine (HD.out _).mono ?_; rintro e w2 ⟨rfl, hb2⟩))
    go_ret2
    exact ⟨twoU_of (by omega), hb2⟩
  · have c5 : ¬ (0 : Int) < (r : Int) := by omega
    rw [if_neg hr]
    by_cases hq : q = 0
    · subst hq
      go_enter Tryz.func71, Tryz.ntmps71
      go_wp2_with (first
        | (go_at_call 107; with_reducible refine (HM.out _).mono ?_; rintro e w1 ⟨rfl, rfl⟩)
        | (go_at_call 108; with_reducible refine (HD.out _).mono ?_; rintro e w2 ⟨rfl, hb2⟩))
      go_ret2
      exact ⟨twoU_of (by omega), hb2⟩
    · have c6 : (1 : Int) ≤ (q : Int) := by omega
      go_enter Tryz.func71, Tryz.ntmps71
      go_wp2_with (first
        | (go_at_call 107; with_reducible refine (HM.out _).mono ?_; rintro e w1 ⟨rfl, rfl⟩)
        | (go_at_call 108; with_reducible refine (HD.out _).mono ?_; rintro e w2 ⟨rfl, hb2⟩))
      go_ret2
      exact ⟨twoU_of (by omega), hb2⟩
theorem crank_arg (n : Nat) (num den : Int) (h : ¬ (1 ≤ den ∧ 0 ≤ num ∧ num ≤ den)) (w : World) :
    Calls Tryz.prog 71 #[.int .u64 (n : Int), .int .i64 num, .int .i64 den] w fun e w' => e = twoU 0 1 ∧ Below w.heap.size w w' := by
  by_cases c1 : den < 1
  · clear h
    go_enter Tryz.func71, Tryz.ntmps71
    go_wp2_with fail
    go_ret2
    exact ⟨rfl, Below.refl _ _⟩
  · by_cases c2 : num < 0
    · clear h
      go_enter Tryz.func71, Tryz.ntmps71
      go_wp2_with fail
      go_ret2
      exact ⟨rfl, Below.refl _ _⟩
    · have c3 : den < num := by omega
      clear h
      go_enter Tryz.func71, Tryz.ntmps71
      go_wp2_with fail
      go_ret2
      exact ⟨rfl, Below.refl _ _⟩
theorem crank_none (num den : Nat) (h2 : num ≤ den) (h3 : 1 ≤ den) (w : World) :
    Calls Tryz.prog 71 #[.int .u64 0, .int .i64 (num : Int), .int .i64 (den : Int)] w fun e w' => e = twoU 0 16 ∧ Below w.heap.size w w' := by
  have c1 : ¬ (den : Int) < 1 := by omega
  have c2 : ¬ (num : Int) < 0 := by omega
  have c3 : ¬ (den : Int) < (num : Int) := by omega
  go_enter Tryz.func71, Tryz.ntmps71
  go_wp2_with fail
  go_ret2
  exact ⟨rfl, Below.refl _ _⟩
theorem crank_any (n : Nat) (num den : Int) (hn : n < 18446744073709551616) (hd : den < 9223372036854775808) (w : World) :
    Calls Tryz.prog 71 #[.int .u64 (n : Int), .int .i64 num, .int .i64 den] w fun e w' => e = twoU (rkF n num den).1 (rkF n num den).2 ∧ Below w.heap.size w w' := by
  unfold rkF
  by_cases h : 1 ≤ den ∧ 0 ≤ num ∧ num ≤ den
  · rw [if_pos h]
    obtain ⟨D, rfl⟩ := Int.eq_ofNat_of_zero_le (by omega : 0 ≤ den)
    obtain ⟨M, rfl⟩ := Int.eq_ofNat_of_zero_le h.2.1
    by_cases h0 : n = 0
    · rw [if_pos h0]
      subst h0
      exact crank_none M D (by omega) (by omega) w
    · rw [if_neg h0]
      exact crank_good n M D (by omega) hn (by omega) (by omega) (by omega) w
  · rw [if_neg h]
    exact crank_arg n num den h w
set_option maxHeartbeats 1000000 in
theorem cquant_ok (w : World) (v : Value) (p : Nat) (L : List Cn) (hS : SN w v L) (hW : Wc L) (hl : L.length ≤ 8796093022208) (hx : MayIs (p : Int) L 0) (num den : Int) (hd : den < 9223372036854775808) :
    Calls Tryz.prog 38 #[.int .i64 (p : Int), v, .int .i64 num, .int .i64 den] w fun e w' => e = two (qF p L num den).1 (qF p L num den).2 ∧ Below w.heap.size w w' := by
  obtain ⟨hp, hsum, hidx⟩ := may_ok hx
  obtain ⟨ao, b, o, cap, hv, _⟩ := hS.sc
  subst hv
  have HM : Hid (∀ W, Below w.heap.size w W → _) := fun W k => may_any W _ L (p : Int) 0 (hS.below k) hW hl hx
  have HT : Hid (∀ W, Below w.heap.size w W → _) := fun W k => total_any W _ L (hS.below k) hW hl
  rw [tot_sum hsum] at HT
  have HK : Hid (∀ W, _) := crank_any (sumN L) num den (by omega) hd
  have HQ : Hid _ := rkF_ok (n := sumN L) (num := num) (den := den)
  have hb0 := Below.refl w.heap.size w
  unfold qF
  by_cases he : (rkF (sumN L) num den).2 = 0
  · rw [if_pos he]
    obtain ⟨q1, q2⟩ := HQ.out he
    obtain ⟨c, hc, hat⟩ := atF_ok L _ q1 q2
    obtain ⟨j, hj, rfl⟩ := List.getElem_of_mem hc
    have HA : Hid (∀ W, Below w.heap.size w W → _) := fun W k => at_any W _ L (rkF (sumN L) num den).1 (hS.below k) hW hl (by omega)
    rw [he] at HK
    rw [hat] at HA ⊢
    have HH : Hid (∀ W, _) := chigh_at p (by omega) (by omega) L[j].1 (hidx j hj).1 (by have := (hidx j hj).2.1; simpa using this)
    clear hat hc hidx he HQ q1 q2
    generalize L[j].1 = x at *
    generalize (rkF (sumN L) num den).1 = r at *
    generalize sumN L = S at *
    generalize hiV p x.toNat = h at *
    go_enter Tryz.func38, Tryz.ntmps38
    go_wp2_with (first
      | (go_at_call 70; with_reducible refine (HM.out _ hb0).mono ?_; rintro e w1 ⟨rfl, hb1⟩)
      | (go_at_call 72; with_reducible refine (HT.out _ hb1).mono ?_; rintro e w2 ⟨rfl, hb2⟩; have hb2' := bt hb1 hb2)
      | (go_at_call 71; with_reducible refine (HK.out _).mono ?_; rintro e w3 ⟨rfl, hb3⟩; have hb3' := bt hb2' hb3)
      | (go_at_call 73; with_reducible refine (HA.out _ hb3').mono ?_; rintro e w4 ⟨rfl, hb4⟩; have hb4' := bt hb3' hb4)
      | (go_at_call 74; with_reducible refine (HH.out _).mono ?_; rintro e w5 ⟨rfl, hb5⟩; have hb5' := bt hb4' hb5))
    go_ret2
    exact ⟨rfl, hb5'⟩
  · rw [if_neg he]
    have t1 : ((rkF (sumN L) num den).2 != 0) = true := by rw [bne_iff_ne]; exact he
    clear hidx he HQ
    generalize (rkF (sumN L) num den).2 = x at *
    generalize (rkF (sumN L) num den).1 = r at *
    generalize sumN L = S at *
    go_enter Tryz.func38, Tryz.ntmps38
    go_wp2_with (first
      | (go_at_call 70; with_reducible refine (HM.out _ hb0).mono ?_; rintro e w1 ⟨rfl, hb1⟩)
      | (go_at_call 72; with_reducible refine (HT.out _ hb1).mono ?_; rintro e w2 ⟨rfl, hb2⟩; have hb2' := bt hb1 hb2)
      | (go_at_call 71; with_reducible refine (HK.out _).mono ?_; rintro e w3 ⟨rfl, hb3⟩; have hb3' := bt hb2' hb3))
    go_ret2
    exact ⟨rfl, hb3'⟩
theorem cquant_not (w : World) (v : Value) (p : Int) (L : List Cn) (hS : SN w v L) (hW : Wc L) (hl : L.length ≤ 8796093022208) {x : Int} (hx : MayIs p L x) (h0 : x ≠ 0) (num den : Int) :
    Calls Tryz.prog 38 #[.int .i64 p, v, .int .i64 num, .int .i64 den] w fun e w' => e = two 0 x ∧ Below w.heap.size w w' := by
  obtain ⟨ao, b, o, cap, hv, _⟩ := hS.sc
  subst hv
  have HM : Hid (∀ W, Below w.heap.size w W → _) := fun W k => may_any W _ L p x (hS.below k) hW hl hx
  have t1 : (x != 0) = true := by rw [bne_iff_ne]; exact h0
  have hb0 := Below.refl w.heap.size w
  clear h0 hx
  go_enter Tryz.func38, Tryz.ntmps38
  go_wp2_with (go_at_call 70; with_reducible refine (HM.out _ hb0).mono ?_; rintro e w1 ⟨rfl, hb1⟩)
  go_ret2
  exact ⟨rfl, hb1⟩
end Go.Proofs.YtckdkcnnfjbdmaaGreat
