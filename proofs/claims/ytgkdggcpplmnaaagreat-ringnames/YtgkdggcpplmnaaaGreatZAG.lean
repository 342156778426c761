/- THE LEAVES: sums, differences, order, of numbers of 128 bits: the code's and the document's. Own work of the verifier. -/
import Derived.Test.YtgkdggcpplmnaaaGreatRows
import Derived.Test.YtgkdggcpplmnaaaGreatZAB
import Derived.WalkKit
import Derived.WalkSpells
import Derived.RowKit3
import Derived.Below
import Derived.Laws.Externs
import Derived.Shelf.Spec.BitsCarry
import Derived.Outline
import Derived.Deep.QuietTactic
import Derived.BigQuiet
import Derived.Deep.RegionHeld3
import Derived.Laws.Bits64
import Derived.Lib.Zigzag
import Derived.Laws.FloatArith
namespace Go.Proofs.YtgkdggcpplmnaaaGreat
open Go.RowKit

/-- The borrow. -/
def bor (x y : Int) : Int := if x < y then 1 else 0
theorem bor_0 (x y : Int) : 0 ≤ bor x y := by unfold bor; split <;> decide
theorem bor_1 (x y : Int) : bor x y ≤ 1 := by unfold bor; split <;> decide

theorem add64_0 (x y : Int) (hx : 0 ≤ x) (hy : 0 ≤ y) (w : World) : (callFunc 96 #[.int .u64 x, .int .u64 y, .int .u64 0]).run Tryz.prog w =
    .ok (.value (.tuple #[.int .u64 ((x + y) % 18446744073709551616), .int .u64 ((x + y) / 18446744073709551616)])) w := by
  rw [run_callFunc_extern Tryz.func96 (by kernel_rfl) (by kernel_rfl) (by kernel_rfl) (e := add64Entry) (by kernel_rfl), run_add64 x y 0 (by omega) (by omega) (by omega) (by omega)]
  simp [Result.andThen]
theorem sub64_0 (x y : Int) (hx : 0 ≤ x) (hy : 0 ≤ y) (hy' : y < 18446744073709551616) (w : World) : (callFunc 31 #[.int .u64 x, .int .u64 y, .int .u64 0]).run Tryz.prog w =
    .ok (.value (.tuple #[.int .u64 ((x - y) % 18446744073709551616), .int .u64 (bor x y)])) w := by
  obtain ⟨x, rfl⟩ := Int.eq_ofNat_of_zero_le hx
  obtain ⟨y, rfl⟩ := Int.eq_ofNat_of_zero_le hy
  have e1 : (((x + 18446744073709551616 - y - 0) % 18446744073709551616 : Nat) : Int) = ((x : Int) - y) % 18446744073709551616 := by omega
  have e2 : ((if x < y + 0 then 1 else 0 : Nat) : Int) = bor (x : Int) y := by unfold bor; split <;> split <;> omega
  have h := run_callFunc_extern Tryz.func31 (by kernel_rfl) (by kernel_rfl) (by kernel_rfl) (e := sub64Entry) (by kernel_rfl) #[.int .u64 (x : Int), .int .u64 (y : Int), .int .u64 0] w
  rw [h, ← e1, ← e2, show (0 : Int) = ((0 : Nat) : Int) from rfl, run_sub64 x y 0 (by omega)]
  rfl

theorem add_words {ah al bh bl : Int} (h1 : Wf ah al) (h2 : Wf bh bl) : wrap64 (wrap64 (ah + bh) + (al + bl) / 18446744073709551616) = hiOf (rnd (val ah al + val bh bl)) ∧ (al + bl) % 18446744073709551616 = loOf (rnd (val ah al + val bh bl)) := by
  obtain ⟨_, _, _, _⟩ := h1; obtain ⟨_, _, _, _⟩ := h2
  unfold wrap64 hiOf loOf rnd val; constructor <;> omega
theorem sub_words {ah al bh bl : Int} (h1 : Wf ah al) (h2 : Wf bh bl) : wrap64 (wrap64 (ah - bh) - bor al bl) = hiOf (rnd (val ah al - val bh bl)) ∧ (al - bl) % 18446744073709551616 = loOf (rnd (val ah al - val bh bl)) := by
  obtain ⟨_, _, _, _⟩ := h1; obtain ⟨_, _, _, _⟩ := h2
  unfold wrap64 hiOf loOf rnd val bor; constructor
  · split <;> omega
  · omega

/-- A number as the model holds it. -/
abbrev num (n : Int) : Value := .agg #[.int .i64 (hiOf n), .int .u64 (loOf n)]

theorem num_of {n h l : Int} (e : h = hiOf n ∧ l = loOf n) : num n = .agg #[.int .i64 h, .int .u64 l] := by rw [e.1, e.2]
theorem bel3 (w : World) (o1 o2 o3 : Obj) : Below w.heap.size w (((w.alloc o1).alloc o2).alloc o3) :=
  (((Below.refl _ _).alloc (Nat.le_refl _) _).alloc (by simp) _).alloc (by simp; omega) _
theorem bel2 (w : World) (o1 o2 : Obj) : Below w.heap.size w ((w.alloc o1).alloc o2) :=
  ((Below.refl _ _).alloc (Nat.le_refl _) _).alloc (by simp) _
theorem bel1 (w : World) (o1 : Obj) : Below w.heap.size w (w.alloc o1) := (Below.refl _ _).alloc (Nat.le_refl _) _

set_option maxHeartbeats 400000 in
theorem add_any (ah al bh bl : Int) (h1 : Wf ah al) (h2 : Wf bh bl) (w : World) :
    Calls Tryz.prog 77 #[.agg #[.int .i64 ah, .int .u64 al], .agg #[.int .i64 bh, .int .u64 bl]] w fun e w' =>
      e = .returned (num (rnd (val ah al + val bh bl))) ∧ Below w.heap.size w w' := by
  rw [num_of (add_words h1 h2)]
  obtain ⟨a1, a2, a3, a4⟩ := h1; obtain ⟨b1, b2, b3, b4⟩ := h2
  go_enter Tryz.func77, Tryz.ntmps77
  go_wp2_with (simp only [add64_0 al bl a3 b3])
  simp [bodyPost, results, Tryz.results77, go_sem]
  exact bel3 _ _ _ _

set_option maxHeartbeats 400000 in
theorem sub_any (ah al bh bl : Int) (h1 : Wf ah al) (h2 : Wf bh bl) (w : World) :
    Calls Tryz.prog 19 #[.agg #[.int .i64 ah, .int .u64 al], .agg #[.int .i64 bh, .int .u64 bl]] w fun e w' =>
      e = .returned (num (rnd (val ah al - val bh bl))) ∧ Below w.heap.size w w' := by
  rw [num_of (sub_words h1 h2)]
  obtain ⟨a1, a2, a3, a4⟩ := h1; obtain ⟨b1, b2, b3, b4⟩ := h2
  have k0 := bor_0 al bl
  have k1 := bor_1 al bl
  go_enter Tryz.func19, Tryz.ntmps19
  go_wp2_with (simp only [sub64_0 al bl a3 b3 b4])
  simp [bodyPost, results, Tryz.results19, go_sem]
  exact bel3 _ _ _ _
end Go.Proofs.YtgkdggcpplmnaaaGreat
namespace Go.Proofs.YtgkdggcpplmnaaaGreat
open Go.RowKit
theorem cmp_lt {ah al bh bl : Int} (h1 : Wf ah al) (h2 : Wf bh bl) (h : ah < bh) : cmp (val ah al) (val bh bl) = -1 := by
  unfold cmp; rw [if_pos ((val_lt h1 h2).2 (Or.inl h))]
theorem cmp_lt' {h al bl : Int} (h1 : Wf h al) (h2 : Wf h bl) (hl : al < bl) : cmp (val h al) (val h bl) = -1 := by
  unfold cmp; rw [if_pos ((val_lt h1 h2).2 (Or.inr ⟨rfl, hl⟩))]
theorem cmp_eq {h l : Int} : cmp (val h l) (val h l) = 0 := by unfold cmp; simp
theorem cmp_gt {ah al bh bl : Int} (h1 : Wf ah al) (h2 : Wf bh bl) (h : ¬ (ah < bh ∨ ah = bh ∧ al < bl)) (hn : ¬ (ah = bh ∧ al = bl)) : cmp (val ah al) (val bh bl) = 1 := by
  unfold cmp; rw [if_neg (fun e => h ((val_lt h1 h2).1 e)), if_neg (fun e => hn ((val_inj h1 h2).1 e))]
set_option maxHeartbeats 400000 in
theorem cmp_any (ah al bh bl : Int) (h1 : Wf ah al) (h2 : Wf bh bl) (w : World) :
    Calls Tryz.prog 71 #[.agg #[.int .i64 ah, .int .u64 al], .agg #[.int .i64 bh, .int .u64 bl]] w fun e w' =>
      e = .returned (.int .i64 (cmp (val ah al) (val bh bl))) ∧ Below w.heap.size w w' := by
  by_cases c1 : ah = bh
  · subst c1
    by_cases c2 : al = bl
    · subst c2
      rw [cmp_eq]
      clear h1 h2
      go_enter Tryz.func71, Tryz.ntmps71
      go_wp2
      go_ret
      exact ⟨rfl, bel2 _ _ _⟩
    · have c3 : (al == bl) = false := beq_eq_false_iff_ne.2 c2
      by_cases c4 : al < bl
      · rw [cmp_lt' h1 h2 c4]
        clear h1 h2
        go_enter Tryz.func71, Tryz.ntmps71
        go_wp2
        go_ret
        exact ⟨rfl, bel2 _ _ _⟩
      · rw [cmp_gt h1 h2 (by omega) (by omega)]
        clear h1 h2
        go_enter Tryz.func71, Tryz.ntmps71
        go_wp2
        go_ret
        exact ⟨rfl, bel2 _ _ _⟩
  · have c2 : (ah == bh) = false := beq_eq_false_iff_ne.2 c1
    by_cases c3 : ah < bh
    · rw [cmp_lt h1 h2 c3]
      clear h1 h2
      go_enter Tryz.func71, Tryz.ntmps71
      go_wp2
      go_ret
      exact ⟨rfl, bel2 _ _ _⟩
    · rw [cmp_gt h1 h2 (by omega) (by omega)]
      clear h1 h2
      go_enter Tryz.func71, Tryz.ntmps71
      go_wp2
      go_ret
      exact ⟨rfl, bel2 _ _ _⟩
end Go.Proofs.YtgkdggcpplmnaaaGreat
/- THE ORDER of floats of 64 bits, by their words (no Go in sight). Own work of the verifier. -/
namespace Go.Proofs.YtgkdggcpplmnaaaGreat


/-- A positive float, in units of the least one. -/
def uV (a : Nat) : Nat := if a < 4503599627370496 then a else (4503599627370496 + a % 4503599627370496) * 2 ^ (a / 4503599627370496 - 1)
theorem uV_succ (a : Nat) : uV a < uV (a + 1) := by
  unfold uV
  by_cases h1 : a + 1 < 4503599627370496
  · rw [if_pos (by omega), if_pos h1]; omega
  · by_cases h2 : a < 4503599627370496
    · obtain rfl : a = 4503599627370495 := by omega
      decide
    · rw [if_neg h2, if_neg h1]
      have hp : 0 < 2 ^ (a / 4503599627370496 - 1) := Nat.pow_pos (by decide)
      by_cases h3 : (a + 1) % 4503599627370496 = 0
      · have e1 : (a + 1) / 4503599627370496 - 1 = (a / 4503599627370496 - 1) + 1 := by omega
        rw [h3, e1, Nat.pow_succ]
        have e2 : a % 4503599627370496 = 4503599627370495 := by omega
        rw [e2]
        generalize 2 ^ (a / 4503599627370496 - 1) = p at *
        omega
      · have e1 : (a + 1) / 4503599627370496 = a / 4503599627370496 := by omega
        have e2 : (a + 1) % 4503599627370496 = a % 4503599627370496 + 1 := by omega
        rw [e1, e2]
        exact Nat.mul_lt_mul_of_pos_right (by omega) hp
theorem uV_mono {a b : Nat} (h : a < b) : uV a < uV b := by
  induction b with
  | zero => omega
  | succ b ih =>
    rcases Nat.lt_or_eq_of_le (Nat.le_of_lt_succ h) with k | k
    · exact Nat.lt_trans (ih k) (uV_succ b)
    · rw [k]; exact uV_succ b

def magOf (a : Nat) : Nat := if a < 4503599627370496 then a else 4503599627370496 + a % 4503599627370496
def upOf (a : Nat) : Nat := if a < 4503599627370496 then 0 else a / 4503599627370496 - 1
theorem uV_eq (a : Nat) : magOf a * 2 ^ upOf a = uV a := by
  unfold magOf upOf uV; split <;> simp
theorem fmt : Ieee.double.signWeight = 9223372036854775808 ∧ Ieee.double.binade = 4503599627370496 ∧ Ieee.double.infRung = 9218868437227405312 ∧ Ieee.double.leastPlace = -1074 := by decide
/-- What a positive float stands for. -/
theorem read_pos (a : Nat) (h : a < 9218868437227405312) : Ieee.double.read a = .number false (magOf a) (-1074 + (upOf a : Int)) := by
  obtain ⟨f1, f2, f3, f4⟩ := fmt
  have e1 : (a / 9223372036854775808 % 2 == 1) = false := by rw [beq_eq_false_iff_ne]; omega
  have e2 : a % 9223372036854775808 = a := by omega
  unfold Ieee.Format.read magOf upOf
  simp only [f1, f2, f3, f4, e1, e2]
  by_cases hl : a < 4503599627370496
  · rw [if_pos hl, if_pos hl, if_pos hl]; rfl
  · rw [if_neg hl, if_neg hl, if_neg hl, if_pos h]

theorem cmp_nat (x y : Nat) : compare ((x : Nat) : Int) ((y : Nat) : Int) = compare x y := by
  rcases Nat.lt_trichotomy x y with h | h | h
  · rw [Nat.compare_eq_lt.2 h]; exact Int.compare_eq_lt.2 (by omega)
  · subst h; simp
  · rw [Nat.compare_eq_gt.2 h]; exact Int.compare_eq_gt.2 (by omega)
theorem cmp_mul (x y p : Nat) (hp : 0 < p) : compare (x * p) (y * p) = compare x y := by
  rcases Nat.lt_trichotomy x y with h | h | h
  · rw [Nat.compare_eq_lt.2 h, Nat.compare_eq_lt.2 (Nat.mul_lt_mul_of_pos_right h hp)]
  · subst h; simp
  · rw [Nat.compare_eq_gt.2 h, Nat.compare_eq_gt.2 (Nat.mul_lt_mul_of_pos_right h hp)]
theorem cmp_uV (a b : Nat) : compare (uV a) (uV b) = compare a b := by
  rcases Nat.lt_trichotomy a b with h | h | h
  · rw [Nat.compare_eq_lt.2 h, Nat.compare_eq_lt.2 (uV_mono h)]
  · subst h; simp
  · rw [Nat.compare_eq_gt.2 h, Nat.compare_eq_gt.2 (uV_mono h)]
/-- Positive floats stand as their bits do. -/
theorem order_pos (a b : Nat) (ha : a < 9218868437227405312) (hb : b < 9218868437227405312) : Ieee.double.order a b = some (compare a b) := by
  unfold Ieee.Format.order
  rw [read_pos a ha, read_pos b hb]
  simp only [Ieee.Datum.order, Ieee.signed]
  congr 1
  rw [if_neg (by decide), if_neg (by decide), cmp_nat]
  have s1 : ∀ (m k : Nat), m <<< k = m * 2 ^ k := fun m k => Nat.shiftLeft_eq m k
  rw [s1, s1, ← cmp_uV a b, ← uV_eq a, ← uV_eq b]
  have hx : ∃ c : Nat, upOf a = (-1074 + (upOf a : Int) - min (-1074 + (upOf a : Int)) (-1074 + (upOf b : Int))).toNat + c ∧ upOf b = (-1074 + (upOf b : Int) - min (-1074 + (upOf a : Int)) (-1074 + (upOf b : Int))).toNat + c := by
    refine ⟨min (upOf a) (upOf b), ?_, ?_⟩ <;> omega
  obtain ⟨c, h1, h2⟩ := hx
  generalize (-1074 + (upOf a : Int) - min (-1074 + (upOf a : Int)) (-1074 + (upOf b : Int))).toNat = x at *
  generalize (-1074 + (upOf b : Int) - min (-1074 + (upOf a : Int)) (-1074 + (upOf b : Int))).toNat = y at *
  rw [h1, h2, Nat.pow_add, Nat.pow_add, ← Nat.mul_assoc, ← Nat.mul_assoc, cmp_mul _ _ _ (Nat.pow_pos (by decide))]


/-- A float by its sign and its size; what it stands for, in units of the least one. -/
def sw (s : Bool) (a : Nat) : Nat := if s then 9223372036854775808 + a else a
def sv (s : Bool) (a : Nat) : Int := if s then -(uV a : Int) else (uV a : Int)
theorem read_sw (s : Bool) (a : Nat) (h : a < 9218868437227405312) : Ieee.double.read (sw s a) = .number s (magOf a) (-1074 + (upOf a : Int)) := by
  cases s with
  | false => exact read_pos a h
  | true =>
    obtain ⟨f1, f2, f3, f4⟩ := fmt
    show Ieee.double.read (9223372036854775808 + a) = _
    have e1 : ((9223372036854775808 + a) / 9223372036854775808 % 2 == 1) = true := by rw [beq_iff_eq]; omega
    have e2 : (9223372036854775808 + a) % 9223372036854775808 = a := by omega
    unfold Ieee.Format.read magOf upOf
    simp only [f1, f2, f3, f4, e1, e2]
    by_cases hl : a < 4503599627370496
    · rw [if_pos hl, if_pos hl, if_pos hl]; rfl
    · rw [if_neg hl, if_neg hl, if_neg hl, if_pos h]
theorem cmpI_mul (x y : Int) (p : Nat) (hp : 0 < p) : compare (x * (p : Int)) (y * (p : Int)) = compare x y := by
  have hp' : (0 : Int) < p := by omega
  rcases Int.lt_trichotomy x y with h | h | h
  · rw [Int.compare_eq_lt.2 h, Int.compare_eq_lt.2 (Int.mul_lt_mul_of_pos_right h hp')]
  · subst h; simp
  · rw [Int.compare_eq_gt.2 h, Int.compare_eq_gt.2 (Int.mul_lt_mul_of_pos_right h hp')]
theorem sv_signed (s : Bool) (a x c : Nat) (h : upOf a = x + c) : sv s a = Ieee.signed s (magOf a) x * ((2 ^ c : Nat) : Int) := by
  unfold sv Ieee.signed
  rw [← uV_eq a, h, Nat.pow_add, ← Nat.mul_assoc, Nat.shiftLeft_eq]
  cases s with
  | false => simp only [Bool.false_eq_true, if_false]; rw [Int.natCast_mul (magOf a * 2 ^ x)]
  | true => simp only [if_true]; rw [Int.natCast_mul (magOf a * 2 ^ x), Int.neg_mul]
theorem order_sw (s t : Bool) (a b : Nat) (ha : a < 9218868437227405312) (hb : b < 9218868437227405312) : Ieee.double.order (sw s a) (sw t b) = some (compare (sv s a) (sv t b)) := by
  unfold Ieee.Format.order
  rw [read_sw s a ha, read_sw t b hb]
  simp only [Ieee.Datum.order]
  congr 1
  have hx : ∃ c : Nat, upOf a = (-1074 + (upOf a : Int) - min (-1074 + (upOf a : Int)) (-1074 + (upOf b : Int))).toNat + c ∧ upOf b = (-1074 + (upOf b : Int) - min (-1074 + (upOf a : Int)) (-1074 + (upOf b : Int))).toNat + c := by
    refine ⟨min (upOf a) (upOf b), ?_, ?_⟩ <;> omega
  obtain ⟨c, h1, h2⟩ := hx
  rw [sv_signed s a _ c h1, sv_signed t b _ c h2, cmpI_mul _ _ _ (Nat.pow_pos (by decide))]

/-- Where a float stands, by its sign and its size. -/
def sr (s : Bool) (a : Nat) : Int := if s then -(a : Int) else (a : Int)
theorem cmp_congr {x y x' y' : Int} (h1 : x < y ↔ x' < y') (h2 : y < x ↔ y' < x') : compare x y = compare x' y' := by
  rcases Int.lt_trichotomy x y with h | h | h
  · rw [Int.compare_eq_lt.2 h, Int.compare_eq_lt.2 (h1.1 h)]
  · have e : x' = y' := by
      rcases Int.lt_trichotomy x' y' with k | k | k
      · have := h1.2 k; omega
      · exact k
      · have := h2.2 k; omega
    rw [h, e]; simp
  · rw [Int.compare_eq_gt.2 h, Int.compare_eq_gt.2 (h2.1 h)]
theorem uV_zero : uV 0 = 0 := by decide
theorem uV_lt_iff (a b : Nat) : uV a < uV b ↔ a < b := by
  constructor
  · intro h
    rcases Nat.lt_trichotomy a b with k | k | k
    · exact k
    · subst k; omega
    · have := uV_mono k; omega
  · exact uV_mono
theorem cmp_sv (s t : Bool) (a b : Nat) : compare (sv s a) (sv t b) = compare (sr s a) (sr t b) := by
  have h1 := uV_lt_iff a b
  have h2 := uV_lt_iff b a
  have h3 := uV_lt_iff 0 a
  have h4 := uV_lt_iff 0 b
  rw [uV_zero] at h3 h4
  apply cmp_congr
  · cases s <;> cases t <;> simp only [sv, sr, Bool.false_eq_true, if_false, if_true] <;> omega
  · cases s <;> cases t <;> simp only [sv, sr, Bool.false_eq_true, if_false, if_true] <;> omega
theorem read_inf (s : Bool) : Ieee.double.read (sw s 9218868437227405312) = .infinity s := by cases s <;> decide
/-- How two floats stand that are no NaNs. -/
theorem order_all (s t : Bool) (a b : Nat) (ha : a ≤ 9218868437227405312) (hb : b ≤ 9218868437227405312) : Ieee.double.order (sw s a) (sw t b) = some (compare (sr s a) (sr t b)) := by
  rcases Nat.lt_or_eq_of_le ha with ha | ha
  · rcases Nat.lt_or_eq_of_le hb with hb | hb
    · rw [order_sw s t a b ha hb, cmp_sv]
    · subst hb
      unfold Ieee.Format.order
      rw [read_sw s a ha, read_inf t]
      simp only [Ieee.Datum.order]
      cases t
      · rw [if_neg (by decide)]; congr 1; symm; rw [Int.compare_eq_lt]; unfold sr; cases s <;> simp <;> omega
      · rw [if_pos rfl]; congr 1; symm; rw [Int.compare_eq_gt]; unfold sr; cases s <;> simp <;> omega
  · subst ha
    rcases Nat.lt_or_eq_of_le hb with hb | hb
    · unfold Ieee.Format.order
      rw [read_sw t b hb, read_inf s]
      simp only [Ieee.Datum.order]
      cases s
      · rw [if_neg (by decide)]; congr 1; symm; rw [Int.compare_eq_gt]; unfold sr; cases t <;> simp <;> omega
      · rw [if_pos rfl]; congr 1; symm; rw [Int.compare_eq_lt]; unfold sr; cases t <;> simp <;> omega
    · subst hb
      unfold Ieee.Format.order
      rw [read_inf s, read_inf t]
      cases s <;> cases t <;> decide
theorem read_nan (s : Bool) (a : Nat) (h : 9218868437227405312 < a) (h2 : a < 9223372036854775808) : ∃ f, Ieee.double.read (sw s a) = .nan s f := by
  obtain ⟨f1, f2, f3, f4⟩ := fmt
  have e1 : ((sw s a) / 9223372036854775808 % 2 == 1) = s := by
    unfold sw; cases s
    · rw [if_neg (by decide), beq_eq_false_iff_ne]; omega
    · rw [if_pos rfl, beq_iff_eq]; omega
  have e2 : sw s a % 9223372036854775808 = a := by unfold sw; cases s <;> simp <;> omega
  unfold Ieee.Format.read
  simp only [f1, f2, f3, f4, e1, e2]
  rw [if_neg (by omega), if_neg (by omega), if_neg (by omega)]
  exact ⟨_, rfl⟩
theorem order_nan1 (s : Bool) (a y : Nat) (h : 9218868437227405312 < a) (h2 : a < 9223372036854775808) : Ieee.double.order (sw s a) y = none := by
  obtain ⟨f, e⟩ := read_nan s a h h2
  unfold Ieee.Format.order
  rw [e]; rfl
theorem order_nan2 (s : Bool) (a x : Nat) (h : 9218868437227405312 < a) (h2 : a < 9223372036854775808) : Ieee.double.order x (sw s a) = none := by
  obtain ⟨f, e⟩ := read_nan s a h h2
  unfold Ieee.Format.order
  rw [e]
  cases Ieee.double.read x <;> rfl
/-- A word by its sign and its size. -/
theorem sw_of (x : Nat) (h : x < 18446744073709551616) : ∃ s a, x = sw s a ∧ a < 9223372036854775808 := by
  by_cases k : x < 9223372036854775808
  · exact ⟨false, x, rfl, k⟩
  · exact ⟨true, x - 9223372036854775808, by unfold sw; rw [if_pos rfl]; omega, by omega⟩
end Go.Proofs.YtgkdggcpplmnaaaGreat
