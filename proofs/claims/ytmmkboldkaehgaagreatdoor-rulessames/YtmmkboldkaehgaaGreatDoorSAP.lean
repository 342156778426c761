/- THE ORDER OF FLOATS, the code's: comparisons, signs. Own work of the verifier. -/
import Derived.Test.YtmmkboldkaehgaaGreatDoorSAK
import Derived.Test.YtmmkboldkaehgaaGreatDoorSAO
import Derived.Test.YtmmkboldkaehgaaGreatDoorSAN
import Derived.Lib.SmallJoins
namespace Go.Proofs.YtmmkboldkaehgaaGreatDoor.Rl
open Go.RowKit

/-- Is a word a NaN's? -/
def isN (x : Nat) : Bool := decide (9218868437227405312 < x % 9223372036854775808)
/-- Where a word that is no NaN's stands. -/
def ov (x : Nat) : Int := if x < 9223372036854775808 then (x : Int) else 9223372036854775808 - (x : Int)
theorem ov_sw (s : Bool) (a : Nat) (h : a < 9223372036854775808) : ov (sw s a) = sr s a := by
  unfold ov sw sr; cases s <;> simp <;> omega
theorem isN_sw (s : Bool) (a : Nat) (h : a < 9223372036854775808) : isN (sw s a) = decide (9218868437227405312 < a) := by
  unfold isN sw; congr 2; cases s <;> simp <;> omega
theorem ord_nan {x : Nat} (hx : x < 18446744073709551616) (h : isN x = true) (y : Nat) : FloatKind.f64.format.order x y = none ∧ FloatKind.f64.format.order y x = none := by
  obtain ⟨s, a, rfl, ha⟩ := sw_of x hx
  rw [isN_sw s a ha] at h
  have h := of_decide_eq_true h
  exact ⟨order_nan1 s a y h ha, order_nan2 s a y h ha⟩
theorem ord_num {x y : Nat} (hx : x < 18446744073709551616) (hy : y < 18446744073709551616) (h : isN x = false) (k : isN y = false) : FloatKind.f64.format.order x y = some (compare (ov x) (ov y)) := by
  obtain ⟨s, a, rfl, ha⟩ := sw_of x hx
  obtain ⟨t, b, rfl, hb⟩ := sw_of y hy
  rw [isN_sw s a ha] at h
  rw [isN_sw t b hb] at k
  have h := of_decide_eq_false h
  have k := of_decide_eq_false k
  rw [ov_sw s a ha, ov_sw t b hb]
  exact order_all s t a b (by omega) (by omega)
end Go.Proofs.YtmmkboldkaehgaaGreatDoor.Rl
/- Print AT THREE FLOATS. Own work of the verifier. -/
namespace Go.Proofs.YtmmkboldkaehgaaGreatDoor.Rl
open Go.RowKit Go.Sort

theorem mf64bits (x : Nat) (w : World) : (callFunc 40 #[.float .f64 x]).run Tryz.prog w = .ok (.value (.int .u64 (x : Int))) w := by
  rw [run_callFunc_extern Tryz.func40 (by kernel_rfl) (by kernel_rfl) (by kernel_rfl) (e := Extern.MathFloatBits.float64bits) (by kernel_rfl)]
  rfl
theorem mf64from (x : Int) (w : World) : (callFunc 55 #[.int .u64 x]).run Tryz.prog w = .ok (.value (.float .f64 x.toNat)) w := by
  rw [run_callFunc_extern Tryz.func55 (by kernel_rfl) (by kernel_rfl) (by kernel_rfl) (e := Extern.MathFloatBits.float64frombits) (by kernel_rfl)]
  rfl
theorem clear_sign (x : Nat) (h : x < 18446744073709551616) : bits .andNot .u64 (x : Int) 9223372036854775808 = ((x % 9223372036854775808 : Nat) : Int) := by
  have := u64_andNot_nat x 9223372036854775808 (by omega) (by decide)
  rw [show ((9223372036854775808 : Nat) : Int) = 9223372036854775808 from rfl] at this
  rw [this, show 18446744073709551615 - 9223372036854775808 = 2 ^ 63 - 1 from by decide, Nat.and_two_pow_sub_one_eq_mod]
theorem abs_any (x : Nat) (h : x < 18446744073709551616) (w : World) : Calls Tryz.prog 47 #[.float .f64 x] w fun e w' => e = .returned (.float .f64 (x % 9223372036854775808)) ∧ w' = w := by
  have hc := clear_sign x h
  generalize x % 9223372036854775808 = y at *
  go_enter Tryz.func47, Tryz.ntmps47
  go_wp2_with (first | simp only [mf64bits] | simp only [mf64from])
  go_ret
  exact ⟨rfl, rfl⟩
set_option maxHeartbeats 1000000 in
theorem hasExp_w (x : Nat) (b1 b2 b3 b4 : Bool) (o1 : (FloatKind.f64.format.order 0 x == some .lt) = b1) (o2 : (FloatKind.f64.format.order x 4517329193108106637 == some .lt) = b2)
    (o3 : (FloatKind.f64.format.order 4921056587992461136 x == some .lt || FloatKind.f64.format.order 4921056587992461136 x == some .eq) = b3) (o4 : (FloatKind.f64.format.order x 9218868437227405311 == some .lt || FloatKind.f64.format.order x 9218868437227405311 == some .eq) = b4) (w : World) :
    Calls Tryz.prog 46 #[.float .f64 x] w fun e w' => e = .returned (.bool (b1 && b2 || b3 && b4)) ∧ w' = w := by
  cases b1 <;> cases b2 <;> cases b3 <;> cases b4
  all_goals
    go_enter Tryz.func46, Tryz.ntmps46
    go_wp2
    go_ret
    exact ⟨rfl, rfl⟩
end Go.Proofs.YtmmkboldkaehgaaGreatDoor.Rl
/- Print AT EVERY FLOAT. Own work of the verifier. -/
namespace Go.Proofs.YtmmkboldkaehgaaGreatDoor.Rl
open Go.RowKit Go.Sort

theorem grow_below (w : World) (k : Nat) (os : Array Obj) : Below w.heap.size w (grow (w.drewN k) os) :=
  ⟨rfl, rfl, rfl, by show w.heap.size ≤ (w.heap ++ os).size; rw [Array.size_append]; omega, fun j hj => by show (w.heap ++ os)[j]? = w.heap[j]?; rw [Array.getElem?_append_left hj]⟩
theorem opt_lt (a b : Int) : (some (compare a b) == some Ordering.lt) = decide (a < b) := by
  rcases Int.lt_trichotomy a b with h | h | h
  · rw [Int.compare_eq_lt.2 h, decide_eq_true h]; decide
  · rw [Int.compare_eq_eq.2 h, decide_eq_false (by omega)]; decide
  · rw [Int.compare_eq_gt.2 h, decide_eq_false (by omega)]; decide
theorem opt_le (a b : Int) : (some (compare a b) == some Ordering.lt || some (compare a b) == some Ordering.eq) = decide (a ≤ b) := by
  rcases Int.lt_trichotomy a b with h | h | h
  · rw [Int.compare_eq_lt.2 h, decide_eq_true (by omega)]; decide
  · rw [Int.compare_eq_eq.2 h, decide_eq_true (by omega)]; decide
  · rw [Int.compare_eq_gt.2 h, decide_eq_false (by omega)]; decide
/-- Whether the text of a float that is not below 0 has an exponent. -/
def hasE (y : Nat) : Bool := decide (0 < y ∧ y < 4517329193108106637 ∨ 4921056587992461136 ≤ y ∧ y ≤ 9218868437227405311)
theorem hasExp_all (y : Nat) (hy : y < 9223372036854775808) (w : World) :
    Calls Tryz.prog 46 #[.float .f64 y] w fun e w' => e = .returned (.bool (hasE y)) ∧ w' = w := by
  cases hn : isN y
  · have hn' : y ≤ 9218868437227405312 := by have := of_decide_eq_false hn; omega
    have ov1 : ov y = (y : Int) := if_pos hy
    have h := hasExp_w y _ _ _ _ (by rw [ord_num (by decide) (by omega) (by decide) hn, opt_lt]) (by rw [ord_num (by omega) (by decide) hn (by decide), opt_lt]) (by rw [ord_num (by decide) (by omega) (by decide) hn, opt_le]) (by rw [ord_num (by omega) (by decide) hn (by decide), opt_le]) w
    rw [ov1, show ov 0 = 0 from by decide, show ov 4517329193108106637 = 4517329193108106637 from by decide, show ov 4921056587992461136 = 4921056587992461136 from by decide, show ov 9218868437227405311 = 9218868437227405311 from by decide] at h
    rw [show hasE y = (decide ((0 : Int) < (y : Int)) && decide ((y : Int) < 4517329193108106637) || decide ((4921056587992461136 : Int) ≤ (y : Int)) && decide ((y : Int) ≤ 9218868437227405311)) from by
      unfold hasE
      rw [← Bool.decide_and, ← Bool.decide_and, ← Bool.decide_or]
      exact decide_eq_decide.2 (by omega)]
    exact h
  · have hn' : 9218868437227405312 < y := by have := of_decide_eq_true hn; omega
    have h := hasExp_w y false false false false (by rw [(ord_nan (by omega) hn _).2]; decide) (by rw [(ord_nan (by omega) hn _).1]; decide) (by rw [(ord_nan (by omega) hn _).2]; decide) (by rw [(ord_nan (by omega) hn _).1]; decide) w
    rw [show hasE y = (false && false || false && false) from by unfold hasE; exact decide_eq_false (by omega)]
    exact h
/-- What is read of the library's variables, the search's too. -/
structure Glob2 (w : World) : Prop where
  glob : Glob w
  most : ∃ m, w.cell? ⟨3, 0, none⟩ = some (.int .i64 m)
theorem Glob2.below {w w' : World} (h : Glob2 w) (hb : Below w.heap.size w w') : Glob2 w' := by
  obtain ⟨m, hm⟩ := h.most
  exact ⟨h.glob.below hb, m, by rw [(bcell hb).1 _ _ (lt_of_cell hm), hm]⟩
theorem byte_at (a b : List UInt8) (c : UInt8) (h : c ∉ a) : Lib.indexByte (a ++ c :: b) c = (a.length : Int) := by
  induction a with
  | nil => simp [Lib.indexByte]
  | cons y a ih =>
    have h1 : c ∉ a := fun k => h (List.mem_cons_of_mem _ k)
    have h2 : ¬ (y == c) = true := fun k => h (by rw [eq_of_beq k]; exact List.mem_cons_self)
    rw [List.cons_append, Lib.indexByte, if_neg h2, ih h1, if_neg (by rw [beq_iff_eq]; omega), List.length_cons]
    omega
theorem cut_at (a b : List UInt8) (h : (101 : UInt8) ∉ a) : Lib.cut (a ++ 101 :: b) [101] = (a, b, true) := by
  unfold Lib.cut
  rw [Lib.index_one, byte_at a b 101 h, if_pos (by omega), Int.toNat_natCast]
  simp
theorem dec_mem (u : Nat) : ∀ b ∈ Lib.decDigits u, 48 ≤ b.toNat ∧ b.toNat ≤ 57 := by
  intro b hb
  rw [Lib.decDigits_eq] at hb
  obtain ⟨t, -, rfl⟩ := List.mem_map.1 hb
  unfold Lib.dg
  have : ∀ r < 10, 48 ≤ (UInt8.ofNat (48 + r)).toNat ∧ (UInt8.ofNat (48 + r)).toNat ≤ 57 := by decide
  exact this _ (Nat.mod_lt _ (by decide))
theorem not_101 {l : List UInt8} (h : ∀ b ∈ l, b.toNat ≤ 57) : (101 : UInt8) ∉ l := fun k => by have := h _ k; exact absurd this (by decide)
theorem head_mem (neg : Bool) (u k : Nat) : ∀ b ∈ eHead neg u k, b.toNat ≤ 57 := by
  have hg : ((Lib.decDigits u).getD 0 0).toNat ≤ 57 := by
    have := dec_mem u
    revert this
    cases Lib.decDigits u with
    | nil => intro _; decide
    | cons y l => intro h; exact (h y List.mem_cons_self).2
  have hd : ∀ b ∈ ((Lib.decDigits u).take k).drop 1, b.toNat ≤ 57 := fun b hb => (dec_mem u b (List.mem_of_mem_take (List.mem_of_mem_drop hb))).2
  have hs : ∀ b ∈ sgn neg, b.toNat ≤ 57 := by cases neg <;> decide
  intro b hb
  unfold eHead at hb
  by_cases h : k = 1
  · rw [if_pos h] at hb
    rcases List.mem_append.1 hb with q | q
    · exact hs b q
    · rw [List.mem_singleton.1 q]; exact hg
  · rw [if_neg h] at hb
    rcases List.mem_append.1 hb with q | q
    · rcases List.mem_append.1 q with q | q
      · exact hs b q
      · rcases List.mem_cons.1 q with q | q
        · rw [q]; exact hg
        · rw [List.mem_singleton.1 q]; decide
    · exact hd b q
theorem atoi_pos : ∀ E < 400, Lib.atoi (43 :: xDig E) = some (E : Int) := by decide +kernel
theorem atoi_neg : ∀ E < 400, Lib.atoi (45 :: xDig E) = some (-(E : Int)) := by decide +kernel
theorem xDig_len : ∀ E < 400, (xDig E).length ≤ 3 := by decide +kernel
theorem atoi_x (dp : Int) (h0 : -390 ≤ dp) (h1 : dp ≤ 390) : Lib.atoi (xTail dp) = some (dp - 1) ∧ (xTail dp).length ≤ 4 := by
  unfold xTail
  by_cases h : dp - 1 < 0
  · rw [if_pos h, atoi_neg _ (by omega)]
    refine ⟨congrArg some (by omega), ?_⟩
    have := xDig_len (1 - dp).toNat (by omega)
    rw [List.length_cons]; omega
  · rw [if_neg h, atoi_pos _ (by omega)]
    refine ⟨congrArg some (by omega), ?_⟩
    have := xDig_len (dp - 1).toNat (by omega)
    rw [List.length_cons]; omega
theorem bcat (a b : List UInt8) : (⟨a.toArray⟩ : ByteArray) ++ ⟨b.toArray⟩ = ⟨(a ++ b).toArray⟩ := by
  apply ByteArray.ext; simp
/-- The text with an exponent of a finite float but 0. -/
noncomputable def xText (x : Nat) : List UInt8 := eHead (decide (9223372036854775808 ≤ x)) (sd x).1 (trimLen (sd x).1) ++ 101 :: Lib.itoa (pt x - 1)
set_option maxHeartbeats 1000000 in
theorem withExp_all (x : Nat) (hx : x < 18446744073709551616) (h0 : x % 9223372036854775808 ≠ 0) (h1 : x % 9223372036854775808 < 9218868437227405312) (w : World) (hGl : Glob2 w) :
    Calls Tryz.prog 48 #[.float .f64 x] w fun r w' => r = .returned (.string ⟨(xText x).toArray⟩) ∧ Below w.heap.size w w' := by
  obtain ⟨p0, p1⟩ := pt_bounds x h0 h1
  obtain ⟨a1, a2⟩ := atoi_x (pt x) p0 p1
  have HF : Hid (∀ w, Glob w → Calls Tryz.prog 49 #[.float .f64 x, .int .u8 101, .int .i64 (-1), .int .i64 64] w fun r w' => r = .returned (.string ⟨(eText x).toArray⟩) ∧ Below w.heap.size w w') := fun w hG => Format_e x hx h0 h1 w hG
  have hd := head_mem (decide (9223372036854775808 ≤ x)) (sd x).1 (trimLen (sd x).1)
  have hH : (eHead (decide (9223372036854775808 ≤ x)) (sd x).1 (trimLen (sd x).1)).length ≤ 30 := by
    have h3 : (Lib.decDigits (sd x).1).length ≤ 20 := by rw [Lib.decDigits_length]; exact Lib.nDigits_le20 _ (by have := sd_bounds x h0 h1; omega)
    unfold eHead sgn
    split <;> split <;> simp only [List.length_append, List.length_cons, List.length_nil, List.length_drop, List.length_take] <;> omega
  have hY : (Lib.itoa (pt x - 1)).length ≤ 30 := by
    have := Lib.itoa_length_le (pt x - 1) (by omega) (by omega)
    omega
  have hl : (eText x).length < 4294967281 := by
    unfold eText eB
    rw [List.length_append, List.length_cons]
    omega
  have he : eText x = eHead (decide (9223372036854775808 ≤ x)) (sd x).1 (trimLen (sd x).1) ++ 101 :: xTail (pt x) := rfl
  unfold xText
  generalize eText x = T at *
  generalize eHead (decide (9223372036854775808 ≤ x)) (sd x).1 (trimLen (sd x).1) = H at *
  generalize hp : pt x = p at *
  generalize hX : xTail p = X at *
  have hcut := cut_at H X (not_101 hd)
  rw [← he] at hcut
  clear he hd h0 h1 hx hX hp
  have HC : Hid (∀ W, Glob2 W → Calls Tryz.prog 69 #[.string ⟨T.toArray⟩, .string ⟨#[101]⟩] W fun e w' => e = .returned (.tuple #[.string ⟨H.toArray⟩, .string ⟨X.toArray⟩, .bool true]) ∧ Below W.heap.size W w') := fun W hG => by
    obtain ⟨m, hm⟩ := hG.most
    have h := Tryz.strings_Cut ⟨T.toArray⟩ ⟨#[101]⟩ m W hl hm
    rw [show Lib.cut (ByteArray.mk T.toArray).data.toList (ByteArray.mk #[101]).data.toList = (H, X, true) from hcut] at h
    refine h.mono ?_
    rintro r w' ⟨rfl, n, rfl⟩
    exact ⟨rfl, Below.drewN' (Below.refl _ _) _⟩
  have HA : Hid (∀ W, Calls Tryz.prog 70 #[.string ⟨X.toArray⟩] W fun e w' => e = .returned (.tuple #[.int .i64 (p - 1), .nilIface]) ∧ Below W.heap.size W w') := fun W => by
    refine (Tryz.strconv_Atoi ⟨X.toArray⟩ (p - 1) (by show X.toArray.size ≤ 18; rw [List.size_toArray]; omega) a1 W).mono ?_
    rintro r w' ⟨rfl, t, rfl⟩
    exact ⟨rfl, Joins.below_bytesWorld W.heap.size W 5 t (Nat.le_refl _)⟩
  have HI : Hid (∀ W, Glob2 W → Calls Tryz.prog 71 #[.int .i64 (p - 1)] W fun e w' => e = .returned (.string ⟨(Lib.itoa (p - 1)).toArray⟩) ∧ Below W.heap.size W w') := fun W hG => by
    refine (Tryz.strconv_Itoa (p - 1) (by omega) (by omega) W hG.glob.tab).mono ?_
    rintro r w' ⟨rfl, k, os, rfl⟩
    exact ⟨rfl, grow_below W k os⟩
  have c1 : (⟨H.toArray⟩ : ByteArray) ++ ⟨#[101]⟩ = ⟨(H ++ [101]).toArray⟩ := bcat H [101]
  have c2 : (⟨(H ++ [101]).toArray⟩ : ByteArray) ++ ⟨(Lib.itoa (p - 1)).toArray⟩ = ⟨(H ++ 101 :: Lib.itoa (p - 1)).toArray⟩ := by rw [bcat, List.append_assoc]; rfl
  clear hcut a1 a2 hl p0 p1
  have hs1 : ¬ ((ByteArray.mk H.toArray).size + (ByteArray.mk #[101]).size > 9223372036854775807) := by show ¬ (H.toArray.size + 1 > 9223372036854775807); rw [List.size_toArray]; omega
  have hs2 : ¬ ((ByteArray.mk (H ++ [101]).toArray).size + (ByteArray.mk (Lib.itoa (p - 1)).toArray).size > 9223372036854775807) := by show ¬ ((H ++ [101]).toArray.size + (Lib.itoa (p - 1)).toArray.size > 9223372036854775807); rw [List.size_toArray, List.size_toArray, List.length_append, List.length_singleton]; omega
  go_enter Tryz.func48, Tryz.ntmps48
  go_wp2_with fail
  refine (HF.out w hGl.glob).mono ?_
  rintro r w1 ⟨rfl, hb1⟩
  have hG1 := hGl.below hb1
  go_wp2_with fail
  refine (HC.out w1 hG1).mono ?_
  rintro r w2 ⟨rfl, hb2⟩
  have hG2 := hG1.below hb2
  go_wp2_with fail
  refine (HA.out w2).mono ?_
  rintro r w3 ⟨rfl, hb3⟩
  have hG3 := hG2.below hb3
  have hb3' : Below w.heap.size w w3 := (hb1.trans (hb2.mono hb1.size)).trans (hb3.mono (by have := hb1.size; have := hb2.size; omega))
  go_wp2_with fail
  refine (HI.out w3 hG3).mono ?_
  rintro r w4 ⟨rfl, hb4⟩
  have hb4' := hb3'.trans (hb4.mono hb3'.size)
  go_wp2
  go_ret
  exact ⟨rfl, hb4'⟩
/-- THE TEXT OF A FLOAT. -/
noncomputable def pText (x : Nat) : List UInt8 := if hasE (x % 9223372036854775808) then xText x else fText x
set_option maxHeartbeats 1000000 in
theorem print_all (x : Nat) (hx : x < 18446744073709551616) (w : World) (hGl : Glob2 w) :
    Calls Tryz.prog 34 #[.float .f64 x] w fun r w' => r = .returned (.string ⟨(pText x).toArray⟩) ∧ Below w.heap.size w w' := by
  have HB : Hid (∀ W, Calls Tryz.prog 47 #[.float .f64 x] W fun e w' => e = .returned (.float .f64 (x % 9223372036854775808)) ∧ w' = W) := fun W => abs_any x hx W
  have HH : Hid (∀ W, Calls Tryz.prog 46 #[.float .f64 (x % 9223372036854775808)] W fun e w' => e = .returned (.bool (hasE (x % 9223372036854775808))) ∧ w' = W) := fun W => hasExp_all _ (by omega) W
  unfold pText
  cases he : hasE (x % 9223372036854775808)
  · have HF : Hid (∀ W, Glob W → Calls Tryz.prog 49 #[.float .f64 x, .int .u8 102, .int .i64 (-1), .int .i64 64] W fun r w' => r = .returned (.string ⟨(fText x).toArray⟩) ∧ Below W.heap.size W w') := fun W hG => Format_f x hx (by have := of_decide_eq_false he; omega) W hG
    rw [he] at HH
    rw [if_neg (by decide)]
    clear he
    generalize x % 9223372036854775808 = y at *
    go_enter Tryz.func34, Tryz.ntmps34
    go_wp2_with (first
      | (go_at_call 47; with_reducible refine (HB.out _).mono ?_; rintro e w ⟨rfl, rfl⟩)
      | (go_at_call 46; with_reducible refine (HH.out _).mono ?_; rintro e w ⟨rfl, rfl⟩)
      | fail)
    refine (HF.out _ hGl.glob).mono ?_
    rintro r w1 ⟨rfl, hb⟩
    go_wp2
    go_ret
    exact ⟨rfl, hb⟩
  · have HF : Hid (∀ W, Glob2 W → Calls Tryz.prog 48 #[.float .f64 x] W fun r w' => r = .returned (.string ⟨(xText x).toArray⟩) ∧ Below W.heap.size W w') := fun W hG => withExp_all x hx (by have := of_decide_eq_true he; omega) (by have := of_decide_eq_true he; omega) W hG
    rw [he] at HH
    rw [if_pos rfl]
    clear he
    generalize x % 9223372036854775808 = y at *
    go_enter Tryz.func34, Tryz.ntmps34
    go_wp2_with (first
      | (go_at_call 47; with_reducible refine (HB.out _).mono ?_; rintro e w ⟨rfl, rfl⟩)
      | (go_at_call 46; with_reducible refine (HH.out _).mono ?_; rintro e w ⟨rfl, rfl⟩)
      | fail)
    refine (HF.out _ hGl).mono ?_
    rintro r w1 ⟨rfl, hb⟩
    go_wp2
    go_ret
    exact ⟨rfl, hb⟩
end Go.Proofs.YtmmkboldkaehgaaGreatDoor.Rl
