/- THE CODE'S POOL. Own work of the verifier. -/
import Derived.Test.YthghillefmppjaaMem
import Derived.Test.YthghillefmppjaaPMath
namespace Go.Proofs.Ythghillefmppjaa
open Go.RowKit

abbrev two (a : Nat) (e : Int) : Ending := .returned (.tuple #[.int .i64 (a : Int), .int .i64 e])
theorem bit_any (n : Nat) (h : n ≤ 16) (w : World) : Calls Try.prog 11 #[.int .i64 (n : Int)] w fun e w' => e = .returned (.int .u64 ((2 ^ n : Nat) : Int)) ∧ w' = w := by
  have c1 : (0 : Int) ≤ (n : Int) := by omega
  have h2 := two_lt h
  have hw : (2 : Int) ^ n = ((2 ^ n : Nat) : Int) := by simp
  have hz : IntKind.u64.wrap ((2 : Int) ^ n) = ((2 ^ n : Nat) : Int) := by
    rw [hw, IntKind.wrap_u64]
    generalize 2 ^ n = k at *
    omega
  have HW := hid_of hz
  clear hw hz
  go_enter Try.func11, Try.ntmps11
  go_wp2
  go_ret
  exact ⟨retI HW.out, rfl⟩
/-- What Take tells. -/
def tk (T : List Bool) : Ending := if fst T < T.length then two (fst T) 0 else two 0 14
theorem tk_yes {T : List Bool} {i : Nat} (h : fst T = i) (hi : i < T.length) : two i 0 = tk T := by unfold tk; rw [h, if_pos hi]
theorem tk_no {T : List Bool} (h : fst T = T.length) : two 0 14 = tk T := by unfold tk; rw [h, if_neg (by omega)]
/-- A pool in memory. -/
def CP (W : World) (b : Nat) (T : List Bool) : Prop := W.heap[b]? = some (.cells #[.int .i64 (T.length : Int), .int .u64 (mask T : Int)] 44 (0, 0))
theorem CP.c0 {W : World} {b : Nat} {T : List Bool} (h : CP W b T) : W.cell? ⟨b, 0, none⟩ = some (.int .i64 (T.length : Int)) := by unfold CP at h; simp [World.cell?, h]
theorem CP.c1 {W : World} {b : Nat} {T : List Bool} (h : CP W b T) : W.cell? ⟨b, 1, none⟩ = some (.int .u64 (mask T : Int)) := by unfold CP at h; simp [World.cell?, h]
theorem CP.fr {W : World} {b : Nat} {T : List Bool} (h : CP W b T) (i : Nat) : W.frozen? ⟨b, i, none⟩ = false := by unfold CP at h; simp [World.frozen?, h]
theorem CP.lt {W : World} {b : Nat} {T : List Bool} (h : CP W b T) : b < W.heap.size := (Array.getElem?_eq_some_iff.1 h).1
theorem CP.chg {W W' : World} {b : Nat} {T : List Bool} {S : Nat → Prop} (h : CP W b T) (k : Chg S W W') (hS : ¬ S b) : CP W' b T := k.at_ h hS
theorem CP.bel {W W' : World} {b : Nat} {T : List Bool} (h : CP W b T) (k : Below W.heap.size W W') : CP W' b T := (k.block b h.lt).trans h
theorem CP.set {W : World} {b : Nat} {T T' : List Bool} (h : CP W b T) (hl : T'.length = T.length) : CP (W.setCell ⟨b, 1, none⟩ (.int .u64 (mask T' : Int))) b T' := by
  unfold CP at *
  rw [heap_setCell_same W b 1 _ _ _ h, hl]
  rfl
theorem CP.drewN {W : World} {b : Nat} {T : List Bool} (h : CP W b T) (n : Nat) : CP (W.drewN n) b T := h.bel (by
  induction n with
  | zero => exact Below.refl _ _
  | succ n ih => exact ⟨ih.os, ih.tape, ih.output, ih.size, ih.block⟩)
theorem bel_drewN {B : Nat} {a w : World} (h : Below B a w) (n : Nat) : Below B a (w.drewN n) := by
  induction n with
  | zero => exact h
  | succ n ih => exact ⟨ih.os, ih.tape, ih.output, ih.size, ih.block⟩
theorem chg_drewN {S : Nat → Prop} {a w : World} (h : Chg S a w) (n : Nat) : Chg S a (w.drewN n) := by
  induction n with
  | zero => exact h
  | succ n ih => exact ⟨ih.os, ih.tape, ih.output, ih.size, ih.block⟩
theorem chg_set (W : World) (p i : Nat) (u : Value) : Chg (fun y => y = p) W (W.setCell ⟨p, i, none⟩ u) := ⟨rfl, rfl, rfl, by simp, fun k _ hn => Below.heap_setCell _ _ _ _ hn⟩
theorem CP.fin {w W : World} {b q : Nat} {T T' : List Bool} (h : CP W b T) (hc : Chg (fun y => y = b) w W) (hl : T'.length = T.length) (hq : mask T' = q) (n : Nat) :
    CP ((W.drewN n).setCell ⟨b, 1, none⟩ (.int .u64 (q : Int))) b T' ∧ Chg (fun y => y = b) w ((W.drewN n).setCell ⟨b, 1, none⟩ (.int .u64 (q : Int))) := by
  subst hq
  exact ⟨(h.drewN n).set hl, (chg_drewN hc n).trans (chg_set _ b 1 _) (fun _ h => Or.inl h)⟩
theorem and_free (T : List Bool) (i : Nat) (hT : T.length ≤ 16) (hi : i ≤ 16) : bits .and .u64 (mask T : Int) ((2 ^ i : Nat) : Int) = (((if T[i]? = some false then 2 ^ i else 0) : Nat) : Int) := by
  have h1 := mask_small hT
  have h2 := two_lt hi
  rw [u64_and_nat _ _ (by omega) (by omega), mask_and]
/-- Whether one is free. -/
theorem isFree_yes (b i : Nat) (T : List Bool) (w : World) (h : CP w b T) (hT : T.length ≤ 16) (hi : i < T.length) (hf : T[i]? = some false) :
    Calls Try.prog 15 #[.pointer (some ⟨b, 0, none⟩), .int .i64 (i : Int)] w fun e w' => e = .returned (.bool true) ∧ ∃ n, w' = w.drewN n := by
  have HB : Hid (∀ W, _) := bit_any i (by omega)
  have ha := and_free T i hT (by omega)
  rw [if_pos hf] at ha
  have c1 := h.c1
  have hp := Nat.two_pow_pos i
  generalize mask T = m at *
  generalize 2 ^ i = t at *
  clear hf h
  go_enter Try.func15, Try.ntmps15
  go_upto_region 1 with fail
  go_quiet ((go_at_call 11; exact Calls.quiet_of_same (HB.out _)))
  go_wp2_with fail
  go_ret
  exact ⟨retB (by simp; omega), nq, rfl⟩
theorem isFree_no (b i : Nat) (T : List Bool) (w : World) (h : CP w b T) (hT : T.length ≤ 16) (hi : i < T.length) (hf : T[i]? = some true) :
    Calls Try.prog 15 #[.pointer (some ⟨b, 0, none⟩), .int .i64 (i : Int)] w fun e w' => e = .returned (.bool false) ∧ ∃ n, w' = w.drewN n := by
  have HB : Hid (∀ W, _) := bit_any i (by omega)
  have ha := and_free T i hT (by omega)
  rw [if_neg (by rw [hf]; decide)] at ha
  have c1 := h.c1
  generalize mask T = m at *
  generalize 2 ^ i = t at *
  clear hf h
  go_enter Try.func15, Try.ntmps15
  go_upto_region 1 with fail
  go_quiet ((go_at_call 11; exact Calls.quiet_of_same (HB.out _)))
  go_wp2_with fail
  go_ret
  exact ⟨rfl, nq, rfl⟩
theorem take_free (T : List Bool) (i : Nat) (hi : i < T.length) (hT : T.length ≤ 16) : bits .andNot .u64 (mask T : Int) ((2 ^ i : Nat) : Int) = (mask (T.set i true) : Int) := by
  have h1 := mask_small hT
  have h2 := two_lt (i := i) (by omega)
  rw [u64_andNot_nat _ _ (by omega) (by omega), mask_take T i hi hT]
theorem give_free (T : List Bool) (i : Nat) (hi : i < T.length) (hT : T.length ≤ 16) : bits .or .u64 (mask T : Int) ((2 ^ i : Nat) : Int) = (mask (T.set i false) : Int) := by
  have h1 := mask_small hT
  have h2 := two_lt (i := i) (by omega)
  rw [u64_or_nat _ _ (by omega) (by omega), mask_give T i hi]
set_option maxHeartbeats 1000000 in
theorem take_any (b : Nat) (T : List Bool) (w : World) (h : CP w b T) (hT : T.length ≤ 16) :
    Calls Try.prog 9 #[.pointer (some ⟨b, 0, none⟩)] w fun e w' => e = tk T ∧ CP w' b (T.set (fst T) true) ∧ Chg (fun y => y = b) w w' := by
  have c0 := h.c0
  have H : Hid (CP w b T) := h
  clear h
  go_enter Try.func9, Try.ntmps9
  go_upto_region 2 with fail
  clear c0
  go_loopw [9] (fun x W => ∃ i n : Nat, i ≤ T.length ∧ x = .int .i64 (i : Int) ∧ W = w.drewN n ∧ Hid (∀ j, j < i → T[j]? = some true)) (fun x _ => T.length - (intOf x).toNat)
  case atStart => exact ⟨0, 0, by omega, rfl, rfl, fun j hj => by omega⟩
  case round =>
    obtain ⟨i, n, hi, rfl, rfl, HJ⟩ := hrel
    by_cases hlt : i < T.length
    · have hlt' : (i : Int) < (T.length : Int) := by omega
      by_cases hf : T[i] = false
      · have hf' : T[i]? = some false := by rw [List.getElem?_eq_getElem hlt, hf]
        have HF : Hid (∀ W, CP W b T → _) := fun W hW => isFree_yes b i T W hW hT hlt hf'
        have he := hid_of (fst_eq hlt hf HJ.out)
        have HB : Hid (∀ W, _) := bit_any i (by omega)
        have hm := take_free T i hlt hT
        have hlen : Hid ((T.set i true).length = T.length) := List.length_set
        clear hf hf' HJ
        go_upto_region 5 with (go_at_call 15; with_reducible refine (HF.out _ (H.out.drewN n)).mono ?_; rintro e w1 ⟨rfl, m, rfl⟩)
        have H1 := hid_of (H.out.drewN (n + m))
        have HC1 := hid_of (chg_drewN (Chg.refl (fun y => y = b) w) (n + m))
        generalize w.drewN (n + m) = w1 at *
        have c1 := H1.out.c1
        have f1 := H1.out.fr 1
        have HT : Hid (mask T < 18446744073709551616) := by have := mask_small hT; unfold Hid; omega
        have HP : Hid (2 ^ i < 18446744073709551616) := by have := two_lt (i := i) (by omega); unfold Hid; omega
        generalize hq : mask (T.set i true) = q at *
        have HQ := hid_of hq
        generalize hmt : mask T = mt at *
        generalize hpt : 2 ^ i = pt at *
        clear hq hmt hpt
        go_region_with (go_at_call 11; with_reducible refine (HB.out _).mono ?_; rintro e w9 ⟨rfl, rfl⟩)
        all_goals
          go_wp2_with fail
          go_ret2
          rw [he.out]
          exact ⟨tk_yes he.out hlt, H1.out.fin HC1.out hlen.out HQ.out 1⟩
      · have hf' : T[i]? = some true := by rw [List.getElem?_eq_getElem hlt]; simpa using hf
        have HF : Hid (∀ W, CP W b T → _) := fun W hW => isFree_no b i T W hW hT hlt hf'
        have HJn : Hid (∀ j, j < i + 1 → T[j]? = some true) := fun j hj => by
          rcases Nat.lt_succ_iff_lt_or_eq.1 hj with k | k
          · exact HJ.out j k
          · rw [k]; exact hf'
        clear hf hf' HJ
        go_wp2_with (go_at_call 15; with_reducible refine (HF.out _ (H.out.drewN n)).mono ?_; rintro e w1 ⟨rfl, m, rfl⟩)
        exact ⟨⟨i + 1, n + m, by omega, by go_num, by simp, HJn⟩, by simp [intOf]; omega⟩
    · have hlt' : ¬ (i : Int) < (T.length : Int) := by omega
      have hie : i = T.length := by omega
      subst hie
      have he := hid_of (fst_none HJ.out)
      clear HJ
      go_wp2_with fail
      go_ret2
      rw [he.out, List.set_eq_of_length_le (Nat.le_refl _)]
      exact ⟨tk_no he.out, H.out.drewN n, chg_drewN (Chg.refl _ w) n⟩
/-- Give, of a number that is none of the pool's. -/
theorem give_arg (b : Nat) (T : List Bool) (n : Int) (w : World) (h : CP w b T) (hn : ¬ (0 ≤ n ∧ n < (T.length : Int))) :
    Calls Try.prog 10 #[.pointer (some ⟨b, 0, none⟩), .int .i64 n] w fun e w' => e = .returned (.int .i64 1) ∧ w' = w := by
  have c0 := h.c0
  by_cases c : n < 0
  · clear h hn
    go_enter Try.func10, Try.ntmps10
    go_wp2_with fail
    go_ret
    exact ⟨rfl, rfl⟩
  · have c2 : (T.length : Int) ≤ n := by omega
    clear h hn
    go_enter Try.func10, Try.ntmps10
    go_wp2_with fail
    go_ret
    exact ⟨rfl, rfl⟩
theorem give_state (b i : Nat) (T : List Bool) (w : World) (h : CP w b T) (hT : T.length ≤ 16) (hi : i < T.length) (hf : T[i]? = some false) :
    Calls Try.prog 10 #[.pointer (some ⟨b, 0, none⟩), .int .i64 (i : Int)] w fun e w' => e = .returned (.int .i64 8) ∧ ∃ n, w' = w.drewN n := by
  have c0 := h.c0
  have HF : Hid (∀ W, CP W b T → _) := fun W hW => isFree_yes b i T W hW hT hi hf
  have H := hid_of h
  have c1 : ¬ (i : Int) < 0 := by omega
  have c2 : ¬ (T.length : Int) ≤ (i : Int) := by omega
  clear h hf
  go_enter Try.func10, Try.ntmps10
  go_wp2_with (go_at_call 15; with_reducible refine (HF.out _ H.out).mono ?_; rintro e w1 ⟨rfl, m, rfl⟩)
  go_ret
  exact ⟨rfl, m, rfl⟩
set_option maxHeartbeats 1000000 in
theorem give_ok (b i : Nat) (T : List Bool) (w : World) (h : CP w b T) (hT : T.length ≤ 16) (hi : i < T.length) (hf : T[i]? = some true) :
    Calls Try.prog 10 #[.pointer (some ⟨b, 0, none⟩), .int .i64 (i : Int)] w fun e w' => e = .returned (.int .i64 0) ∧ CP w' b (T.set i false) ∧ Chg (fun y => y = b) w w' := by
  have c0 := h.c0
  have HF : Hid (∀ W, CP W b T → _) := fun W hW => isFree_no b i T W hW hT hi hf
  have HB : Hid (∀ W, _) := bit_any i (by omega)
  have H := hid_of h
  have d1 : ¬ (i : Int) < 0 := by omega
  have d2 : ¬ (T.length : Int) ≤ (i : Int) := by omega
  have hm := give_free T i hi hT
  have hlen : Hid ((T.set i false).length = T.length) := List.length_set
  clear h hf
  go_enter Try.func10, Try.ntmps10
  go_upto_region 5 with (go_at_call 15; with_reducible refine (HF.out _ H.out).mono ?_; rintro e w1 ⟨rfl, m, rfl⟩)
  have H1 := hid_of (H.out.drewN m)
  have HC1 := hid_of (chg_drewN (Chg.refl (fun y => y = b) w) m)
  generalize w.drewN m = w1 at *
  have c1 := H1.out.c1
  have f1 := H1.out.fr 1
  generalize hq : mask (T.set i false) = q at *
  have HQ := hid_of hq
  generalize mask T = mt at *
  generalize 2 ^ i = pt at *
  clear hq c0
  go_region_with (go_at_call 11; with_reducible refine (HB.out _).mono ?_; rintro e w9 ⟨rfl, rfl⟩)
  all_goals
    go_wp2_with fail
    go_ret
    exact ⟨rfl, H1.out.fin HC1.out hlen.out HQ.out 1⟩
theorem new_arg (n : Int) (hn : ¬ (1 ≤ n ∧ n ≤ 16)) (w : World) : Calls Try.prog 6 #[.int .i64 n] w fun e w' => e = .returned (.tuple #[.pointer none, .int .i64 1]) ∧ w' = w := by
  by_cases c : n < 1
  · clear hn
    go_enter Try.func6, Try.ntmps6
    go_wp2_with fail
    go_ret2
    exact ⟨rfl, rfl⟩
  · have c2 : 16 < n := by omega
    clear hn
    go_enter Try.func6, Try.ntmps6
    go_wp2_with fail
    go_ret2
    exact ⟨rfl, rfl⟩
theorem new_ok (n : Nat) (h1 : 1 ≤ n) (h2 : n ≤ 16) (w : World) : Calls Try.prog 6 #[.int .i64 (n : Int)] w fun e w' => e = .returned (.tuple #[.pointer (some ⟨w.heap.size, 0, none⟩), .int .i64 0]) ∧ CP w' w.heap.size (List.replicate n false) ∧ Below w.heap.size w w' := by
  have HB : Hid (∀ W, _) := bit_any n h2
  have d1 : ¬ (n : Int) < 1 := by omega
  have d2 : ¬ 16 < (n : Int) := by omega
  have hm := mask_new n
  have h3 := two_lt h2
  have h4 := Nat.two_pow_pos n
  have HM : Hid (mask (List.replicate n false) = 2 ^ n - 1) := hm
  clear hm
  generalize 2 ^ n = pt at *
  have hw : IntKind.u64.wrap ((pt : Int) - 1) = ((pt - 1 : Nat) : Int) := by rw [IntKind.wrap_u64]; omega
  have hp : (1 : Int) ≤ (pt : Int) := by omega
  go_enter Try.func6, Try.ntmps6
  go_wp2_with (go_at_call 11; with_reducible refine (HB.out _).mono ?_; rintro e w9 ⟨rfl, rfl⟩)
  go_ret2
  refine ⟨rfl, ?_, bel1 _ _⟩
  unfold CP
  rw [HM.out, List.length_replicate]
  exact new_1 _ _
end Go.Proofs.Ythghillefmppjaa
