/- THE TEXT OF A FLOAT BELOW 1, as the library writes it. Own work of the verifier. -/
import Derived.Test.YtkakanejiakbkaaGreatDoorVBG
namespace Go.Proofs.YtkakanejiakbkaaGreatDoor.Rl
open Go.RowKit Go.Sort

set_option maxHeartbeats 4000000 in
set_option maxRecDepth 100000 in
theorem fmtF_below (neg : Bool) (B g u k Z P : Nat) (dp : Int) (W0 w : World) (v : Value) (hbuf : Buf B (some (g, u)) W0 v [] w) (hk0 : 1 ≤ k) (hk : k ≤ (dI u).length) (hk2 : k ≤ 20) (hZ : Z ≤ 400) (hdp : -dp = (Z : Int)) (hP : P = k + Z) :
    Calls Tryz.prog 154 #[v, .bool neg, .slice (some ⟨g, 0, none⟩) 32 32, .int .i64 dp, .int .i64 (k : Int), .int .i64 (P : Int), .int .u8 102, .bool true] w fun r w' => ∃ v', r = .returned v' ∧ Buf B (some (g, u)) W0 v' ((if neg then [45] else []) ++ [48, 46] ++ List.replicate Z 48 ++ (dI u).take k) w' := by
  obtain ⟨i0, hi, hz0, hz1, hz2⟩ := info_parts infoByte
  have hdp1 : decide (0 < dp) = false := decide_eq_false (by omega)
  have hP0 : decide (0 < P) = true := decide_eq_true (by omega)
  have hmax1 : max (0 : Int) (Z : Int) = (Z : Int) := by omega
  have hmin1 : min (P : Int) (Z : Int) = (Z : Int) := by omega
  have hoff : dp + (Z : Int) = 0 := by omega
  have hmax2 : max (0 : Int) (k : Int) = (k : Int) := by omega
  have hsub : (P : Int) - (Z : Int) = (k : Int) := by omega
  have hb0 : -400 ≤ dp := by omega
  have hb1 : dp ≤ 0 := by omega
  have hPb : P ≤ 420 := by omega
  have HDP : Hid _ := hP
  clear hP
  obtain ⟨pre, HPRE⟩ : ∃ pre : List Int, Hid (pre = ((if neg then [45] else []) ++ [48, 46] : List Int)) := ⟨(if neg then [45] else []) ++ [48, 46], rfl⟩
  have hpl : pre.length ≤ 3 := by rw [HPRE.out]; cases neg <;> decide
  rw [← HPRE.out]
  cases neg
  all_goals
    go_enter Tryz.func154, Tryz.ntmps154
    go_wp2_with (first
      | (at_builtin; refine wpList_append_own _ rfl _ _ 27 rfl B 5 i0 (.int .u8 0) 1 1 Tryz.underlying27 hi hz0 hz1 hz2 rfl (by decide) _ _ _ rfl (hbuf.own.alloc _) ⟨_, 0, none⟩ 1 1 [_] rfl rfl (cell_one_new _ _ _) (by intro u hu; simp at hu; subst hu; rfl) (by have := hbuf.len; unfold maxLen; omega) (by have := hbuf.len; omega) (by have := hbuf.size; simp; omega) ?_; intro v w hown hgrow hnil; have hbuf := hbuf.push _ hown hgrow hnil (by simp); clear hown hgrow hnil)
      | fail)
    have hbuf : Buf B (some (g, u)) W0 v pre w := by rw [HPRE.out]; exact hbuf
    go_loopw [240, 0] (fun a v wr => ∃ i : Nat, i ≤ Z ∧ a = .int .i64 i ∧ Buf B (some (g, u)) W0 v (pre ++ List.replicate i 48) wr) (fun a _ _ => Z - (intOf a).toNat)
    case atStart => exact ⟨0, Nat.zero_le _, rfl, by simpa using hbuf⟩
    case round =>
      obtain ⟨i, hir, rfl, hbuf⟩ := hrel
      rcases Nat.lt_or_eq_of_le hir with hlt2 | heq2
      · go_wp2_with (first
          | (at_builtin; refine wpList_append_own _ rfl _ _ 27 rfl B 5 i0 (.int .u8 0) 1 1 Tryz.underlying27 hi hz0 hz1 hz2 rfl (by decide) _ _ _ rfl (hbuf.own.alloc _) ⟨_, 0, none⟩ 1 1 [_] rfl rfl (cell_one_new _ _ _) (by intro u hu; simp at hu; subst hu; rfl) (by have := hbuf.len; unfold maxLen; omega) (by have := hbuf.len; omega) (by have := hbuf.size; simp; omega) ?_; intro v w hown hgrow hnil; have hbuf := hbuf.push _ hown hgrow hnil (by simp; omega); clear hown hgrow hnil)
          | fail)
        go_roundw
        case rel => exact ⟨i + 1, by omega, by go_num, by rw [rep_one, ← List.append_assoc]; exact hbuf⟩
        case measure => simp [intOf]; omega
      · subst heq2
        have hlen : (pre ++ List.replicate i (48 : Int)).length ≤ 403 := by simp; omega
        obtain ⟨zs, hzs⟩ : ∃ zs, pre ++ List.replicate i (48 : Int) = zs := ⟨_, rfl⟩
        rw [hzs] at hbuf hlen
        have HZ : Hid _ := hzs
        clear hzs
        go_wp2_with fail
        go_loopw [247, 0, 30] (fun a v _ wr => ∃ j : Nat, j ≤ k ∧ a = .int .i64 j ∧ Buf B (some (g, u)) W0 v (zs ++ (dI u).take j) wr) (fun a _ _ _ => k - (intOf a).toNat)
        case atStart => exact ⟨0, Nat.zero_le _, rfl, by simpa using hbuf⟩
        case round =>
          obtain ⟨j, hj, rfl, hbuf⟩ := hrel
          rcases Nat.lt_or_eq_of_le hj with hlt3 | heq3
          · have hc := (hbuf.dig g u rfl).int j (by omega)
            have HX : Hid _ := take_one (dI u) j (by omega)
            generalize (dI u)[j] = x at *
            go_wp2_with (first
              | (at_builtin; refine wpList_append_own _ rfl _ _ 27 rfl B 5 i0 (.int .u8 0) 1 1 Tryz.underlying27 hi hz0 hz1 hz2 rfl (by decide) _ _ _ rfl (hbuf.own.alloc _) ⟨_, 0, none⟩ 1 1 [_] rfl rfl (cell_one_new _ _ _) (by intro u hu; simp at hu; subst hu; rfl) (by have := hbuf.len; unfold maxLen; omega) (by have := hbuf.len; omega) (by have := hbuf.size; simp; omega) ?_; intro v w hown hgrow hnil; have hbuf := hbuf.push _ hown hgrow hnil (by simp; omega); clear hown hgrow hnil)
              | fail)
            go_roundw
            case rel => exact ⟨j + 1, by omega, by go_num, by rw [HX.out, ← List.append_assoc]; exact hbuf⟩
            case measure => simp [intOf]; omega
          · subst heq3
            go_wp2_with fail
            go_loopw [261, 0] (fun a v wr => a = .int .i64 0 ∧ Buf B (some (g, u)) W0 v (zs ++ (dI u).take j) wr) (fun _ _ _ => 0)
            case atStart => exact ⟨rfl, hbuf⟩
            case round =>
              obtain ⟨rfl, hbuf⟩ := hrel
              go_wp2_with fail
              go_ret
              exact ⟨_, rfl, by rw [HZ.out]; exact hbuf⟩
end Go.Proofs.YtkakanejiakbkaaGreatDoor.Rl
/- THE TEXT WITH AN EXPONENT and several digits. Own work of the verifier. -/
namespace Go.Proofs.YtkakanejiakbkaaGreatDoor.Rl
open Go.RowKit Go.Sort

/-- The digits behind the first. -/
def mid (u k : Nat) : List Int := ((dI u).take k).drop 1
theorem mid_length (u k : Nat) (h : k ≤ (dI u).length) : (mid u k).length = k - 1 := by unfold mid; rw [List.length_drop, List.length_take]; omega
theorem mid_at (u k : Nat) (h : k ≤ (dI u).length) : ∀ j (hj : j < (mid u k).length), (dI u)[1 + j]? = some (mid u k)[j] := by
  intro j hj
  have hl := mid_length u k h
  have h2 : (mid u k)[j] = (dI u)[1 + j]'(by omega) := by unfold mid; simp [Nat.add_comm]
  rw [h2]; exact List.getElem?_eq_getElem _
set_option maxHeartbeats 4000000 in
set_option maxRecDepth 100000 in
theorem fmtE_many (neg : Bool) (B g u E k P : Nat) (dp d0 : Int) (W0 w : World) (v : Value) (hbuf : Buf B (some (g, u)) W0 v [] w) (h0 : (dI u)[0]? = some d0) (hdp : dp - 1 = (E : Int) ∨ dp - 1 < 0 ∧ 1 - dp = (E : Int)) (hE : E ≤ 400) (hk : 2 ≤ k) (hk1 : k ≤ (dI u).length) (hk2 : k ≤ 20) (hP : P = k - 1) :
    Calls Tryz.prog 154 #[v, .bool neg, .slice (some ⟨g, 0, none⟩) 32 32, .int .i64 dp, .int .i64 (k : Int), .int .i64 (P : Int), .int .u8 101, .bool true] w fun r w' => ∃ v', r = .returned v' ∧ Buf B (some (g, u)) W0 v' ((if neg then [45, d0, 46] else [d0, 46]) ++ mid u k ++ eTail dp) w' := by
  obtain ⟨i0, hi, hz0, hz1, hz2⟩ := info_parts infoByte
  have ht : (dp - 1 = (E : Int) ∧ eTail dp = 101 :: 43 :: eDig E) ∨ (dp - 1 < 0 ∧ -(dp - 1) = (E : Int) ∧ eTail dp = 101 :: 45 :: eDig E) := by
    unfold eTail
    rcases hdp with h | ⟨h, k⟩
    · rw [if_neg (by omega), show (dp - 1).toNat = E from by omega]; exact Or.inl ⟨h, rfl⟩
    · rw [if_pos h, show (1 - dp).toNat = E from by omega]; exact Or.inr ⟨h, by omega, rfl⟩
  have hr : (E < 10 ∧ eDig E = [48, (E : Int) + 48]) ∨ (10 ≤ E ∧ E < 100 ∧ eDig E = [(E : Int) / 10 + 48, (E : Int) % 10 + 48]) ∨ (100 ≤ E ∧ eDig E = [(E : Int) / 100 + 48, (E : Int) / 10 % 10 + 48, (E : Int) % 10 + 48]) := by
    unfold eDig
    by_cases h1 : E < 10
    · exact Or.inl ⟨h1, if_pos h1⟩
    · rw [if_neg h1]
      by_cases h2 : E < 100
      · exact Or.inr (Or.inl ⟨by omega, h2, if_pos h2⟩)
      · exact Or.inr (Or.inr ⟨by omega, if_neg h2⟩)
  clear hdp
  have hmin : min (k : Int) ((P : Int) + 1) = (k : Int) := by omega
  have hP0 : decide (0 < P) = true := decide_eq_true (by omega)
  have hk3 : decide (1 < k) = true := decide_eq_true (by omega)
  have hk4 : ((k : Int) != 0) = true := by rw [bne_iff_ne]; omega
  have hk5 : ((k : Int) == 0) = false := by rw [beq_eq_false_iff_ne]; omega
  have hz : (P : Int) + 1 - (k : Int) = 0 := by omega
  have hml := mid_length u k hk1
  have HMID : Hid _ := mid_at u k hk1
  have HP : Hid _ := hP
  clear hP
  have hd := hbuf.at0 h0
  have H0 : Hid _ := h0
  clear h0
  obtain ⟨pre, HPRE⟩ : ∃ pre : List Int, Hid (pre = ((if neg then [45, d0, 46] else [d0, 46]) ++ mid u k : List Int)) := ⟨(if neg then [45, d0, 46] else [d0, 46]) ++ mid u k, rfl⟩
  have hpl : pre.length ≤ 22 := by rw [HPRE.out]; cases neg <;> simp [hml] <;> omega
  rw [← HPRE.out]
  cases neg
  all_goals
    rcases ht with ⟨hp, ht⟩ | ⟨hp0, hp, ht⟩
    all_goals
      rcases hr with ⟨r1, r2⟩ | ⟨r0, r1, r2⟩ | ⟨r0, r2⟩
      all_goals
        rw [ht, r2]
        clear ht r2
        go_enter Tryz.func154, Tryz.ntmps154
        go_wp2_with (first
          | (at_builtin; refine wpList_append_own _ rfl _ _ 27 rfl B 5 i0 (.int .u8 0) 1 1 Tryz.underlying27 hi hz0 hz1 hz2 rfl (by decide) _ _ _ rfl (hbuf.own.alloc _) ⟨_, 0, none⟩ 1 1 [_] rfl rfl (cell_one_new _ _ _) (by intro u hu; simp at hu; subst hu; rfl) (by have := hbuf.len; unfold maxLen; omega) (by have := hbuf.len; omega) (by have := hbuf.size; simp; omega) ?_; intro v w hown hgrow hnil; have hbuf := hbuf.push _ hown hgrow hnil (by simp); have hd := hbuf.at0 H0.out; clear hown hgrow hnil)
          | (at_builtin; refine wpList_append_own _ rfl _ _ 27 rfl B 5 i0 (.int .u8 0) 1 1 Tryz.underlying27 hi hz0 hz1 hz2 rfl (by decide) _ _ _ rfl hbuf.own ⟨g, 1, none⟩ (k - 1) 31 ((mid u k).map (Value.int .u8)) rfl (by rw [List.length_map, hml, Nat.mul_one]) (hbuf.mid 1 HMID.out) (ints_oneCell .u8 _) (by have := hbuf.len; unfold maxLen; omega) (by have := hbuf.len; omega) hbuf.size ?_; intro v w hown hgrow hnil; have hbuf := hbuf.grow (World.grownBy.refl _ _) (k - 1) hml hown hgrow hnil (by simp [hml]; omega); clear hown hgrow hnil)
          | fail)
        have hbuf : Buf B (some (g, u)) W0 v pre w := by rw [HPRE.out]; exact hbuf
        go_loopw [114, 0] (fun a v wr => a = .int .i64 0 ∧ Buf B (some (g, u)) W0 v pre wr) (fun _ _ _ => 0)
        case atStart => exact ⟨rfl, hbuf⟩
        case round =>
          obtain ⟨rfl, hbuf⟩ := hrel
          go_wp2_with (first
            | (at_builtin; refine wpList_append_own _ rfl _ _ 27 rfl B 5 i0 (.int .u8 0) 1 1 Tryz.underlying27 hi hz0 hz1 hz2 rfl (by decide) _ _ _ rfl (hbuf.own.alloc _) ⟨_, 0, none⟩ 1 1 [_] rfl rfl (cell_one_new _ _ _) (by intro u hu; simp at hu; subst hu; rfl) (by have := hbuf.len; unfold maxLen; omega) (by have := hbuf.len; omega) (by have := hbuf.size; simp; omega) ?_; intro v w hown hgrow hnil; have hbuf := hbuf.push _ hown hgrow hnil (by simp; omega); clear hown hgrow hnil)
            | (at_builtin; refine wpList_append_own _ rfl _ _ 27 rfl B 5 i0 (.int .u8 0) 1 1 Tryz.underlying27 hi hz0 hz1 hz2 rfl (by decide) _ _ _ rfl (hbuf.own.alloc _) ⟨_, 0, none⟩ 2 2 [_, _] rfl rfl (cell_two_new _ _ _ _) (by intro u hu; simp at hu; rcases hu with rfl | rfl <;> rfl) (by have := hbuf.len; unfold maxLen; omega) (by have := hbuf.len; omega) (by have := hbuf.size; simp; omega) ?_; intro v w hown hgrow hnil; have hbuf := hbuf.push2 _ hown hgrow hnil (by simp; omega); clear hown hgrow hnil)
            | (at_builtin; refine wpList_append_own _ rfl _ _ 27 rfl B 5 i0 (.int .u8 0) 1 1 Tryz.underlying27 hi hz0 hz1 hz2 rfl (by decide) _ _ _ rfl (hbuf.own.alloc _) ⟨_, 0, none⟩ 3 3 [_, _, _] rfl rfl (cell_three_new _ _ _ _ _) (by intro u hu; simp at hu; rcases hu with rfl | rfl | rfl <;> rfl) (by have := hbuf.len; unfold maxLen; omega) (by have := hbuf.len; omega) (by have := hbuf.size; simp; omega) ?_; intro v w hown hgrow hnil; have hbuf := hbuf.push3 _ hown hgrow hnil (by simp; omega); clear hown hgrow hnil)
            | fail)
          go_ret
          exact ⟨_, rfl, by simpa using hbuf⟩
end Go.Proofs.YtkakanejiakbkaaGreatDoor.Rl
/- WHAT THE WALKS READ OF THE LIBRARY's VARIABLES; the row of bytes through calls. Own work of the verifier. -/
namespace Go.Proofs.YtkakanejiakbkaaGreatDoor.Rl
open Go.RowKit Go.Sort

theorem lt_of_cell {w : World} {b o : Nat} {v : Value} (h : w.cell? ⟨b, o, none⟩ = some v) : b < w.heap.size := by
  obtain ⟨c, e, fr, h1, _⟩ := cells_of_cell? h
  rcases Nat.lt_or_ge b w.heap.size with k | k
  · exact k
  · rw [Array.getElem?_eq_none k] at h1; cases h1
theorem Pow.lt {w : World} (h : Pow w) : 10 < w.heap.size := lt_of_cell (h 0 (by decide)).1
theorem Pow.below {w w' : World} (h : Pow w) (hb : Below w.heap.size w w') : Pow w' := by
  intro i hi
  obtain ⟨h0, h1⟩ := h i hi
  exact ⟨by rw [(bcell hb).1 _ _ h.lt, h0], by rw [(bcell hb).1 _ _ h.lt, h1]⟩
theorem Tab.below {w w' : World} (h : Tab w) (hb : Below w.heap.size w w') : Tab w' := by
  unfold Tab Lib.TabIs World.var? at *
  cases hg : Tryz.prog.globalNamed "internal/strconv.uint64pow10" with
  | none => simp [hg] at h
  | some g =>
    simp only [hg, Option.bind_some] at h ⊢
    have hlt : g < w.heap.size := by
      rcases Nat.lt_or_ge g w.heap.size with h' | h'
      · exact h'
      · rw [Array.getElem?_eq_none h'] at h; simp at h
    rw [hb.block g hlt]
    exact h
/-- What is read of the library's variables. -/
structure Glob (w : World) : Prop where
  pow : Pow w
  tab : Tab w
  opt : w.cell? ⟨7, 0, none⟩ = some (.bool true)
theorem Glob.below {w w' : World} (h : Glob w) (hb : Below w.heap.size w w') : Glob w' :=
  ⟨h.pow.below hb, h.tab.below hb, by rw [(bcell hb).1 _ _ (lt_of_cell h.opt), h.opt]⟩
theorem own_below {B : Nat} {e : TypeId} {k : Nat} {v : Value} {n : Nat} {xs : List Value} {w w' : World} (h : w.ownsRow B e k v n xs) (hb : Below w.heap.size w w') : w'.ownsRow B e k v n xs := by
  obtain ⟨h1, h2⟩ := h
  refine ⟨h1, ?_⟩
  rcases h2 with h2 | ⟨g, cap, cur, hv, hg, hh, r⟩
  · exact Or.inl h2
  · have hlt : g < w.heap.size := by
      rcases Nat.lt_or_ge g w.heap.size with h' | h'
      · exact h'
      · rw [Array.getElem?_eq_none h'] at hh; cases hh
    exact Or.inr ⟨g, cap, cur, hv, hg, by rw [hb.block g hlt]; exact hh, r⟩
theorem Buf.step {B : Nat} {W0 w w' : World} {v : Value} {zs : List Int} (h : Buf B none W0 v zs w) (hb : Below w.heap.size w w') : Buf B none W0 v zs w' :=
  ⟨own_below h.own hb, h.nz, h.below.trans (hb.mono h.size), by have := h.size; have := hb.size; omega, h.len, fun g u e => by cases e⟩
theorem Buf.digits {B g u : Nat} {W0 w w' : World} {v : Value} {zs : List Int} {arr : Array Value} (h : Buf B none W0 v zs w) (hob : w.heap[g]? = some (.cells arr 163)) (hgB : B ≤ g) (hg : w.grownBy w' (some g)) (hd : DigAt g u w') : Buf B (some (g, u)) W0 v zs w' := by
  obtain ⟨gv, cap, cur, hv, hB, hcur⟩ := own_of h.own h.nz
  have hne : g ≠ gv := fun e => by rw [e, hcur] at hob; cases hob
  refine ⟨h.own.kept hg (Or.inr ?_), h.nz, h.below.grown hg h.size (fun k e => by cases e; exact hgB), by have := h.size; have := hg.size; omega, h.len, fun g' u' e => by cases e; exact hd⟩
  rw [hv]
  exact fun e => hne (Option.some.inj e).symm
end Go.Proofs.YtkakanejiakbkaaGreatDoor.Rl
/- ftoa64 AT A NORMAL FLOAT. Own work of the verifier. -/
namespace Go.Proofs.YtkakanejiakbkaaGreatDoor.Rl
open Go.RowKit Go.Sort

theorem f64bits (x : Nat) (w : World) : (callFunc 151 #[.float .f64 x]).run Tryz.prog w = .ok (.value (.int .u64 (x : Int))) w := by
  rw [run_callFunc_extern Tryz.func151 (by kernel_rfl) (by kernel_rfl) (by kernel_rfl) (e := Extern.MathFloatBits.float64bits) (by kernel_rfl)]
  rfl
/-- k is how many digits of u there are without zeros last. -/
def Trim (u k : Nat) : Prop := k ≤ Lib.nDigits u ∧ (∀ j (h : j < (Lib.decDigits u).length), k ≤ j → (Lib.decDigits u)[j] = 48) ∧ (k = 0 ∨ ∃ h : k - 1 < (Lib.decDigits u).length, (Lib.decDigits u)[k - 1] ≠ 48)
set_option maxHeartbeats 4000000 in
set_option maxRecDepth 100000 in
theorem ftoaE_w (neg : Bool) (x E f M m u : Nat) (e p : Int) (B : Nat) (W0 w : World) (v : Value) (T : List Int) (hbuf : Buf B none W0 v [] w) (hGl : Glob w)
    (hneg : ((x : Int) / 9223372036854775808 != 0) = neg) (hE : bits .and .i64 ((x : Int) / 4503599627370496) 2047 = (E : Int)) (hf : bits .and .u64 (x : Int) 4503599627370495 = (f : Int)) (hE0 : 1 ≤ E) (hE1 : E ≤ 2046) (hx : x < 18446744073709551616)
    (hM : bits .or .u64 (f : Int) 4503599627370496 = (M : Int)) (hM0 : 4503599627370496 ≤ M) (hM1 : M < 9007199254740992) (hl : Lib.bitLen M = 53) (hm : (M : Int) * 2048 = (m : Int)) (he : (E : Int) - 1086 = e) (hs : shortF m e = (u, p)) (hu0 : 1 ≤ u) (hu1 : u < 18446744073709551616) (hp0 : -400 ≤ p) (hp1 : p ≤ 400)
    (HC : Hid (∀ (g k : Nat) (W : World), Trim u k → Buf B (some (g, u)) W0 v [] W →
      Calls Tryz.prog 154 #[v, .bool neg, .slice (some ⟨g, 0, none⟩) 32 32, .int .i64 ((Lib.nDigits u : Int) + p), .int .i64 (k : Int), .int .i64 (max ((k : Int) - 1) 0), .int .u8 101, .bool true] W fun r w' => ∃ v' o, r = .returned v' ∧ Buf B o W0 v' T w')) :
    Calls Tryz.prog 137 #[v, .float .f64 x, .int .u8 101, .int .i64 (-1)] w fun r w' => ∃ v' o, r = .returned v' ∧ Buf B o W0 v' T w' := by
  have hE2 : ((E : Int) == 2047) = false := by rw [beq_eq_false_iff_ne]; omega
  have hE3 : ((E : Int) == 0) = false := by rw [beq_eq_false_iff_ne]; omega
  have hM2 : ((M : Int) == 0) = false := by rw [beq_eq_false_iff_ne]; omega
  have HL : Hid (∀ W, Calls Tryz.prog 104 #[.int .u64 (M : Int)] W fun r w' => r = .returned (.int .i64 53) ∧ w' = W) := by
    intro W
    have h := Tryz.bits_Len64 (M : Int) W (by omega) (by omega)
    rw [Int.toNat_natCast, hl] at h
    exact h
  have HU : Hid _ := hs
  have hn20 : Lib.nDigits u ≤ 20 := Lib.nDigits_le20 u hu1
  clear hl hs
  go_enter Tryz.func137, Tryz.ntmps137
  go_wp2_with (first
    | simp only [f64bits]
    | (go_at_call 104; with_reducible refine (HL.out _).mono ?_; rintro r w ⟨rfl, rfl⟩)
    | fail)
  go_quiet (fail)
  go_wp2_with (first
    | (go_at_call 104; with_reducible refine (HL.out _).mono ?_; rintro r w ⟨rfl, rfl⟩)
    | fail)
  rw [show (E : Int) + -1023 - 11 - 52 = e from by omega]
  obtain ⟨W1, hW1⟩ : ∃ W1, (w.drewN nq).alloc (.cells (Array.replicate 32 (.int .u8 0)) 163) = W1 := ⟨_, rfl⟩
  have hb1 : Below w.heap.size w W1 := by rw [← hW1]; exact (Below.drewN' (Below.refl _ _) _).alloc (by rw [drewN_heap]; exact Nat.le_refl _) _
  have hbuf1 := hbuf.step hb1
  have hG1 := hGl.below hb1
  have hob1 : W1.heap[w.heap.size]? = some (.cells (Array.replicate 32 (.int .u8 0)) 163) := by
    rw [← hW1]; have := (MapKept.heap_alloc (w.drewN nq) (.cells (Array.replicate 32 (.int .u8 0)) 163)).1; rw [drewN_heap] at this; exact this
  have hz1 : w.heap.size < W1.heap.size := by
    rcases Nat.lt_or_ge w.heap.size W1.heap.size with h | h
    · exact h
    · rw [Array.getElem?_eq_none h] at hob1; cases hob1
  rw [show (w.drewN nq).alloc (.cells #[.int .u8 0, .int .u8 0, .int .u8 0, .int .u8 0, .int .u8 0, .int .u8 0, .int .u8 0, .int .u8 0, .int .u8 0, .int .u8 0, .int .u8 0, .int .u8 0, .int .u8 0, .int .u8 0, .int .u8 0, .int .u8 0, .int .u8 0, .int .u8 0, .int .u8 0, .int .u8 0, .int .u8 0, .int .u8 0, .int .u8 0, .int .u8 0, .int .u8 0, .int .u8 0, .int .u8 0, .int .u8 0, .int .u8 0, .int .u8 0, .int .u8 0, .int .u8 0] 163) = W1 from hW1]
  clear hW1
  have hB0 : B ≤ w.heap.size := hbuf.size
  refine (short_any m e (by omega) (by omega) (by omega) (by omega) (by omega) (by omega) W1 hG1.pow.lt hG1.pow).mono ?_
  rintro r w2 ⟨rfl, hb2⟩
  rw [HU.out]
  have hbuf2 := hbuf1.step hb2
  have hG2 := hG1.below hb2
  have hob2 : w2.heap[w.heap.size]? = some (.cells (Array.replicate 32 (.int .u8 0)) 163) := by rw [hb2.block _ hz1, hob1]
  clear hb2 hbuf1 hG1 hob1 hb1 HU HL
  go_wp2_with fail
  go_region_with (first
    | (go_at_call 71; refine (Tryz.internal_strconv_numDigits u hu0 hu1 _ (hG2.below (Below.drewN' (Below.refl _ _) 1)).tab).mono ?_; rintro r wn ⟨rfl, rfl⟩)
    | (go_at_call 156; refine (setDigits_any w.heap.size u p (w2.drewN 1) hob2 hu1 (by omega) (by omega)).mono ?_; rintro r w3 ⟨k, hk, hz, hnz, rfl, hD, hgr, hsz⟩))
  have hbuf3 : Buf B (some (w.heap.size, u)) W0 v [] w3 := (hbuf2.step (Below.drewN' (Below.refl _ _) 1)).digits hob2 hB0 hgr hD
  have HT : Hid (Trim u k) := ⟨hk, hz, hnz⟩
  have hk20 : k ≤ 20 := by omega
  clear hz hnz hD hgr hsz hbuf2 hG2 hob2
  go_wp2_with fail
  refine (HC.out _ k w3 HT.out hbuf3).mono ?_
  rintro r w4 ⟨v', o, rfl, hb4⟩
  go_wp2
  go_ret
  exact ⟨_, _, rfl, hb4⟩
set_option maxHeartbeats 4000000 in
set_option maxRecDepth 100000 in
theorem ftoaF_w (neg : Bool) (x E f M m u : Nat) (e p : Int) (B : Nat) (W0 w : World) (v : Value) (T : List Int) (hbuf : Buf B none W0 v [] w) (hGl : Glob w)
    (hneg : ((x : Int) / 9223372036854775808 != 0) = neg) (hE : bits .and .i64 ((x : Int) / 4503599627370496) 2047 = (E : Int)) (hf : bits .and .u64 (x : Int) 4503599627370495 = (f : Int)) (hE0 : 1 ≤ E) (hE1 : E ≤ 2046) (hx : x < 18446744073709551616)
    (hM : bits .or .u64 (f : Int) 4503599627370496 = (M : Int)) (hM0 : 4503599627370496 ≤ M) (hM1 : M < 9007199254740992) (hl : Lib.bitLen M = 53) (hm : (M : Int) * 2048 = (m : Int)) (he : (E : Int) - 1086 = e) (hs : shortF m e = (u, p)) (hu0 : 1 ≤ u) (hu1 : u < 18446744073709551616) (hp0 : -400 ≤ p) (hp1 : p ≤ 400)
    (HC : Hid (∀ (g k : Nat) (W : World), Trim u k → Buf B (some (g, u)) W0 v [] W →
      Calls Tryz.prog 154 #[v, .bool neg, .slice (some ⟨g, 0, none⟩) 32 32, .int .i64 ((Lib.nDigits u : Int) + p), .int .i64 (k : Int), .int .i64 (max ((k : Int) - ((Lib.nDigits u : Int) + p)) 0), .int .u8 102, .bool true] W fun r w' => ∃ v' o, r = .returned v' ∧ Buf B o W0 v' T w')) :
    Calls Tryz.prog 137 #[v, .float .f64 x, .int .u8 102, .int .i64 (-1)] w fun r w' => ∃ v' o, r = .returned v' ∧ Buf B o W0 v' T w' := by
  have hE2 : ((E : Int) == 2047) = false := by rw [beq_eq_false_iff_ne]; omega
  have hE3 : ((E : Int) == 0) = false := by rw [beq_eq_false_iff_ne]; omega
  have hM2 : ((M : Int) == 0) = false := by rw [beq_eq_false_iff_ne]; omega
  have HL : Hid (∀ W, Calls Tryz.prog 104 #[.int .u64 (M : Int)] W fun r w' => r = .returned (.int .i64 53) ∧ w' = W) := by
    intro W
    have h := Tryz.bits_Len64 (M : Int) W (by omega) (by omega)
    rw [Int.toNat_natCast, hl] at h
    exact h
  have HU : Hid _ := hs
  have hn20 : Lib.nDigits u ≤ 20 := Lib.nDigits_le20 u hu1
  clear hl hs
  go_enter Tryz.func137, Tryz.ntmps137
  go_wp2_with (first
    | simp only [f64bits]
    | (go_at_call 104; with_reducible refine (HL.out _).mono ?_; rintro r w ⟨rfl, rfl⟩)
    | fail)
  go_quiet (fail)
  go_wp2_with (first
    | (go_at_call 104; with_reducible refine (HL.out _).mono ?_; rintro r w ⟨rfl, rfl⟩)
    | fail)
  rw [show (E : Int) + -1023 - 11 - 52 = e from by omega]
  obtain ⟨W1, hW1⟩ : ∃ W1, (w.drewN nq).alloc (.cells (Array.replicate 32 (.int .u8 0)) 163) = W1 := ⟨_, rfl⟩
  have hb1 : Below w.heap.size w W1 := by rw [← hW1]; exact (Below.drewN' (Below.refl _ _) _).alloc (by rw [drewN_heap]; exact Nat.le_refl _) _
  have hbuf1 := hbuf.step hb1
  have hG1 := hGl.below hb1
  have hob1 : W1.heap[w.heap.size]? = some (.cells (Array.replicate 32 (.int .u8 0)) 163) := by
    rw [← hW1]; have := (MapKept.heap_alloc (w.drewN nq) (.cells (Array.replicate 32 (.int .u8 0)) 163)).1; rw [drewN_heap] at this; exact this
  have hz1 : w.heap.size < W1.heap.size := by
    rcases Nat.lt_or_ge w.heap.size W1.heap.size with h | h
    · exact h
    · rw [Array.getElem?_eq_none h] at hob1; cases hob1
  rw [show (w.drewN nq).alloc (.cells #[.int .u8 0, .int .u8 0, .int .u8 0, .int .u8 0, .int .u8 0, .int .u8 0, .int .u8 0, .int .u8 0, .int .u8 0, .int .u8 0, .int .u8 0, .int .u8 0, .int .u8 0, .int .u8 0, .int .u8 0, .int .u8 0, .int .u8 0, .int .u8 0, .int .u8 0, .int .u8 0, .int .u8 0, .int .u8 0, .int .u8 0, .int .u8 0, .int .u8 0, .int .u8 0, .int .u8 0, .int .u8 0, .int .u8 0, .int .u8 0, .int .u8 0, .int .u8 0] 163) = W1 from hW1]
  clear hW1
  have hB0 : B ≤ w.heap.size := hbuf.size
  refine (short_any m e (by omega) (by omega) (by omega) (by omega) (by omega) (by omega) W1 hG1.pow.lt hG1.pow).mono ?_
  rintro r w2 ⟨rfl, hb2⟩
  rw [HU.out]
  have hbuf2 := hbuf1.step hb2
  have hG2 := hG1.below hb2
  have hob2 : w2.heap[w.heap.size]? = some (.cells (Array.replicate 32 (.int .u8 0)) 163) := by rw [hb2.block _ hz1, hob1]
  clear hb2 hbuf1 hG1 hob1 hb1 HU HL
  go_wp2_with fail
  go_region_with (first
    | (go_at_call 71; refine (Tryz.internal_strconv_numDigits u hu0 hu1 _ (hG2.below (Below.drewN' (Below.refl _ _) 1)).tab).mono ?_; rintro r wn ⟨rfl, rfl⟩)
    | (go_at_call 156; refine (setDigits_any w.heap.size u p (w2.drewN 1) hob2 hu1 (by omega) (by omega)).mono ?_; rintro r w3 ⟨k, hk, hz, hnz, rfl, hD, hgr, hsz⟩))
  have hbuf3 : Buf B (some (w.heap.size, u)) W0 v [] w3 := (hbuf2.step (Below.drewN' (Below.refl _ _) 1)).digits hob2 hB0 hgr hD
  have HT : Hid (Trim u k) := ⟨hk, hz, hnz⟩
  have hk20 : k ≤ 20 := by omega
  clear hz hnz hD hgr hsz hbuf2 hG2 hob2
  go_wp2_with fail
  refine (HC.out _ k w3 HT.out hbuf3).mono ?_
  rintro r w4 ⟨v', o, rfl, hb4⟩
  go_wp2
  go_ret
  exact ⟨_, _, rfl, hb4⟩
end Go.Proofs.YtkakanejiakbkaaGreatDoor.Rl
/- THE TEXTS OF 0 AND OF LEAST FLOATS, as the library writes them. Own work of the verifier. -/
namespace Go.Proofs.YtkakanejiakbkaaGreatDoor.Rl
open Go.RowKit Go.Sort

set_option maxHeartbeats 1000000 in
set_option maxRecDepth 100000 in
theorem fmtF_zero (neg : Bool) (B : Nat) (W0 w : World) (v : Value) (hbuf : Buf B none W0 v [] w) :
    Calls Tryz.prog 154 #[v, .bool neg, .slice none 0 0, .int .i64 0, .int .i64 0, .int .i64 (-1), .int .u8 102, .bool true] w fun r w' => ∃ v', r = .returned v' ∧ Buf B none W0 v' (if neg then [45, 48] else [48]) w' := by
  obtain ⟨i0, hi, hz0, hz1, hz2⟩ := info_parts infoByte
  cases neg
  all_goals
    go_enter Tryz.func154, Tryz.ntmps154
    go_wp2_with (first
      | (at_builtin; refine wpList_append_own _ rfl _ _ 27 rfl B 5 i0 (.int .u8 0) 1 1 Tryz.underlying27 hi hz0 hz1 hz2 rfl (by decide) _ _ _ rfl (hbuf.own.alloc _) ⟨_, 0, none⟩ 1 1 [_] rfl rfl (cell_one_new _ _ _) (by intro u hu; simp at hu; subst hu; rfl) (by have := hbuf.len; unfold maxLen; omega) (by have := hbuf.len; omega) (by have := hbuf.size; simp; omega) ?_; intro v w hown hgrow hnil; have hbuf := hbuf.push _ hown hgrow hnil (by simp); clear hown hgrow hnil)
      | fail)
    go_ret
    exact ⟨_, rfl, hbuf⟩
set_option maxHeartbeats 1000000 in
set_option maxRecDepth 100000 in
theorem ftoaF_zero (neg : Bool) (x : Nat) (B : Nat) (W0 w : World) (v : Value) (hbuf : Buf B none W0 v [] w)
    (hneg : ((x : Int) / 9223372036854775808 != 0) = neg) (hE : bits .and .i64 ((x : Int) / 4503599627370496) 2047 = 0) (hf : bits .and .u64 (x : Int) 4503599627370495 = 0) (hx : x < 18446744073709551616) :
    Calls Tryz.prog 137 #[v, .float .f64 x, .int .u8 102, .int .i64 (-1)] w fun r w' => ∃ v' o, r = .returned v' ∧ Buf B o W0 v' (if neg then [45, 48] else [48]) w' := by
  obtain ⟨T, HT⟩ : ∃ T : List Int, Hid ((if neg then [45, 48] else [48]) = T) := ⟨_, rfl⟩
  have HZ : Hid (∀ W v, Buf B none W0 v [] W → Calls Tryz.prog 154 #[v, .bool neg, .slice none 0 0, .int .i64 0, .int .i64 0, .int .i64 (-1), .int .u8 102, .bool true] W fun r w' => ∃ v', r = .returned v' ∧ Buf B none W0 v' T w') := fun W v h => by rw [← HT.out]; exact fmtF_zero neg B W0 W v h
  rw [HT.out]
  go_enter Tryz.func137, Tryz.ntmps137
  go_wp2_with (first
    | simp only [f64bits]
    | fail)
  go_quiet (fail)
  go_wp2_with fail
  refine (HZ.out _ v (hbuf.step (Below.drewN' (Below.refl _ _) _))).mono ?_
  rintro r w4 ⟨v', rfl, hb4⟩
  go_wp2
  go_ret
  exact ⟨_, _, rfl, hb4⟩
set_option maxHeartbeats 4000000 in
set_option maxRecDepth 100000 in
theorem ftoaE_sub (neg : Bool) (x f m u z : Nat) (e p : Int) (B : Nat) (W0 w : World) (v : Value) (T : List Int) (hbuf : Buf B none W0 v [] w) (hGl : Glob w)
    (hneg : ((x : Int) / 9223372036854775808 != 0) = neg) (hE : bits .and .i64 ((x : Int) / 4503599627370496) 2047 = 0) (hf : bits .and .u64 (x : Int) 4503599627370495 = (f : Int)) (hf0 : 1 ≤ f) (hf1 : f < 4503599627370496) (hx : x < 18446744073709551616)
    (hl : 64 - (Lib.bitLen f : Int) = (z : Int)) (hz0 : 12 ≤ z) (hz1 : z ≤ 63) (hm : (f : Int) * 2 ^ z = (m : Int)) (hm0 : 9223372036854775808 ≤ m) (hm1 : m < 18446744073709551616) (hmz : m % 2 ^ z = 0) (he : -1074 - (z : Int) = e) (hs : shortF m e = (u, p)) (hu0 : 1 ≤ u) (hu1 : u < 18446744073709551616) (hp0 : -400 ≤ p) (hp1 : p ≤ 400)
    (HC : Hid (∀ (g k : Nat) (W : World), Trim u k → Buf B (some (g, u)) W0 v [] W →
      Calls Tryz.prog 154 #[v, .bool neg, .slice (some ⟨g, 0, none⟩) 32 32, .int .i64 ((Lib.nDigits u : Int) + p), .int .i64 (k : Int), .int .i64 (max ((k : Int) - 1) 0), .int .u8 101, .bool true] W fun r w' => ∃ v' o, r = .returned v' ∧ Buf B o W0 v' T w')) :
    Calls Tryz.prog 137 #[v, .float .f64 x, .int .u8 101, .int .i64 (-1)] w fun r w' => ∃ v' o, r = .returned v' ∧ Buf B o W0 v' T w' := by
  have hM2 : ((f : Int) == 0) = false := by rw [beq_eq_false_iff_ne]; omega
  have HL : Hid (∀ W, Calls Tryz.prog 104 #[.int .u64 (f : Int)] W fun r w' => r = .returned (.int .i64 (Lib.bitLen f : Int)) ∧ w' = W) := by
    intro W
    have h := Tryz.bits_Len64 (f : Int) W (by omega) (by omega)
    rw [Int.toNat_natCast] at h
    exact h
  have HU : Hid _ := hs
  have hn20 : Lib.nDigits u ≤ 20 := Lib.nDigits_le20 u hu1
  have HMZ : Hid _ := hmz
  clear hs hmz
  generalize (Lib.bitLen f : Int) = bl at *
  go_enter Tryz.func137, Tryz.ntmps137
  go_wp2_with (first
    | simp only [f64bits]
    | (go_at_call 104; with_reducible refine (HL.out _).mono ?_; rintro r w ⟨rfl, rfl⟩)
    | fail)
  go_quiet (fail)
  go_wp2_with (first
    | (go_at_call 104; with_reducible refine (HL.out _).mono ?_; rintro r w ⟨rfl, rfl⟩)
    | fail)
  rw [show -1022 - (z : Int) - 52 = e from by omega]
  obtain ⟨W1, hW1⟩ : ∃ W1, (w.drewN nq).alloc (.cells (Array.replicate 32 (.int .u8 0)) 163) = W1 := ⟨_, rfl⟩
  have hb1 : Below w.heap.size w W1 := by rw [← hW1]; exact (Below.drewN' (Below.refl _ _) _).alloc (by rw [drewN_heap]; exact Nat.le_refl _) _
  have hbuf1 := hbuf.step hb1
  have hG1 := hGl.below hb1
  have hob1 : W1.heap[w.heap.size]? = some (.cells (Array.replicate 32 (.int .u8 0)) 163) := by
    rw [← hW1]; have := (MapKept.heap_alloc (w.drewN nq) (.cells (Array.replicate 32 (.int .u8 0)) 163)).1; rw [drewN_heap] at this; exact this
  have hz1 : w.heap.size < W1.heap.size := by
    rcases Nat.lt_or_ge w.heap.size W1.heap.size with h | h
    · exact h
    · rw [Array.getElem?_eq_none h] at hob1; cases hob1
  rw [show (w.drewN nq).alloc (.cells #[.int .u8 0, .int .u8 0, .int .u8 0, .int .u8 0, .int .u8 0, .int .u8 0, .int .u8 0, .int .u8 0, .int .u8 0, .int .u8 0, .int .u8 0, .int .u8 0, .int .u8 0, .int .u8 0, .int .u8 0, .int .u8 0, .int .u8 0, .int .u8 0, .int .u8 0, .int .u8 0, .int .u8 0, .int .u8 0, .int .u8 0, .int .u8 0, .int .u8 0, .int .u8 0, .int .u8 0, .int .u8 0, .int .u8 0, .int .u8 0, .int .u8 0, .int .u8 0] 163) = W1 from hW1]
  clear hW1
  have hB0 : B ≤ w.heap.size := hbuf.size
  refine (short_any m e hm0 hm1 (by omega) (fun _ => by rw [show (-1074 - e).toNat = z from by omega]; exact HMZ.out) (by omega) (by omega) W1 hG1.pow.lt hG1.pow).mono ?_
  rintro r w2 ⟨rfl, hb2⟩
  rw [HU.out]
  have hbuf2 := hbuf1.step hb2
  have hG2 := hG1.below hb2
  have hob2 : w2.heap[w.heap.size]? = some (.cells (Array.replicate 32 (.int .u8 0)) 163) := by rw [hb2.block _ hz1, hob1]
  clear hb2 hbuf1 hG1 hob1 hb1 HU HL
  go_wp2_with fail
  go_region_with (first
    | (go_at_call 71; refine (Tryz.internal_strconv_numDigits u hu0 hu1 _ (hG2.below (Below.drewN' (Below.refl _ _) 1)).tab).mono ?_; rintro r wn ⟨rfl, rfl⟩)
    | (go_at_call 156; refine (setDigits_any w.heap.size u p (w2.drewN 1) hob2 hu1 (by omega) (by omega)).mono ?_; rintro r w3 ⟨k, hk, hz, hnz, rfl, hD, hgr, hsz⟩))
  have hbuf3 : Buf B (some (w.heap.size, u)) W0 v [] w3 := (hbuf2.step (Below.drewN' (Below.refl _ _) 1)).digits hob2 hB0 hgr hD
  have HT : Hid (Trim u k) := ⟨hk, hz, hnz⟩
  have hk20 : k ≤ 20 := by omega
  clear hz hnz hD hgr hsz hbuf2 hG2 hob2
  go_wp2_with fail
  refine (HC.out _ k w3 HT.out hbuf3).mono ?_
  rintro r w4 ⟨v', o, rfl, hb4⟩
  go_wp2
  go_ret
  exact ⟨_, _, rfl, hb4⟩
end Go.Proofs.YtkakanejiakbkaaGreatDoor.Rl
