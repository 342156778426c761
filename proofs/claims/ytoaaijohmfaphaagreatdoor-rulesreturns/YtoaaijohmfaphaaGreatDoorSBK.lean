/- RULES: WHAT IS WRITTEN IS READ AGAIN: texts of numbers, the rule. Own work of the verifier. -/
import Derived.Test.YtoaaijohmfaphaaGreatDoorSBE
import Derived.Test.YtoaaijohmfaphaaGreatDoorSBJ
import Derived.Test.YtoaaijohmfaphaaGreatDoorSBF
import Derived.Test.YtoaaijohmfaphaaGreatDoorSBI
import Derived.Test.YtoaaijohmfaphaaGreatDoorSAP
import Derived.Barred
namespace Go.Proofs.YtoaaijohmfaphaaGreatDoor.Ru
open Go.RowKit Me

def Nmb (l : List UInt8) : Prop := ∀ b ∈ l, isNm b = true
theorem Nmb.app {a b : List UInt8} (h : Nmb a) (k : Nmb b) : Nmb (a ++ b) := fun c hc => (List.mem_append.1 hc).elim (h c) (k c)
theorem Nmb.cons {c : UInt8} {l : List UInt8} (h : isNm c = true) (k : Nmb l) : Nmb (c :: l) := fun b hb => (List.mem_cons.1 hb).elim (fun e => e ▸ h) (k b)
theorem Nmb.nil : Nmb [] := fun _ h => by cases h
theorem dg_nm {c : UInt8} (h : isDg c = true) : isNm c = true := by unfold isNm; rw [h]; rfl
theorem nm_dec (u : Nat) : Nmb (Lib.decDigits u) := fun b hb => dg_nm (dec_dg u b hb)
theorem Nmb.take {l : List UInt8} (h : Nmb l) (k : Nat) : Nmb (l.take k) := fun b hb => h b (List.mem_of_mem_take hb)
theorem Nmb.drop {l : List UInt8} (h : Nmb l) (k : Nat) : Nmb (l.drop k) := fun b hb => h b (List.mem_of_mem_drop hb)
theorem nm_rep (n : Nat) : Nmb (List.replicate n 48) := fun b hb => by rw [(List.mem_replicate.1 hb).2]; decide
theorem nm_sgn (s : Bool) : Nmb (Rl.sgn s) := by
  cases s
  · exact Nmb.nil
  · exact Nmb.cons (by decide) Nmb.nil
theorem nm_itoa (n : Int) : Nmb (Lib.itoa n) := by
  unfold Lib.itoa
  split
  · exact Nmb.cons (by decide) (nm_dec _)
  · exact nm_dec _
theorem first_mem (u : Nat) : (Lib.decDigits u).getD 0 0 ∈ Lib.decDigits u := by
  cases h : Lib.decDigits u with
  | nil => exact absurd h (dec_ne u)
  | cons c r => exact List.mem_cons_self
/-- It begins as a number does. -/
def Hd (l : List UInt8) : Prop := ∃ c r, l = c :: r ∧ (c.toNat = 45 ∨ isDg c = true)
theorem Hd.app {a : List UInt8} (b : List UInt8) (h : Hd a) : Hd (a ++ b) := by
  obtain ⟨c, r, rfl, k⟩ := h
  exact ⟨c, r ++ b, rfl, k⟩
theorem hd_dg {l : List UInt8} (h : ∀ b ∈ l, isDg b = true) (k : l ≠ []) : Hd l := by
  cases l with
  | nil => exact absurd rfl k
  | cons c r => exact ⟨c, r, rfl, Or.inr (h c List.mem_cons_self)⟩
theorem hd_sgn {s : Bool} {l : List UInt8} (h : Hd l) : Hd (Rl.sgn s ++ l) := by
  cases s
  · exact h
  · exact ⟨45, l, rfl, Or.inl rfl⟩
theorem take_ne {l : List UInt8} (h : l ≠ []) {k : Nat} (hk : k ≠ 0) : l.take k ≠ [] := fun e => by
  have := congrArg List.length e
  rw [List.length_take, List.length_nil] at this
  have h2 := List.length_pos_iff.2 h
  omega
theorem fB_num (s : Bool) (u k : Nat) (dp : Int) : Nmb (Rl.fB s u k dp) ∧ Hd (Rl.fB s u k dp) := by
  unfold Rl.fB
  split
  · refine ⟨(((nm_sgn s).app (Nmb.cons (by decide) (Nmb.cons (by decide) Nmb.nil))).app (nm_rep _)).app ((nm_dec u).take k), Hd.app _ (Hd.app _ (hd_sgn ⟨48, [46], rfl, Or.inr (by decide)⟩))⟩
  · rename_i h0
    split
    · rename_i h1
      refine ⟨((nm_sgn s).app ((nm_dec u).take k)).app (nm_rep _), ?_⟩
      rw [List.append_assoc]
      refine hd_sgn ?_
      by_cases hk : k = 0
      · subst hk
        rw [List.take_zero, List.nil_append]
        refine hd_dg (fun b hb => by rw [(List.mem_replicate.1 hb).2]; decide) fun e => ?_
        have := congrArg List.length e
        rw [List.length_replicate, List.length_nil] at this
        omega
      · exact Hd.app _ (hd_dg (fun b hb => dec_dg u b (List.mem_of_mem_take hb)) (take_ne (dec_ne u) hk))
    · refine ⟨(((nm_sgn s).app ((nm_dec u).take _)).app (Nmb.cons (by decide) Nmb.nil)).app (((nm_dec u).take k).drop _), ?_⟩
      rw [List.append_assoc, List.append_assoc]
      refine hd_sgn (Hd.app _ (hd_dg (fun b hb => dec_dg u b (List.mem_of_mem_take hb)) (take_ne (dec_ne u) (by omega))))
theorem eHead_num (s : Bool) (u k : Nat) : Nmb (Rl.eHead s u k) ∧ Hd (Rl.eHead s u k) := by
  have h1 := dec_dg u _ (first_mem u)
  unfold Rl.eHead
  split
  · exact ⟨(nm_sgn s).app (Nmb.cons (dg_nm h1) Nmb.nil), hd_sgn ⟨_, [], rfl, Or.inr h1⟩⟩
  · refine ⟨((nm_sgn s).app (Nmb.cons (dg_nm h1) (Nmb.cons (by decide) Nmb.nil))).app (((nm_dec u).take k).drop 1), Hd.app _ (hd_sgn ⟨_, [46], rfl, Or.inr h1⟩)⟩
/-- The text of a finite float. -/
theorem text_num_ok {x : Nat} (h : Re.finF x = true) : Nmb (Rl.pText x) ∧ Hd (Rl.pText x) := by
  unfold Re.finF at h
  have h' := of_decide_eq_true h
  unfold Rl.pText
  split
  · unfold Rl.xText
    obtain ⟨h1, h2⟩ := eHead_num (decide (9223372036854775808 ≤ x)) (Rl.sd x).1 (Rl.trimLen (Rl.sd x).1)
    exact ⟨h1.app (Nmb.cons (by decide) (nm_itoa _)), Hd.app _ h2⟩
  · unfold Rl.fText
    split
    · split
      · exact ⟨fun b hb => by revert b; decide, 45, [48], rfl, Or.inl rfl⟩
      · exact ⟨fun b hb => by revert b; decide, 48, [], rfl, Or.inr (by decide)⟩
    · rw [if_neg (by omega), if_neg (by omega)]
      exact fB_num _ _ _ _
theorem bgn_num {l : List UInt8} (h : Hd l) (R : List UInt8) : bgn (l ++ R) = 2 := by
  obtain ⟨c, r, rfl, k⟩ := h
  show (if c.toNat = 40 then 1 else if (decide (c.toNat = 45) || isDg c) = true then 2 else if isLt c = true then 3 else 0) = 2
  have h1 : c.toNat ≠ 40 := by
    rcases k with k | k
    · omega
    · unfold isDg at k
      simp only [Bool.and_eq_true, decide_eq_true_eq] at k
      omega
  rw [if_neg h1, if_pos]
  rcases k with k | k
  · rw [decide_eq_true k]; rfl
  · rw [k, Bool.or_true]
/-- The words of kinds. -/
theorem word_ok (k : Int) (h : 2 ≤ k ∧ k ≤ 8 ∨ k = 21) : fndK [2, 3, 7] (kwI k).2 = some k.toNat ∧ (∀ b ∈ (kwI k).2, isLt b = true) ∧ kwA k.toNat = kwI k ∧ ∃ c r, (kwI k).2 = c :: r ∧ isLt c = true := by
  have : k = 2 ∨ k = 3 ∨ k = 4 ∨ k = 5 ∨ k = 6 ∨ k = 7 ∨ k = 8 ∨ k = 21 := by omega
  rcases this with rfl | rfl | rfl | rfl | rfl | rfl | rfl | rfl
  all_goals exact ⟨by decide, by decide, rfl, _, _, rfl, by decide⟩
theorem sign_ok (k : Int) (h : 9 ≤ k ∧ k ≤ 20) : fndK [4, 5, 6] (kwI k).2 = some k.toNat ∧ (∀ b ∈ (kwI k).2, isSg b = true) := by
  have : k = 9 ∨ k = 10 ∨ k = 11 ∨ k = 12 ∨ k = 13 ∨ k = 14 ∨ k = 15 ∨ k = 16 ∨ k = 17 ∨ k = 18 ∨ k = 19 ∨ k = 20 := by omega
  rcases this with rfl | rfl | rfl | rfl | rfl | rfl | rfl | rfl | rfl | rfl | rfl | rfl
  all_goals exact ⟨by decide, by decide⟩
theorem bgn_word {l : List UInt8} (h : ∃ c r, l = c :: r ∧ isLt c = true) (R : List UInt8) : bgn (l ++ R) = 3 := by
  obtain ⟨c, r, rfl, k⟩ := h
  show (if c.toNat = 40 then 1 else if (decide (c.toNat = 45) || isDg c) = true then 2 else if isLt c = true then 3 else 0) = 3
  have k' := k
  unfold isLt at k'
  simp only [Bool.and_eq_true, decide_eq_true_eq] at k'
  have hd : isDg c = false := by
    unfold isDg
    rw [decide_eq_false (by omega : ¬ c.toNat ≤ 57), Bool.and_false]
  rw [if_neg (by omega), if_neg (by rw [decide_eq_false (by omega), hd]; decide), if_pos k]
/-- What is read of a rule's text: the rule; and each number there is one of its own. -/
structure Got (PR : List UInt8 → Option Nat) (T : List UInt8) (f : Nat) (s : St) (t : RT) (R : List UInt8) : Prop where
  tq : (rulF PR T f s).1 = t
  nq : (rulF PR T f s).2.n = s.n + (nds t).length
  rq : At T (rulF PR T f s).2 R
  hq : ∀ z, hitF PR T f s z → ∃ x, x < 18446744073709551616 ∧ Re.finF x = true ∧ rowF isNm T z = Rl.pText x
theorem beg_at {T : List UInt8} {s : St} {X : List UInt8} (h : At T s X) (hn : s.n < 512) : At T (beg s) X ∧ (beg s).n = s.n + 1 := by
  refine ⟨?_, beg_n s⟩
  unfold beg
  dsimp only
  rw [if_neg (by omega)]
  exact ⟨h.e, h.r⟩
theorem toNat_id {k : Int} (h : 0 ≤ k) : ((k.toNat : Nat) : Int) = k := Int.toNat_of_nonneg h
theorem sF_zero {x : Nat} (h : Re.sF x 0 = true) (hx : x < 18446744073709551616) : x = 0 := by
  rw [Re.sF_eq] at h
  have h' := of_decide_eq_true h
  have h0 : Re.rk 0 = 9223372036854775808 := by decide
  rw [h0] at h'
  unfold Re.rk at h'
  split at h'
  · omega
  · split at h' <;> omega
theorem s0_zero {x : Nat} {nm : List UInt8} {ln : Nat} {w n d : Int} {al : Nat} (h : s0B x nm ln w n d al = true) (hx : x < 18446744073709551616) : x = 0 ∧ nm = [] ∧ ln = 0 ∧ w = 0 ∧ n = 0 ∧ d = 0 ∧ al = 0 := by
  unfold s0B at h
  simp only [Bool.and_eq_true, decide_eq_true_eq, beq_iff_eq] at h
  obtain ⟨⟨⟨⟨⟨⟨h1, h2⟩, h3⟩, h4⟩, h5⟩, h6⟩, h7⟩ := h
  exact ⟨sF_zero h1 hx, h2, h3, h4, h5, h6, h7⟩
/-- What does not count is zero. -/
theorem ok_oth {k : Int} {x : Nat} {nm : List UInt8} {lb : List La.Lb} {w n d : Int} {ar : List RT} (h : okN (.mk k x nm lb w n d ar) = 0) (hx : x < 18446744073709551616) :
    (shp k = 1 → nm = [] ∧ lb = [] ∧ w = 0 ∧ n = 0 ∧ d = 0 ∧ ar = []) ∧ (shp k = 2 → x = 0 ∧ n = 0 ∧ d = 0 ∧ ar = []) ∧ (shp k = 3 → x = 0 ∧ ar = []) ∧ (shp k ≠ 1 → shp k ≠ 2 → shp k ≠ 3 → x = 0 ∧ nm = [] ∧ lb = [] ∧ w = 0 ∧ n = 0 ∧ d = 0) := by
  have h' : ndE (shp k) x nm lb w n d ar.length = 0 := h
  have hs : smO (shp k) x nm lb.length w n d ar.length = true := by
    unfold ndE at h'
    split at h'
    · exact absurd h' (by decide)
    · split at h'
      · exact absurd h' (by decide)
      · rename_i k2; simpa using k2
  unfold smO at hs
  refine ⟨fun e => ?_, fun e => ?_, fun e => ?_, fun e1 e2 e3 => ?_⟩
  · rw [if_pos e] at hs
    obtain ⟨-, h2, h3, h4, h5, h6, h7⟩ := s0_zero hs (by decide)
    exact ⟨h2, List.length_eq_zero_iff.1 h3, h4, h5, h6, List.length_eq_zero_iff.1 h7⟩
  · rw [if_neg (by omega), if_neg (by omega), if_pos e] at hs
    obtain ⟨h1, -, -, -, h5, h6, h7⟩ := s0_zero hs hx
    exact ⟨h1, h5, h6, List.length_eq_zero_iff.1 h7⟩
  · rw [if_neg (by omega), if_pos e] at hs
    obtain ⟨h1, -, -, -, -, -, h7⟩ := s0_zero hs hx
    exact ⟨h1, List.length_eq_zero_iff.1 h7⟩
  · rw [if_neg e1, if_neg e3, if_neg e2] at hs
    obtain ⟨h1, h2, h3, h4, h5, h6, -⟩ := s0_zero hs hx
    exact ⟨h1, h2, List.length_eq_zero_iff.1 h3, h4, h5, h6⟩
set_option maxHeartbeats 1000000 in
/-- A measure that was written is read. -/
theorem read_ms {rec : St → RT × St} {T : List UInt8} {s : St} {k : Int} {nm : List UInt8} {lb : List La.Lb} {w n d : Int} {R : List UInt8} (hk : 2 ≤ k ∧ k ≤ 8) (h3 : shp k = 3 → shrB n d = true ∧ d ≤ 9223372036854775807) (h2 : shp k ≠ 3 → n = 0 ∧ d = 0) (h7 : shp k ≠ 7) (hw : winB w = true) (hc : La.chkD ⟨1, nm, [], lb⟩ = 0) (h : At T s (msT (kwI k) nm lb w n d ++ R)) :
    (wrdF rec T s).1 = .mk k 0 nm lb w n d [] ∧ (wrdF rec T s).2.n = s.n ∧ At T (wrdF rec T s).2 R ∧ (kwA (namF isLt [2, 3, 7] T s).1).1 ≠ 7 := by
  obtain ⟨w1, w2, w3, -⟩ := word_ok k (Or.inl hk)
  have hd : msT (kwI k) nm lb w n d ++ R = (kwI k).2 ++ ([40] ++ ((if (kwI k).1 = 3 then Lib.itoa n ++ [47] ++ Lib.itoa d ++ [44, 32] else []) ++ (La.printT nm lb ++ ([44, 32] ++ (Lib.itoa w ++ ([41] ++ R)))))) := by
    unfold msT
    simp only [List.append_assoc]
  rw [hd] at h
  have hn := h.nam w2 (stp_one (by decide)) w1
  have hs1 := At.mst [40] h.ps
  have hn1 : (mst T [40] (ps s (kwI k).2.length)).n = s.n := by rw [mst_n, ps_n]
  have e1 : (kwA k.toNat).1 = shp k := congrArg Prod.fst w3
  unfold wrdF
  dsimp only
  rw [hn]
  dsimp only
  rw [e1, if_neg h7]
  generalize mst T [40] (ps s (kwI k).2.length) = s1 at *
  obtain ⟨q, hq0⟩ : ∃ q, q = (if shp k = 3 then shrF T s1 else (0, 0, s1)) := ⟨_, rfl⟩
  rw [← hq0]
  have hq : (q.1 : Int) = n ∧ (q.2.1 : Int) = d ∧ q.2.2.n = s.n ∧ At T q.2.2 (La.printT nm lb ++ ([44, 32] ++ (Lib.itoa w ++ ([41] ++ R)))) := by
    by_cases e : shp k = 3
    · have e' : (kwI k).1 = 3 := e
      rw [if_pos e'] at hs1
      rw [if_pos e] at hq0
      rw [List.append_assoc, List.append_assoc, List.append_assoc] at hs1
      obtain ⟨a1, a2, a3⟩ := At.shr hs1 (h3 e).1 (h3 e).2
      rw [hq0]
      exact ⟨a1, a2, (shrF_n T s1).trans hn1, a3⟩
    · have e' : ¬ (kwI k).1 = 3 := e
      rw [if_neg e', List.nil_append] at hs1
      rw [if_neg e] at hq0
      obtain ⟨rfl, rfl⟩ := h2 e
      rw [hq0]
      exact ⟨rfl, rfl, hn1, hs1⟩
  clear hq0 h3 h2 hs1 hn1 hn h hd
  obtain ⟨q1, q2, q3, q4⟩ := hq
  obtain ⟨r1, r2, r3⟩ := q4.ser hc
  obtain ⟨v1, v2⟩ := r3.win hw
  have v3 := At.mst [41] v2
  have v4 : (mst T [41] (winF T (serF T q.2.2).2.2).2).n = s.n := by rw [mst_n, winF_n, serF_n, q3]
  have v5 : ((k.toNat : Nat) : Int) = k := toNat_id (by omega)
  generalize winF T (serF T q.2.2).2.2 = z at *
  generalize serF T q.2.2 = y at *
  rw [q1, q2, r1, r2, v1, v5]
  exact ⟨rfl, v4, v3, h7⟩
set_option maxHeartbeats 1000000 in
/-- THE READER'S INVERSE. -/
theorem read_back (PR : List UInt8 → Option Nat) (hPR : ∀ x, x < 18446744073709551616 → Re.finF x = true → PR (Rl.pText x) = some x) (T : List UInt8) :
    ∀ (t : RT), (∀ s ∈ nds t, okP s) → ∀ (f : Nat) (s : St) (R : List UInt8), At T s (wrT t ++ R) → Stp isNm R → s.n + (nds t).length ≤ 512 → 512 ≤ s.n + f → Got PR T f s t R := by
  refine RT.ind ?_
  intro k x nm lb wi n d ar ih hok f s R hs hR hn hf
  obtain ⟨h0, ⟨hx, hds⟩, hw, hnn, hdd⟩ := hok _ (nds_self _)
  have hr : 1 ≤ k ∧ k ≤ 21 := ok_range h0
  obtain ⟨hne, l2, l1, l0⟩ := okN_len h0
  have hh := ok_hld h0
  have hsh := shp_val k hr
  obtain ⟨o1, o2, o3, o4⟩ := ok_oth h0 hx
  have hlen : (nds (.mk k x nm lb wi n d ar)).length = (ndsL ar).length + 1 := by rw [nds, List.length_cons]
  rw [hlen] at hn
  obtain ⟨f, rfl⟩ : ∃ g, f = g + 1 := ⟨f - 1, by omega⟩
  obtain ⟨hb, hbn⟩ := beg_at hs (by omega)
  have hkid : ∀ a ∈ ar, ∀ s ∈ nds a, okP s := fun a ha s hs => hok s (by
    unfold nds
    exact List.mem_cons_of_mem _ (ndsL_mem ha hs))
  have hwt : wrT (.mk k x nm lb wi n d ar) = if shp k = 1 then Rl.pText x
    else if shp k = 2 ∨ shp k = 3 then msT (kwI k) nm lb wi n d
    else if shp k = 7 then (kwI k).2 ++ [40] ++ (wrTs ar).getD 0 [] ++ [41]
    else [40] ++ (wrTs ar).getD 0 [] ++ ([32] ++ (kwI k).2 ++ [32]) ++ (wrTs ar).getD 1 [] ++ [41] := by rw [wrT]
  rw [hwt] at hb
  clear hwt hok hs
  have hEq : rulF PR T (f + 1) s = stpF PR (rulF PR T f) T s := rfl
  by_cases c1 : shp k = 1
  · rw [if_pos c1] at hb
    have hk1 : k = 1 := by
      rw [hsh] at c1
      repeat' split at c1
      all_goals omega
    subst hk1
    obtain ⟨rfl, rfl, rfl, rfl, rfl, rfl⟩ := o1 c1
    have hf : Re.finF x = true := by unfold hldB at hh; rw [if_pos c1] at hh; exact hh
    obtain ⟨t1, t2⟩ := text_num_ok hf
    have hb2 : bgn (rst T (beg s)) = 2 := by rw [hb.rst]; exact bgn_num t2 R
    have hrow : rowF isNm T (beg s) = Rl.pText x := hb.row t1 hR
    have e : rulF PR T (f + 1) s = (.mk 1 x [] [] 0 0 0 [], ps (beg s) (Rl.pText x).length) := by
      rw [hEq, stp_2 hb2]
      unfold numF
      rw [hrow, hPR x hx hf]
    refine ⟨by rw [e], by rw [e, hlen]; show (ps (beg s) _).n = _; rw [ps_n, hbn]; rfl, by rw [e]; exact hb.ps, ?_⟩
    rintro z (⟨-, rfl⟩ | ⟨s', (⟨q, -⟩ | ⟨q, -⟩), -⟩)
    · exact ⟨x, hx, hf, hrow⟩
    · exact absurd (hb2.symm.trans q) (by decide)
    · exact absurd (hb2.symm.trans q) (by decide)
  rw [if_neg c1] at hb
  by_cases c23 : shp k = 2 ∨ shp k = 3
  · rw [if_pos c23] at hb
    have hk28 : 2 ≤ k ∧ k ≤ 8 := by
      rw [hsh] at c23
      repeat' split at c23
      all_goals omega
    have hwin : winB wi = true := by
      unfold hldB at hh
      rw [if_neg c1] at hh
      rcases c23 with e | e
      · rw [if_pos e] at hh; exact hh
      · rw [if_neg (by omega), if_pos e, Bool.and_eq_true] at hh; exact hh.1
    have hsr : shp k = 3 → shrB n d = true ∧ d ≤ 9223372036854775807 := fun e => by
      unfold hldB at hh
      rw [if_neg c1, if_neg (by omega), if_pos e, Bool.and_eq_true] at hh
      exact ⟨hh.2, hdd.2⟩
    have hx0 : x = 0 ∧ ar = [] := by
      rcases c23 with e | e
      · exact ⟨(o2 e).1, (o2 e).2.2.2⟩
      · exact o3 e
    obtain ⟨rfl, rfl⟩ := hx0
    have hnd : shp k ≠ 3 → n = 0 ∧ d = 0 := fun e => by
      rcases c23 with q | q
      · exact ⟨(o2 q).2.1, (o2 q).2.2.1⟩
      · exact absurd q e
    have hb3 : bgn (rst T (beg s)) = 3 := by
      rw [hb.rst]
      have hw4 := (word_ok k (Or.inl hk28)).2.2.2
      have : msT (kwI k) nm lb wi n d ++ R = (kwI k).2 ++ ([40] ++ (if (kwI k).1 = 3 then Lib.itoa n ++ [47] ++ Lib.itoa d ++ [44, 32] else []) ++ (La.printT nm lb ++ [44, 32] ++ Lib.itoa wi ++ [41]) ++ R) := by unfold msT; simp only [List.append_assoc]
      rw [this]
      exact bgn_word hw4 _
    obtain ⟨m1, m2, m3, m4⟩ := read_ms (rec := rulF PR T f) hk28 hsr hnd (by omega) hwin (ok_chk h0 c23) hb
    have e : rulF PR T (f + 1) s = wrdF (rulF PR T f) T (beg s) := by rw [hEq, stp_3 hb3]
    refine ⟨by rw [e, m1], by rw [e, m2, hlen, hbn]; rfl, by rw [e]; exact m3, ?_⟩
    rintro z (⟨q, -⟩ | ⟨s', (⟨q, -⟩ | ⟨-, q, -⟩), -⟩)
    · exact absurd (hb3.symm.trans q) (by decide)
    · exact absurd (hb3.symm.trans q) (by decide)
    · exact absurd q m4
  rw [if_neg c23] at hb
  obtain ⟨rfl, rfl, rfl, rfl, rfl, rfl⟩ := o4 c1 (fun e => c23 (Or.inl e)) (fun e => c23 (Or.inr e))
  by_cases c7 : shp k = 7
  · rw [if_pos c7] at hb
    have hk21 : k = 21 := by
      rw [hsh] at c7
      repeat' split at c7
      all_goals omega
    subst hk21
    have hl := l1 c7
    obtain ⟨a, rfl⟩ : ∃ a, ar = [a] := by
      match ar, hl with
      | [a], _ => exact ⟨a, rfl⟩
    have hn1 : (ndsL [a]).length = (nds a).length := by simp [ndsL]
    have hw1 : (wrTs [a]).getD 0 [] = wrT a := by rw [wrTs]; rfl
    rw [hw1] at hb
    simp only [List.append_assoc] at hb
    obtain ⟨w1, w2, w3, w4⟩ := word_ok 21 (Or.inr rfl)
    have hb3 : bgn (rst T (beg s)) = 3 := by rw [hb.rst]; exact bgn_word w4 _
    have hnm := hb.nam w2 (stp_one (by decide)) w1
    have hs1 := At.mst [40] hb.ps
    have hs1n : (mst T [40] (ps (beg s) (kwI 21).2.length)).n = s.n + 1 := by rw [mst_n, ps_n, hbn]
    have G := ih a (by simp) (hkid a (by simp)) f _ ([41] ++ R) hs1 (stp_one (by decide)) (by rw [hs1n]; omega) (by rw [hs1n]; omega)
    have e : rulF PR T (f + 1) s = (.mk 21 0 [] [] 0 0 0 [(rulF PR T f (mst T [40] (ps (beg s) (kwI 21).2.length))).1], mst T [41] (rulF PR T f (mst T [40] (ps (beg s) (kwI 21).2.length))).2) := by
      rw [hEq, stp_3 hb3]
      unfold wrdF
      dsimp only
      rw [hnm]
      rfl
    refine ⟨by rw [e, G.tq], by rw [e]; show (mst T [41] _).n = _; rw [mst_n, G.nq, hs1n, hlen, hn1]; omega, by rw [e]; exact At.mst [41] G.rq, ?_⟩
    rintro z (⟨q, -⟩ | ⟨s', (⟨q, -⟩ | ⟨-, -, rfl⟩), hz⟩)
    · exact absurd (hb3.symm.trans q) (by decide)
    · exact absurd (hb3.symm.trans q) (by decide)
    · rw [hnm] at hz
      exact G.hq z hz
  · rw [if_neg c7] at hb
    have e456 : shp k = 4 ∨ shp k = 5 ∨ shp k = 6 := by
      have := kwI_le k
      omega
    have hk920 : 9 ≤ k ∧ k ≤ 20 := by
      rw [hsh] at e456
      repeat' split at e456
      all_goals omega
    have hl := l2 e456
    obtain ⟨a, b, rfl⟩ : ∃ a b, ar = [a, b] := by
      match ar, hl with
      | [a, b], _ => exact ⟨a, b, rfl⟩
    have hn2 : (ndsL [a, b]).length = (nds a).length + (nds b).length := by simp [ndsL]
    have hw1 : (wrTs [a, b]).getD 0 [] = wrT a := by rw [wrTs]; rfl
    have hw2 : (wrTs [a, b]).getD 1 [] = wrT b := by rw [wrTs, wrTs]; rfl
    rw [hw1, hw2] at hb
    simp only [List.append_assoc] at hb
    obtain ⟨w1, w2⟩ := sign_ok k hk920
    have hb1 : bgn (rst T (beg s)) = 1 := by rw [hb.rst]; rfl
    have hs1 := At.mst [40] hb
    have hs1n : (mst T [40] (beg s)).n = s.n + 1 := by rw [mst_n, hbn]
    have Ga := ih a (by simp) (hkid a (by simp)) f _ _ hs1 (stp_one (by decide)) (by rw [hs1n]; omega) (by rw [hs1n]; omega)
    have hs3 := At.mst [32] Ga.rq
    have hnm := hs3.nam w2 (stp_one (by decide)) w1
    have hs5 := At.mst [32] hs3.ps
    have hs5n : (mst T [32] (ps (mst T [32] (rulF PR T f (mst T [40] (beg s))).2) (kwI k).2.length)).n = s.n + 1 + (nds a).length := by rw [mst_n, ps_n, mst_n, Ga.nq, hs1n]
    have Gb := ih b (by simp) (hkid b (by simp)) f _ ([41] ++ R) hs5 (stp_one (by decide)) (by rw [hs5n]; omega) (by rw [hs5n]; omega)
    have e : rulF PR T (f + 1) s = (.mk (k.toNat : Nat) 0 [] [] 0 0 0 [(rulF PR T f (mst T [40] (beg s))).1, (rulF PR T f (mst T [32] (ps (mst T [32] (rulF PR T f (mst T [40] (beg s))).2) (kwI k).2.length))).1], mst T [41] (rulF PR T f (mst T [32] (ps (mst T [32] (rulF PR T f (mst T [40] (beg s))).2) (kwI k).2.length))).2) := by
      rw [hEq, stp_1 hb1]
      unfold twoF
      dsimp only
      rw [hnm]
    refine ⟨by rw [e, Ga.tq, Gb.tq, toNat_id (by omega)], by rw [e]; show (mst T [41] _).n = _; rw [mst_n, Gb.nq, hs5n, hlen, hn2]; omega, by rw [e]; exact At.mst [41] Gb.rq, ?_⟩
    rintro z (⟨q, -⟩ | ⟨s', (⟨-, rfl | rfl⟩ | ⟨q, -⟩), hz⟩)
    · exact absurd (hb1.symm.trans q) (by decide)
    · exact Ga.hq z hz
    · rw [hnm] at hz
      exact Gb.hq z hz
    · exact absurd (hb1.symm.trans q) (by decide)
/-- What is written is read again, whole. -/
theorem whole_back (PR : List UInt8 → Option Nat) (hPR : ∀ x, x < 18446744073709551616 → Re.finF x = true → PR (Rl.pText x) = some x) (t : RT) (hok : ∀ s ∈ nds t, okP s) (hn : (nds t).length ≤ 512) :
    (whlF PR (wrT t) ⟨0, 0, 0⟩).1 = t ∧ (whlF PR (wrT t) ⟨0, 0, 0⟩).2.e = 0 ∧ ∀ z, hitF PR (wrT t) 512 ⟨0, 0, 0⟩ z → ∃ x, x < 18446744073709551616 ∧ Re.finF x = true ∧ rowF isNm (wrT t) z = Rl.pText x := by
  have G := read_back PR hPR (wrT t) t hok 512 ⟨0, 0, 0⟩ [] ⟨rfl, by simp⟩ (fun c r h => by cases h) (by show 0 + _ ≤ 512; omega) (by decide)
  refine ⟨G.tq, ?_, G.hq⟩
  unfold whlF
  dsimp only
  rw [if_pos G.rq.rst]
  exact G.rq.e
end Go.Proofs.YtoaaijohmfaphaaGreatDoor.Ru
/- RULES: A RULE'S TEXT IS READ AGAIN. Own work of the verifier. -/
namespace Go.Proofs.YtoaaijohmfaphaaGreatDoor.Ru
open Go.RowKit Me

/-- A call answers one thing. -/
theorem call_one {P : Program} {f : FuncId} {args : Array Value} {w : World} {v v' : Value} (h : Calls P f args w fun e _ => e = .returned v) (h' : Calls P f args w fun e _ => e = .returned v') (hi : P.inits.idxOf? f = none) : v = v' := by
  obtain ⟨n, a, w1, h1, h2⟩ := Calls.done (R := fun x _ => x = v) (h.mono (by rintro e w' rfl; rfl)) hi
  obtain ⟨n', a', w1', h1', h2'⟩ := Calls.done (R := fun x _ => x = v') (h'.mono (by rintro e w' rfl; rfl)) hi
  subst h2 h2'
  have := runN_same_end h1 h1'
  injection this
/-- What reading floats wants of the world. -/
structure EnvF (W : World) : Prop where
  e : Env W
  p : Rl.P10F W
  g : 7 < W.heap.size
theorem EnvF.below {W W1 : World} (h : EnvF W) (hb : Below W.heap.size W W1) : EnvF W1 := ⟨h.e.below hb, h.p.below hb, Nat.lt_of_lt_of_le h.g hb.size⟩
theorem parse_fin {x : Nat} (hx : x < 18446744073709551616) (hf : Re.finF x = true) (w : World) (he : EnvF w) :
    Calls Tryz.prog 74 #[.string ⟨(Rl.pText x).toArray⟩] w fun e w' => e = .returned (.tuple #[.float .f64 x, .int .i64 0]) ∧ Below w.heap.size w w' :=
  (Rl.Parse_all x hx w he.e.gl he.p he.g).mono (by
    rintro e w' ⟨⟨u, rfl, h1, -⟩, hb⟩
    unfold Re.finF at hf
    have := of_decide_eq_true hf
    rw [h1 (by omega)]
    exact ⟨rfl, hb⟩)
theorem text_fin {x y : Nat} (hx : x < 18446744073709551616) (hf : Re.finF x = true) (hy : y < 18446744073709551616) (hg : Re.finF y = true) (w : World) (he : EnvF w) (h : Rl.pText x = Rl.pText y) : x = y := by
  have h1 := (parse_fin hx hf w he).mono (R' := fun e _ => e = .returned (.tuple #[.float .f64 x, .int .i64 0])) fun e w' k => k.1
  have h2 := (parse_fin hy hg w he).mono (R' := fun e _ => e = .returned (.tuple #[.float .f64 y, .int .i64 0])) fun e w' k => k.1
  rw [← h] at h2
  have := call_one h1 h2 (by kernel_rfl)
  simpa using this
open Classical in
/-- The finite float of a text. -/
noncomputable def prF (l : List UInt8) : Option Nat := if h : ∃ x, x < 18446744073709551616 ∧ Re.finF x = true ∧ Rl.pText x = l then some h.choose else none
theorem prF_text {x : Nat} (hx : x < 18446744073709551616) (hf : Re.finF x = true) (w : World) (he : EnvF w) : prF (Rl.pText x) = some x := by
  have h : ∃ y, y < 18446744073709551616 ∧ Re.finF y = true ∧ Rl.pText y = Rl.pText x := ⟨x, hx, hf, rfl⟩
  unfold prF
  rw [dif_pos h]
  obtain ⟨h1, h2, h3⟩ := h.choose_spec
  rw [text_fin h1 h2 hx hf w he h3]
/-- PARSE OF A TEXT THAT Print MADE. -/
theorem parse_back (t : RT) (w : World) (he : EnvF w) (hc : ckE t = 0) (hz : ∀ s ∈ nds t, szN s ∧ szI s) (hl : (wrT t).length ≤ 65536) :
    Calls Tryz.prog 9 #[.string ⟨(wrT t).toArray⟩] w fun e w' => (∃ v, e = .returned (.tuple #[v, .int .i64 0, .int .i64 0]) ∧ RV w.heap.size w' t v) ∧ Below w.heap.size w w' := by
  have hk : chkE t = 0 := by
    unfold ckE at hc
    by_cases q : chkE t = 0
    · exact q
    · rw [if_pos q] at hc; exact hc
  have hn : (nds t).length ≤ 512 := by
    unfold chkE at hk
    split at hk
    · exact absurd hk (by decide)
    · omega
  have hok : ∀ s ∈ nds t, okP s := fun s hs => ⟨chkE_zero hk s hs, hz s hs⟩
  obtain ⟨g1, g2, g3⟩ := whole_back prF (fun x hx hf => prF_text hx hf w he) t hok hn
  have q := parse_any prF (fun t => (ckE t).toNat) (wrT t) (by omega) w he.e (fun _ u hb z hz => by
    obtain ⟨x, hx, hf, hr⟩ := g3 z hz
    rw [hr]
    intro W hW
    refine (parse_fin hx hf W ((he.below hb).below hW)).mono ?_
    rintro e w' ⟨rfl, hb'⟩
    exact ⟨Or.inl ⟨x, prF_text hx hf w he, rfl⟩, hb'⟩) (fun _ _ => by
    rw [g1]
    exact ckAt_of t w (fun s hs => (hz s hs).1) he.e.kd)
  refine q.mono ?_
  rintro e w' ⟨hq, hb⟩
  refine ⟨?_, hb⟩
  unfold PsQ at hq
  rw [g1] at hq
  rcases hq with ⟨z, a, hz0, rfl, ⟨h1, -, -⟩ | ⟨-, h1, -⟩ | ⟨-, -, h1, -⟩⟩ | ⟨-, -, -, v, rfl, hv⟩
  · omega
  · exact absurd (h1.trans g2) hz0
  · have h1' : z = (ckE t).toNat := h1
    rw [hc] at h1'
    exact absurd h1' hz0
  · exact ⟨v, rfl, hv⟩
end Go.Proofs.YtoaaijohmfaphaaGreatDoor.Ru
/- RULES: Print; Eval of a number. Own work of the verifier. -/
namespace Go.Proofs.YtoaaijohmfaphaaGreatDoor.Ru
open Go.RowKit Go.Sort Me

theorem own_len {W : World} {B n : Nat} {v : Value} {xs : List Value} (h : W.ownsRowF B 5 1 v n xs) : ∃ ao cap, v = .slice ao n cap := by
  obtain ⟨-, h⟩ := h
  rcases h with ⟨rfl, rfl⟩ | ⟨g, cap, cur, fz, rfl, -⟩
  · exact ⟨_, _, rfl⟩
  · exact ⟨_, _, rfl⟩
theorem bs_buf {B k : Nat} {w0 W : World} {l : List UInt8} (h : La.BS B k w0 l W) : ∃ ao cap, W.cell? ⟨k, 1, none⟩ = some (.slice ao l.length cap) := by
  have key : ∀ p, Lib.BuilderAtF 54 5 B k p (Lib.byteCells l) W → ∃ ao cap, W.cell? ⟨k, 1, none⟩ = some (.slice ao l.length cap) := fun p h => by
    obtain ⟨-, v, hv, hown, -⟩ := h
    rw [Lib.byteCells_length] at hown
    obtain ⟨ao, cap, rfl⟩ := own_len hown
    exact ⟨ao, cap, by simp [World.cell?, hv]⟩
  exact h.ib.elim (key _) (key _)
set_option maxHeartbeats 1000000 in
theorem blen_any {B k : Nat} {w0 W : World} {l : List UInt8} (h : La.BS B k w0 l W) :
    Calls Tryz.prog 18 #[.pointer (some ⟨k, 0, none⟩)] W fun e w' => e = .returned (.int .i64 (l.length : Int)) ∧ w' = W := by
  obtain ⟨ao, cap, hc⟩ := bs_buf h
  clear h
  go_enter Tryz.func18, Tryz.ntmps18
  go_wp2_with fail
  go_ret
  exact ⟨rfl, rfl⟩
def PnQ (t : RT) (e : Ending) : Prop :=
  (ckE t ≠ 0 ∧ e = .returned (.tuple #[.string ⟨#[]⟩, .int .i64 (ckE t)])) ∨
  (ckE t = 0 ∧ 65536 < (wrT t).length ∧ e = .returned (.tuple #[.string ⟨#[]⟩, .int .i64 4])) ∨
  (ckE t = 0 ∧ (wrT t).length ≤ 65536 ∧ e = .returned (.tuple #[.string ⟨(wrT t).toArray⟩, .int .i64 0]))
set_option maxHeartbeats 2000000 in
set_option maxRecDepth 100000 in
theorem rprint_any (t : RT) (v : Value) (w : World) (hv : RV 0 w t v) (hz : ∀ s ∈ nds t, szN s ∧ szI s) (hT : ckE t = 0 → (wrT t).length ≤ 140737488355328) (he : Env w) :
    Calls Tryz.prog 8 #[v] w fun e w' => PnQ t e ∧ Below w.heap.size w w' := by
  have HC : Hid (∀ W, Below w.heap.size w W → Calls Tryz.prog 7 #[v] W fun e w' => e = .returned (.int .i64 (ckE t)) ∧ Below W.heap.size W w') := fun W hb => check_any t v W (hv.below hb) (fun s hs => (hz s hs).1) (he.kd.below hb)
  have HWr : Hid (ckE t = 0 → ∀ W, Below w.heap.size w W → Calls Tryz.prog 17 #[.pointer (some ⟨W.heap.size, 0, none⟩), v] (W.alloc (.cells #[.pointer none, .slice none 0 0] 54)) fun e w' => e = .returned (.tuple #[]) ∧ La.BS W.heap.size W.heap.size W (wrT t) w') := fun h0 W hb => by
    have hc : chkE t = 0 := by
      unfold ckE at h0
      by_cases q : chkE t ≠ 0
      · rw [if_pos q] at h0; exact absurd h0 q
      · exact Classical.not_not.1 q
    have := write_any W (he.below hb) W.heap.size t v W (W.alloc (.cells #[.pointer none, .slice none 0 0] 54)) [] (hv.below hb) (fun s hs => ⟨chkE_zero hc s hs, (hz s hs).1, (hz s hs).2⟩) (bel1 _ _) (La.BS.new W) (by simpa using hT h0)
    simpa using this
  obtain ⟨k, x, nm, la, ln, lc, wi, n, d, aa, an, ac, rfl⟩ := hv.form
  have HQ1 : Hid (ckE t ≠ 0 → PnQ t (.returned (.tuple #[.string ⟨#[]⟩, .int .i64 (ckE t)]))) := fun h => Or.inl ⟨h, rfl⟩
  have HQ2 : Hid (ckE t = 0 → 65536 < (wrT t).length → PnQ t (.returned (.tuple #[.string ⟨#[]⟩, .int .i64 4]))) := fun h g => Or.inr (Or.inl ⟨h, g, rfl⟩)
  have HQ3 : Hid (ckE t = 0 → (wrT t).length ≤ 65536 → PnQ t (.returned (.tuple #[.string ⟨(wrT t).toArray⟩, .int .i64 0]))) := fun h g => Or.inr (Or.inr ⟨h, g, rfl⟩)
  clear hv hz he hT
  generalize wrT t = T at *
  generalize ckE t = z at *
  generalize PnQ t = Q at *
  go_enter Tryz.func8, Tryz.ntmps8
  have hb0 := bel1 w (.cells (rc k x nm (.slice la ln lc) wi n d (.slice aa an ac)) 26)
  have hn0 := new_1 w (.cells (rc k x nm (.slice la ln lc) wi n d (.slice aa an ac)) 26)
  go_wp2_with fail
  refine Calls.mono (HC.out _ hb0) ?_
  rintro e w1 ⟨rfl, hb1⟩
  have hn1 := (hb1.block w.heap.size (by simp)).trans hn0
  have HB1 := hid_of (bt hb0 hb1)
  obtain ⟨y0, y1, y2, y3, y4, y5, y6, y7⟩ := eight hn1
  clear hb0 hn0 hb1 HC
  by_cases hz : z = 0
  · have HWr0 := hid_of (HWr.out hz w1 HB1.out)
    have HQ2' := hid_of (HQ2.out hz)
    have HQ3' := hid_of (HQ3.out hz)
    subst hz
    clear HWr HQ1 HQ2 HQ3
    have hn2 := ((bel1 w1 (.cells #[.pointer none, .slice none 0 0] 54)).block w.heap.size (Array.getElem?_eq_some_iff.1 hn1).1).trans hn1
    clear y0 y1 y2 y3 y4 y5 y6 y7 hn1
    obtain ⟨y0, y1, y2, y3, y4, y5, y6, y7⟩ := eight hn2
    clear hn2
    go_wp2_with fail
    refine Calls.mono HWr0.out ?_
    rintro e w2 ⟨rfl, hs2⟩
    have HS2 := hid_of hs2
    have D : La.HidC _ _ _ _ _ := blen_any hs2
    have HB2 : Hid (Below w.heap.size w w2) := HB1.out.trans (hs2.bl.mono (by have := HB1.out.size; omega))
    clear HWr0 hs2 y0 y1 y2 y3 y4 y5 y6 y7
    go_wp2_with fail
    refine Calls.mono D.out ?_
    rintro e w3 ⟨rfl, rfl⟩
    by_cases hl : T.length ≤ 65536
    · have hl' : ¬ (65536 : Int) < (T.length : Int) := by omega
      have D2 : La.HidC _ _ _ _ _ := La.bstr_any HS2.out
      have HE := hid_of (HQ3'.out hl)
      have HSz := hid_of HS2.out.sz
      have HB1' := hid_of HB1.out.size
      clear D HQ2' HQ3' hl HS2
      go_wp2_with fail
      refine Calls.mono D2.out ?_
      rintro e w4 ⟨rfl, hs4⟩
      have HB4 : Hid (Below w.heap.size w w4) := HB1.out.trans (hs4.bl.mono HB1'.out)
      clear D2 hs4
      go_wp2_with fail
      go_ret2
      exact ⟨HE.out, HB4.out⟩
    · have hl' : (65536 : Int) < (T.length : Int) := by omega
      have HE := hid_of (HQ2'.out (by omega))
      clear D HQ2' HQ3' hl HS2
      go_wp2_with fail
      go_ret2
      exact ⟨HE.out, HB2.out⟩
  · have hz' : (z == 0) = false := beq_eq_false_iff_ne.2 hz
    have HN0 := hid_of (HQ1.out hz)
    clear HWr HQ1 HQ2 HQ3
    go_wp2_with fail
    go_ret2
    exact ⟨HN0.out, HB1.out⟩
def put3 (W : World) (g : Nat) (a0 a1 a2 : Value) : World := ((W.setCell ⟨g, 0, none⟩ a0).setCell ⟨g, 1, none⟩ a1).setCell ⟨g, 2, none⟩ a2
theorem put3_heap {W : World} {g : Nat} {z0 z1 z2 : Value} {t : TypeId} (h : W.heap[g]? = some (.cells #[z0, z1, z2] t)) (a0 a1 a2 : Value) : (put3 W g a0 a1 a2).heap[g]? = some (.cells #[a0, a1, a2] t) := by
  have h0 := Lib.heap_setCell_same (i := 0) h a0
  have h1 := Lib.heap_setCell_same (i := 1) h0 a1
  have h2 := Lib.heap_setCell_same (i := 2) h1 a2
  unfold put3
  rw [h2]
  simp
theorem put3_bel {w W : World} {g : Nat} (h : Below w.heap.size w W) (hg : w.heap.size ≤ g) (a0 a1 a2 : Value) : Below w.heap.size w (put3 W g a0 a1 a2) :=
  ((h.setCell (p := ⟨g, 0, none⟩) hg _).setCell (p := ⟨g, 1, none⟩) hg _).setCell (p := ⟨g, 2, none⟩) hg _
theorem three {W : World} {g : Nat} {x y z : Value} {t : TypeId} (h : W.heap[g]? = some (.cells #[x, y, z] t)) : (W.cell? ⟨g, 0, none⟩ = some x ∧ W.cell? ⟨g, 1, none⟩ = some y ∧ W.cell? ⟨g, 2, none⟩ = some z) ∧ ∀ i, W.frozen? ⟨g, i, none⟩ = false := by
  refine ⟨⟨?_, ?_, ?_⟩, fun i => ?_⟩ <;> simp [World.cell?, World.frozen?, h]
theorem results_ct {P : Program} {fn : Func} {p a : Tmp} {ty : TypeId} (h : fn.results = #[.cell p ty, .tmp a]) (tmps : Array Value) (w : World) (g : Nat) (t : TypeId) (cs : Array Value) (fr : Nat × Nat) (d : TypeDesc)
    (hp : tmps.getD p undef = .pointer (some ⟨g, 0, none⟩)) (hg : w.heap[g]? = some (.cells cs t fr))
    (hu : P.underlying ty = some d) (hd : (match d with | .struct _ | .array _ _ => true | _ => false) = true) (hi : (P.info? ty).map (·.size) = some cs.size) :
    (results fn tmps).run P w = .ok (.tuple #[.agg cs, tmps.getD a undef]) w := by
  have hp' : tmps[p]?.getD undef = .pointer (some ⟨g, 0, none⟩) := by simpa using hp
  simp [results, h, hp', asAddr, run_loadVar_row w g t ty cs fr d hg hu hd hi, Result.andThen]
set_option maxHeartbeats 1000000 in
theorem num_any (x : Nat) (W : World) : Calls Tryz.prog 230 #[.float .f64 x] W fun e w' => e = .returned (.agg #[.bool false, .bool false, .float .f64 x]) ∧ Below W.heap.size W w' := by
  have sF := store_f
  go_enter Tryz.func230, Tryz.ntmps230
  go_wp2_with fail
  refine bodyPost_ret (results_cell_row (P := Tryz.prog) rfl _ _ W.heap.size 43 _ (0, 0) _ rfl (new_1 W _) Tryz.underlying43 rfl (by kernel_rfl)) rfl ?_
  exact ⟨rfl, bel1 _ _⟩
set_option maxHeartbeats 1000000 in
theorem work_const (x : Nat) (p : Option Addr) (z : Int) (w : World) : Calls Tryz.prog 229 #[.float .f64 x, .agg #[.pointer p, .int .i64 z]] w fun e w' => e = .returned (.tuple #[.agg #[.bool false, .bool false, .float .f64 x], .int .i64 0]) ∧ Below w.heap.size w w' := by
  have sF := store_f
  have HN : Hid (∀ W : World, Calls Tryz.prog 230 #[.float .f64 x] W fun e w' => e = .returned (.agg #[.bool false, .bool false, .float .f64 x]) ∧ Below W.heap.size W w') := fun W => num_any x W
  obtain ⟨W0, hW0⟩ : ∃ W0, W0 = (w.alloc (.cells #[.pointer p, .int .i64 z] 73)).alloc (.cells #[.bool false, .bool false, .float .f64 0] 43) := ⟨_, rfl⟩
  have hb0 : Below w.heap.size w W0 := by rw [hW0]; exact La.bel2 w _ _
  have hn0 : W0.heap[w.heap.size + 1]? = some (.cells #[.bool false, .bool false, .float .f64 0] 43) := by
    rw [hW0]
    have := new_1 (w.alloc (.cells #[.pointer p, .int .i64 z] 73)) (.cells #[.bool false, .bool false, .float .f64 0] 43)
    simpa using this
  have HW0 := hid_of hW0
  clear hW0
  go_enter Tryz.func229, Tryz.ntmps229
  go_upto_region 1 with fail
  rw [← HW0.out]
  go_wp2_with fail
  refine Calls.mono (HN.out W0) ?_
  rintro e w1 ⟨rfl, hb1⟩
  have hn1 := (hb1.block _ (Array.getElem?_eq_some_iff.1 hn0).1).trans hn0
  have hb := bt hb0 hb1
  obtain ⟨⟨z0, z1, z2⟩, zf⟩ := three hn1
  obtain ⟨W9, hW9⟩ : ∃ W9, W9 = put3 w1 (w.heap.size + 1) (.bool false) (.bool false) (.float .f64 x) := ⟨_, rfl⟩
  have HW9 := hid_of hW9
  have HH : Hid (W9.heap[w.heap.size + 1]? = some (.cells #[.bool false, .bool false, .float .f64 x] 43)) := by show _ = _; rw [hW9]; exact put3_heap hn1 _ _ _
  have HB : Hid (Below w.heap.size w W9) := by show Below _ _ _; rw [hW9]; exact put3_bel hb (by omega) _ _ _
  clear hW9 hn1 hb hn0 hb0 hb1 HN HW0
  go_wp2_with fail
  obtain rfl := HW9.out
  refine bodyPost_ret (results_ct rfl _ _ (w.heap.size + 1) 43 _ (0, 0) _ rfl HH.out Tryz.underlying43 rfl (by kernel_rfl)) rfl ?_
  exact ⟨rfl, HB.out⟩
abbrev numR (x : Nat) : RT := .mk 1 x [] [] 0 0 0 []
theorem ck_num : ckE (numR 4611686018427387904) = 0 := by decide +kernel
set_option maxHeartbeats 2000000 in
set_option maxRecDepth 100000 in
theorem eval_two (r : Value) (hr : ∃ p, r = .pointer p) (w : World) (h : Kd w) :
    Calls Tryz.prog 14 #[r, .int .i64 0, rx 1 4611686018427387904 [] (.slice none 0 0) 0 0 0 (.slice none 0 0)] w fun e w' => e = .returned (.tuple #[.agg #[.bool false, .bool false, .float .f64 4611686018427387904], .int .i64 0]) ∧ Below w.heap.size w w' := by
  obtain ⟨p, rfl⟩ := hr
  have sF := store_f
  have HM : Hid (∀ W, Below w.heap.size w W → Calls Tryz.prog 16 #[rx 1 4611686018427387904 [] (.slice none 0 0) 0 0 0 (.slice none 0 0)] W fun e w' => e = .returned (.tuple #[.iface 99 (.float .f64 4611686018427387904), .int .i64 0]) ∧ Below W.heap.size W w') := fun W hb => (made_any (numR 4611686018427387904) _ W (RV.num 0 W _) (fun s hs => by
      have : s = numR 4611686018427387904 := by simpa [nds, ndsL] using hs
      subst this
      exact ⟨by decide, by decide, by decide, fun a ha => by cases ha⟩) (h.below hb)).mono (by
    rintro e w1 ⟨⟨hk, q, h1, h2⟩ | ⟨hk, h1⟩, hb1⟩
    · obtain rfl := h2 (by decide)
      exact ⟨h1, hb1⟩
    · exact absurd ck_num hk)
  have HWk : Hid (∀ W, Calls Tryz.prog 229 #[.float .f64 4611686018427387904, .agg #[.pointer p, .int .i64 0]] W fun e w' => e = .returned (.tuple #[.agg #[.bool false, .bool false, .float .f64 4611686018427387904], .int .i64 0]) ∧ Below W.heap.size W w') := fun W => work_const _ p 0 W
  obtain ⟨W0, hW0⟩ : ∃ W0, W0 = (w.alloc (.cells (rc 1 4611686018427387904 [] (.slice none 0 0) 0 0 0 (.slice none 0 0)) 26)).alloc (.cells #[.bool false, .bool false, .float .f64 0] 43) := ⟨_, rfl⟩
  have hb0 : Below w.heap.size w W0 := by rw [hW0]; exact La.bel2 w _ _
  have hn0 : W0.heap[w.heap.size + 1]? = some (.cells #[.bool false, .bool false, .float .f64 0] 43) := by
    rw [hW0]
    have := new_1 (w.alloc (.cells (rc 1 4611686018427387904 [] (.slice none 0 0) 0 0 0 (.slice none 0 0)) 26)) (.cells #[.bool false, .bool false, .float .f64 0] 43)
    simpa using this
  have hr0 : W0.heap[w.heap.size]? = some (.cells (rc 1 4611686018427387904 [] (.slice none 0 0) 0 0 0 (.slice none 0 0)) 26) := by
    rw [hW0]
    exact ((bel1 _ _).block _ (by simp)).trans (new_1 w _)
  obtain ⟨y0, y1, y2, y3, y4, y5, y6, y7⟩ := eight hr0
  have HW0 := hid_of hW0
  clear hW0 h hr0
  go_enter Tryz.func14, Tryz.ntmps14
  go_upto_region 1 with fail
  rw [← HW0.out]
  go_wp2_with fail
  refine Calls.mono (HM.out W0 hb0) ?_
  rintro e w1 ⟨rfl, hb1⟩
  have hn1 := (hb1.block _ (Array.getElem?_eq_some_iff.1 hn0).1).trans hn0
  have hb := bt hb0 hb1
  have HN1 := hid_of hn1
  have HB1 := hid_of hb
  clear HM hn0 hb0 hb1 hn1 hb HW0 y0 y1 y2 y3 y4 y5 y6 y7
  go_wp2_with fail
  refine Calls.mono (HWk.out _) ?_
  rintro e w2 ⟨rfl, hb2⟩
  have hn2 := (hb2.block _ (Array.getElem?_eq_some_iff.1 HN1.out).1).trans HN1.out
  have hb := bt HB1.out hb2
  obtain ⟨⟨z0, z1, z2⟩, zf⟩ := three hn2
  obtain ⟨W9, hW9⟩ : ∃ W9, W9 = put3 w2 (w.heap.size + 1) (.bool false) (.bool false) (.float .f64 4611686018427387904) := ⟨_, rfl⟩
  have HW9 := hid_of hW9
  have HH : Hid (W9.heap[w.heap.size + 1]? = some (.cells #[.bool false, .bool false, .float .f64 4611686018427387904] 43)) := by show _ = _; rw [hW9]; exact put3_heap hn2 _ _ _
  have HB : Hid (Below w.heap.size w W9) := by show Below _ _ _; rw [hW9]; exact put3_bel hb (by omega) _ _ _
  clear hW9 hn2 hb hb2 HN1 HB1 HWk
  go_wp2_with fail
  obtain rfl := HW9.out
  refine bodyPost_ret (results_ct rfl _ _ (w.heap.size + 1) 43 _ (0, 0) _ rfl HH.out Tryz.underlying43 rfl (by kernel_rfl)) rfl ?_
  exact ⟨rfl, HB.out⟩
end Go.Proofs.YtoaaijohmfaphaaGreatDoor.Ru
