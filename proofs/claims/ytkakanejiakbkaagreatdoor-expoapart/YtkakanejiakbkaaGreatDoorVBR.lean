/- WHAT A TEXT IS WORTH. Own work of the verifier. -/
import Derived.Test.YtkakanejiakbkaaGreatDoorVBQ
import Derived.Test.YtkakanejiakbkaaGreatDoorVBK
import Derived.Test.YtkakanejiakbkaaGreatDoorVBO
namespace Go.Proofs.YtkakanejiakbkaaGreatDoor.Rl
open Go.RowKit

def isD (c : UInt8) : Bool := decide (48 ≤ c.toNat ∧ c.toNat ≤ 57)
/-- The digits of a text. -/
def dg' (l : List UInt8) : List UInt8 := l.filter isD
/-- The number that digits tell, behind a number. -/
def nx (n : Nat) (c : UInt8) : Nat := n * 10 + (c.toNat - 48)
def dvA (n : Nat) (l : List UInt8) : Nat := l.foldl nx n
theorem dvA_nil (n : Nat) : dvA n [] = n := by unfold dvA; rw [List.foldl_nil]
theorem dvA_cons (n : Nat) (c : UInt8) (l : List UInt8) : dvA n (c :: l) = dvA (nx n c) l := by unfold dvA; rw [List.foldl_cons]
theorem dvA_append (n : Nat) (a b : List UInt8) : dvA n (a ++ b) = dvA (dvA n a) b := List.foldl_append
theorem dvA_zeros (n m : Nat) : dvA n (List.replicate m 48) = n * 10 ^ m := by
  induction m generalizing n with
  | zero => rw [List.replicate_zero, dvA_nil, Nat.pow_zero, Nat.mul_one]
  | succ m ih =>
    rw [List.replicate_succ, dvA_cons, ih]
    unfold nx
    rw [show (48 : UInt8).toNat - 48 = 0 from by decide, Nat.add_zero, Nat.pow_succ, Nat.mul_assoc, Nat.mul_comm 10]
theorem dig_val (d : Nat) (h : d < 10) : (UInt8.ofNat (48 + d)).toNat - 48 = d ∧ isD (UInt8.ofNat (48 + d)) = true := by
  have : (UInt8.ofNat (48 + d)).toNat = 48 + d := by rw [UInt8.toNat_ofNat']; omega
  unfold isD
  rw [this]
  exact ⟨by omega, decide_eq_true (by omega)⟩
theorem dec_val (u : Nat) : dvA 0 (Lib.decDigits u) = u ∧ ∀ c ∈ Lib.decDigits u, isD c = true := by
  induction u using Nat.strongRecOn with
  | _ u ih =>
    rw [Lib.decDigits]
    by_cases h : u < 10
    · rw [dif_pos h]
      have := dig_val u h
      exact ⟨by rw [dvA_cons, dvA_nil]; unfold nx; omega, fun c hc => by rw [List.mem_singleton.1 hc]; exact this.2⟩
    · rw [dif_neg h]
      have k := ih (u / 10) (by omega)
      have := dig_val (u % 10) (by omega)
      refine ⟨?_, fun c hc => ?_⟩
      · rw [dvA_append, k.1, dvA_cons, dvA_nil]; unfold nx; omega
      · rcases List.mem_append.1 hc with e | e
        · exact k.2 c e
        · rw [List.mem_singleton.1 e]; exact this.2
/-- Ahead of the exponent, and behind it. -/
def pre (l : List UInt8) : List UInt8 := l.takeWhile (fun c => c != 101)
def post (l : List UInt8) : List UInt8 := (l.dropWhile (fun c => c != 101)).drop 1
/-- How many bytes stand behind the point. -/
def fr (l : List UInt8) : Nat := (l.dropWhile (fun c => c != 46)).length - 1
/-- The number of an exponent. -/
def xv : List UInt8 → Int
  | [] => 0
  | c :: l => if c = 45 then -(dvA 0 l : Int) else (dvA 0 (c :: l) : Int)
/-- What a text is worth, in units of 10^-400. -/
def wt (l : List UInt8) : Nat := dvA 0 (dg' (pre l)) * 10 ^ (xv (post l) - (fr (pre l) : Int) + 400).toNat
theorem xv_itoa (z : Int) (h0 : -400 ≤ z) (h1 : z ≤ 400) : xv (Lib.itoa z) = z := by
  rcases Int.lt_or_le z 0 with c | c
  · obtain ⟨u, rfl⟩ : ∃ u : Nat, z = -(u : Int) := ⟨z.natAbs, by omega⟩
    rw [Lib.itoa_neg u (by omega)]
    show (if (45 : UInt8) = 45 then -(dvA 0 (Lib.decDigits u) : Int) else (dvA 0 (45 :: Lib.decDigits u) : Int)) = _
    rw [if_pos rfl, (dec_val u).1]
  · obtain ⟨u, rfl⟩ := Int.eq_ofNat_of_zero_le c
    rw [Lib.itoa_nonneg u]
    have hd := dec_val u
    cases hL : Lib.decDigits u with
    | nil =>
      have := Lib.decDigits_length u
      have := Lib.nDigits_pos u
      rw [hL] at *
      simp at *
      omega
    | cons c l =>
      rw [hL] at hd
      have hc := hd.2 c (by simp)
      show (if c = 45 then -(dvA 0 l : Int) else (dvA 0 (c :: l) : Int)) = _
      rw [if_neg (fun e => by subst e; exact absurd hc (by decide)), hd.1]
theorem pre_e {a b : List UInt8} (h : ∀ c ∈ a, c ≠ 101) : pre (a ++ 101 :: b) = a ∧ post (a ++ 101 :: b) = b := by
  have h' : ∀ c ∈ a, (fun c : UInt8 => c != 101) c = true := fun c hc => bne_iff_ne.2 (h c hc)
  unfold pre post
  rw [List.takeWhile_append_of_pos h', List.dropWhile_append_of_pos h']
  simp
theorem pre_no {a : List UInt8} (h : ∀ c ∈ a, c ≠ 101) : pre a = a ∧ post a = [] := by
  have h' : ∀ c ∈ a, (fun c : UInt8 => c != 101) c = true := fun c hc => bne_iff_ne.2 (h c hc)
  have e1 := List.takeWhile_append_of_pos h' (l₂ := [])
  have e2 := List.dropWhile_append_of_pos h' (l₂ := [])
  unfold pre post
  simp at e1 e2
  rw [e1, e2]
  simp
theorem fr_pt {a b : List UInt8} (h : ∀ c ∈ a, c ≠ 46) : fr (a ++ 46 :: b) = b.length := by
  have h' : ∀ c ∈ a, (fun c : UInt8 => c != 46) c = true := fun c hc => bne_iff_ne.2 (h c hc)
  unfold fr
  rw [List.dropWhile_append_of_pos h']
  simp
theorem fr_no {a : List UInt8} (h : ∀ c ∈ a, c ≠ 46) : fr a = 0 := by
  have h' : ∀ c ∈ a, (fun c : UInt8 => c != 46) c = true := fun c hc => bne_iff_ne.2 (h c hc)
  have e2 := List.dropWhile_append_of_pos h' (l₂ := [])
  unfold fr
  simp at e2
  rw [e2]
  simp
theorem isD_ne {c : UInt8} (h : isD c = true) : c ≠ 101 ∧ c ≠ 46 ∧ c ≠ 45 := by
  refine ⟨?_, ?_, ?_⟩ <;> (rintro rfl; exact absurd h (by decide))
theorem dg_app (a b : List UInt8) : dg' (a ++ b) = dg' a ++ dg' b := List.filter_append _ _
theorem dg_all {a : List UInt8} (h : ∀ c ∈ a, isD c = true) : dg' a = a := List.filter_eq_self.2 h
theorem dg_sgn (n : Bool) : dg' (sgn n) = [] := by cases n <;> decide
theorem sgn_ne (n : Bool) : ∀ c ∈ sgn n, c ≠ 101 ∧ c ≠ 46 := by cases n <;> decide
theorem zeros_d (m : Nat) : ∀ c ∈ List.replicate m (48 : UInt8), isD c = true := fun c hc => by rw [(List.mem_replicate.1 hc).2]; decide
end Go.Proofs.YtkakanejiakbkaaGreatDoor.Rl
/- THE SHAPE of a float's text. Own work of the verifier. -/
namespace Go.Proofs.YtkakanejiakbkaaGreatDoor.Rl
open Go.RowKit

theorem trim_ex (l : List UInt8) : ∀ m, m ≤ l.length → ∃ k, k ≤ m ∧ (∀ j (h : j < l.length), k ≤ j → j < m → l[j] = 48) ∧ (k = 0 ∨ ∃ h : k - 1 < l.length, l[k - 1] ≠ 48)
  | 0, _ => ⟨0, Nat.le_refl _, fun j _ _ h => by omega, Or.inl rfl⟩
  | m + 1, hm => by
    by_cases h : l[m]'(by omega) = 48
    · obtain ⟨k, h1, h2, h3⟩ := trim_ex l m (by omega)
      refine ⟨k, by omega, fun j hj hk hjm => ?_, h3⟩
      by_cases e : j = m
      · subst e; exact h
      · exact h2 j hj hk (by omega)
    · exact ⟨m + 1, Nat.le_refl _, fun j _ hk hjm => by omega, Or.inr ⟨by omega, h⟩⟩
theorem trim_is (u : Nat) : Trim u (trimLen u) := by
  obtain ⟨k, h1, h2, h3⟩ := trim_ex (Lib.decDigits u) _ (Nat.le_refl _)
  have hT : Trim u k := ⟨by rw [← Lib.decDigits_length]; exact h1, fun j h hk => h2 j h hk h, h3⟩
  rw [← trim_len hT]
  exact hT
theorem n_le {k u : Nat} (hk : 1 ≤ k) (h : u < 10 ^ k) : Lib.nDigits u ≤ k := by
  rcases Nat.lt_or_ge k (Lib.nDigits u) with c | c
  · have := le_of_lt_nDigits k u hk c; omega
  · exact c
/-- The digits of a float's text. -/
noncomputable def tD (u : Nat) : List UInt8 := (Lib.decDigits u).take (trimLen u)
theorem tD_split (u : Nat) : Lib.decDigits u = tD u ++ List.replicate (Lib.nDigits u - trimLen u) 48 := by
  obtain ⟨h1, h2, h3⟩ := trim_is u
  have hl := Lib.decDigits_length u
  unfold tD
  apply List.ext_getElem
  · rw [List.length_append, List.length_take, List.length_replicate]; omega
  · intro j ha hb
    by_cases c : j < trimLen u
    · rw [List.getElem_append_left (by rw [List.length_take]; omega), List.getElem_take]
    · rw [List.getElem_append_right (by rw [List.length_take]; omega), List.getElem_replicate]
      exact h2 j ha (by omega)
theorem tD_facts (u : Nat) (hu : 1 ≤ u) : (tD u).length = trimLen u ∧ 1 ≤ trimLen u ∧ trimLen u ≤ Lib.nDigits u ∧ (∀ c ∈ tD u, isD c = true) ∧ dvA 0 (tD u) * 10 ^ (Lib.nDigits u - trimLen u) = u := by
  have ht := trim_is u
  have hl := Lib.decDigits_length u
  refine ⟨by unfold tD; rw [List.length_take]; have := ht.1; omega, trim_pos hu ht, ht.1, fun c hc => (dec_val u).2 c (List.mem_of_mem_take hc), ?_⟩
  have h := (dec_val u).1
  rw [tD_split u, dvA_append, dvA_zeros] at h
  exact h
theorem getD_tD (u : Nat) (hu : 1 ≤ u) : tD u = (Lib.decDigits u).getD 0 0 :: (tD u).drop 1 := by
  obtain ⟨h1, h2, _, _, _⟩ := tD_facts u hu
  have hs := tD_split u
  cases hT : tD u with
  | nil => rw [hT] at h1; simp at h1; omega
  | cons c l =>
    rw [hT] at hs
    rw [hs]
    simp
/-- What is known of a text. -/
structure Shape (l : List UInt8) (u : Nat) (dp : Int) : Prop where
  ex : ∃ a c : Nat, dg' (pre l) = List.replicate a 48 ++ tD u ++ List.replicate c 48 ∧ xv (post l) - (fr (pre l) : Int) = dp - (trimLen u : Int) - (c : Int) ∧ (c = 0 ∨ dp - (trimLen u : Int) - (c : Int) = 0)
  len : l.length ≤ 25
theorem f_ne {n : Bool} {l : List UInt8} (h : ∀ c ∈ l, isD c = true) : (∀ c ∈ sgn n ++ l, c ≠ 101) ∧ (∀ c ∈ sgn n ++ l, c ≠ 46) := by
  refine ⟨fun c hc => ?_, fun c hc => ?_⟩ <;> rcases List.mem_append.1 hc with e | e
  · exact (sgn_ne n c e).1
  · exact (isD_ne (h c e)).1
  · exact (sgn_ne n c e).2
  · exact (isD_ne (h c e)).2.1
theorem sgn_len (n : Bool) : (sgn n).length ≤ 1 := by cases n <;> decide
theorem shape_e (n : Bool) (u : Nat) (dp : Int) (hu : 1 ≤ u) (h17 : trimLen u ≤ 17) (h0 : -390 ≤ dp) (h1 : dp ≤ 390) : Shape (eHead n u (trimLen u) ++ 101 :: Lib.itoa (dp - 1)) u dp := by
  obtain ⟨t1, t2, t3, t4, t5⟩ := tD_facts u hu
  have tg := getD_tD u hu
  have hlen : (Lib.itoa (dp - 1)).length ≤ 4 := by
    unfold Lib.itoa
    split
    · rw [List.length_cons, Lib.decDigits_length]
      have := n_le (k := 3) (u := (dp - 1).natAbs) (by decide) (by omega)
      omega
    · rw [Lib.decDigits_length]
      have := n_le (k := 3) (u := (dp - 1).toNat) (by decide) (by omega)
      omega
  have hx := xv_itoa (dp - 1) (by omega) (by omega)
  have hsl := sgn_len n
  have key : ∃ H : List UInt8, eHead n u (trimLen u) = H ∧ (∀ c ∈ H, c ≠ 101) ∧ dg' H = tD u ∧ fr H + 1 = trimLen u ∧ H.length ≤ 19 := by
    unfold eHead
    by_cases k1 : trimLen u = 1
    · rw [if_pos k1]
      have e : tD u = [(Lib.decDigits u).getD 0 0] := by
        rw [tg]
        congr 1
        exact List.eq_nil_of_length_eq_zero (by rw [List.length_drop, t1, k1])
      rw [← e]
      obtain ⟨f1, f2⟩ := f_ne (n := n) t4
      refine ⟨_, rfl, f1, ?_, ?_, ?_⟩
      · rw [dg_app, dg_sgn, dg_all t4]; rfl
      · rw [fr_no f2, k1]
      · rw [List.length_append, t1]; omega
    · rw [if_neg k1]
      have hd : ∀ c ∈ (tD u).drop 1, isD c = true := fun c hc => t4 c (List.mem_of_mem_drop hc)
      have hh : ∀ c ∈ [(Lib.decDigits u).getD 0 0], isD c = true := fun c hc => t4 c (by rw [tg]; rw [List.mem_singleton.1 hc]; simp)
      obtain ⟨f1, f2⟩ := f_ne (n := n) hh
      have e : sgn n ++ [(Lib.decDigits u).getD 0 0, 46] ++ ((Lib.decDigits u).take (trimLen u)).drop 1 = (sgn n ++ [(Lib.decDigits u).getD 0 0]) ++ 46 :: (tD u).drop 1 := by
        unfold tD; simp
      rw [e]
      refine ⟨_, rfl, fun c hc => ?_, ?_, ?_, ?_⟩
      · rcases List.mem_append.1 hc with k | k
        · exact f1 c k
        · rcases List.mem_cons.1 k with rfl | k
          · decide
          · exact (isD_ne (hd c k)).1
      · rw [dg_app, dg_app, dg_sgn, dg_all hh]
        have : dg' (46 :: (tD u).drop 1) = (tD u).drop 1 := by
          have e2 : dg' (46 :: (tD u).drop 1) = dg' ((tD u).drop 1) := List.filter_cons_of_neg (by decide)
          rw [e2, dg_all hd]
        rw [this]
        exact tg.symm
      · rw [fr_pt f2, List.length_drop, t1]; omega
      · simp only [List.length_append, List.length_cons, List.length_nil, List.length_drop, t1]
        omega
  obtain ⟨H, e, k1, k2, k3, k4⟩ := key
  rw [e]
  obtain ⟨p1, p2⟩ := pre_e (b := Lib.itoa (dp - 1)) k1
  refine ⟨⟨0, 0, ?_, ?_, Or.inl rfl⟩, ?_⟩
  · rw [p1, k2]; simp
  · rw [p1, p2, hx]; omega
  · rw [List.length_append, List.length_cons]; omega
theorem shape_f (n : Bool) (u : Nat) (dp : Int) (hu : 1 ≤ u) (h17 : trimLen u ≤ 17) (h0 : -5 ≤ dp) (h1 : dp ≤ 21) : Shape (fB n u (trimLen u) dp) u dp := by
  obtain ⟨t1, t2, t3, t4, t5⟩ := tD_facts u hu
  have hsl := sgn_len n
  unfold fB
  by_cases c1 : dp ≤ 0
  · rw [if_pos c1]
    have hz : ∀ c ∈ List.replicate (-dp).toNat 48 ++ tD u, isD c = true := fun c hc => by
      rcases List.mem_append.1 hc with k | k
      · exact zeros_d _ c k
      · exact t4 c k
    have hh : ∀ c ∈ [(48 : UInt8)], isD c = true := by decide
    obtain ⟨f1, f2⟩ := f_ne (n := n) hh
    have e : sgn n ++ [48, 46] ++ List.replicate (-dp).toNat 48 ++ (Lib.decDigits u).take (trimLen u) = (sgn n ++ [48]) ++ 46 :: (List.replicate (-dp).toNat 48 ++ tD u) := by unfold tD; simp
    rw [e]
    have hno : ∀ c ∈ (sgn n ++ [48]) ++ 46 :: (List.replicate (-dp).toNat 48 ++ tD u), c ≠ 101 := fun c hc => by
      rcases List.mem_append.1 hc with k | k
      · exact f1 c k
      · rcases List.mem_cons.1 k with rfl | k
        · decide
        · exact (isD_ne (hz c k)).1
    obtain ⟨p1, p2⟩ := pre_no hno
    refine ⟨⟨(-dp).toNat + 1, 0, ?_, ?_, Or.inl rfl⟩, ?_⟩
    · rw [p1, dg_app, dg_app, dg_sgn, dg_all hh]
      have e2 : dg' (46 :: (List.replicate (-dp).toNat 48 ++ tD u)) = List.replicate (-dp).toNat 48 ++ tD u := by
        have e3 : dg' (46 :: (List.replicate (-dp).toNat 48 ++ tD u)) = dg' (List.replicate (-dp).toNat 48 ++ tD u) := List.filter_cons_of_neg (by decide)
        rw [e3, dg_all hz]
      rw [e2, List.replicate_succ]
      simp
    · rw [p1, p2, fr_pt f2, List.length_append, List.length_replicate, t1]
      show (0 : Int) - _ = _
      omega
    · simp only [List.length_append, List.length_cons, List.length_nil, List.length_replicate, t1]
      omega
  · rw [if_neg c1]
    by_cases c2 : (trimLen u : Int) ≤ dp
    · rw [if_pos c2]
      have hz : ∀ c ∈ tD u ++ List.replicate (dp.toNat - trimLen u) 48, isD c = true := fun c hc => by
        rcases List.mem_append.1 hc with k | k
        · exact t4 c k
        · exact zeros_d _ c k
      obtain ⟨f1, f2⟩ := f_ne (n := n) hz
      have e : sgn n ++ (Lib.decDigits u).take (trimLen u) ++ List.replicate (dp.toNat - trimLen u) 48 = sgn n ++ (tD u ++ List.replicate (dp.toNat - trimLen u) 48) := by unfold tD; simp
      rw [e]
      obtain ⟨p1, p2⟩ := pre_no f1
      refine ⟨⟨0, dp.toNat - trimLen u, ?_, ?_, Or.inr (by omega)⟩, ?_⟩
      · rw [p1, dg_app, dg_sgn, dg_all hz]; simp
      · rw [p1, p2, fr_no f2]
        show (0 : Int) - _ = _
        omega
      · rw [List.length_append, List.length_append, List.length_replicate, t1]; omega
    · rw [if_neg c2]
      have ha : ∀ c ∈ (tD u).take dp.toNat, isD c = true := fun c hc => t4 c (List.mem_of_mem_take hc)
      have hd : ∀ c ∈ (tD u).drop dp.toNat, isD c = true := fun c hc => t4 c (List.mem_of_mem_drop hc)
      obtain ⟨f1, f2⟩ := f_ne (n := n) ha
      have e0 : (Lib.decDigits u).take dp.toNat = (tD u).take dp.toNat := by unfold tD; rw [List.take_take]; congr 1; omega
      have e : sgn n ++ (Lib.decDigits u).take dp.toNat ++ [46] ++ ((Lib.decDigits u).take (trimLen u)).drop dp.toNat = (sgn n ++ (tD u).take dp.toNat) ++ 46 :: (tD u).drop dp.toNat := by rw [e0]; unfold tD; simp
      rw [e]
      have hno : ∀ c ∈ (sgn n ++ (tD u).take dp.toNat) ++ 46 :: (tD u).drop dp.toNat, c ≠ 101 := fun c hc => by
        rcases List.mem_append.1 hc with k | k
        · exact f1 c k
        · rcases List.mem_cons.1 k with rfl | k
          · decide
          · exact (isD_ne (hd c k)).1
      obtain ⟨p1, p2⟩ := pre_no hno
      refine ⟨⟨0, 0, ?_, ?_, Or.inl rfl⟩, ?_⟩
      · rw [p1, dg_app, dg_app, dg_sgn, dg_all ha]
        have e2 : dg' (46 :: (tD u).drop dp.toNat) = (tD u).drop dp.toNat := by
          have e3 : dg' (46 :: (tD u).drop dp.toNat) = dg' ((tD u).drop dp.toNat) := List.filter_cons_of_neg (by decide)
          rw [e3, dg_all hd]
        rw [e2]
        simp
      · rw [p1, p2, fr_pt f2, List.length_drop, t1]
        show (0 : Int) - _ = _
        omega
      · rw [List.length_append, List.length_append, List.length_cons, List.length_take, List.length_drop, t1]; omega
/-- THE WORTH of a text of that shape. -/
theorem shape_wt {l : List UInt8} {u : Nat} {e : Int} (hu : 1 ≤ u) (h : Shape l u ((Lib.nDigits u : Int) + e)) (he : -350 ≤ e) : wt l = u * 10 ^ (e + 400).toNat := by
  obtain ⟨t1, t2, t3, t4, t5⟩ := tD_facts u hu
  obtain ⟨a, c, h1, h2, h3⟩ := h.ex
  unfold wt
  rw [h1, h2, dvA_append, dvA_append, dvA_zeros, dvA_zeros, Nat.zero_mul]
  generalize dvA 0 (tD u) = t at *
  rw [Nat.mul_assoc, ← Nat.pow_add]
  conv => rhs; rw [← t5]
  rw [Nat.mul_assoc, ← Nat.pow_add]
  congr 2
  omega
end Go.Proofs.YtkakanejiakbkaaGreatDoor.Rl
/- NEIGHBOURS HAVE UNLIKE TEXTS. Own work of the verifier. -/
namespace Go.Proofs.YtkakanejiakbkaaGreatDoor.Rl
open Go.RowKit

theorem sd_mod (x : Nat) : sd x = sd (x % 9223372036854775808) := by
  unfold sd
  rw [show x % 9223372036854775808 % 9223372036854775808 = x % 9223372036854775808 from by omega, show x % 9223372036854775808 % 4503599627370496 = x % 4503599627370496 from by omega,
    show x % 9223372036854775808 / 4503599627370496 % 2048 = x / 4503599627370496 % 2048 from by omega]
/-- What a float is worth, in units of 10^-400. -/
def val (x : Nat) : Nat := (sd x).1 * 10 ^ ((sd x).2 + 400).toNat
theorem val_mod (x : Nat) : val x = val (x % 9223372036854775808) := by unfold val; rw [sd_mod]
theorem val_lt {a b : Nat} (h0 : 1 ≤ a) (h : a < b) (h1 : b < 9218868437227405312) : val a < val b := of_decide_eq_true (rise_all h0 h h1)
theorem val_pos {x : Nat} (h0 : x % 9223372036854775808 ≠ 0) (h1 : x % 9223372036854775808 < 9218868437227405312) : 0 < val x := Nat.mul_pos (sd_bounds x h0 h1).1 (Nat.pow_pos (by decide))
theorem val_small : val 4517329193108106637 = 10 ^ 394 := by decide +kernel
theorem val_great : val 4921056587992461136 = 10 ^ 421 := by decide +kernel
theorem pow_ge {u : Nat} (hu : 1 ≤ u) : 10 ^ (Lib.nDigits u - 1) ≤ u := by
  have hn := Lib.nDigits_pos u
  rcases Nat.eq_or_lt_of_le hn with k | k
  · rw [← k]; simpa using hu
  · exact le_of_lt_nDigits _ u (by omega) (by omega)
theorem lt_exp10 {a b : Nat} (h : 10 ^ a < 10 ^ b) : a < b := (Nat.pow_lt_pow_iff_right (by decide : 1 < 10)).1 h
theorem pt_mid (x : Nat) (h0 : x % 9223372036854775808 ≠ 0) (h1 : x % 9223372036854775808 < 9218868437227405312) (hE : hasE (x % 9223372036854775808) = false) : -5 ≤ pt x ∧ pt x ≤ 21 := by
  obtain ⟨s1, s2, s3, s4⟩ := sd_bounds x h0 h1
  have hE' := of_decide_eq_false hE
  have hn := Lib.nDigits_pos (sd x).1
  have hlo : 10 ^ 394 ≤ val x := by
    rw [val_mod, ← val_small]
    rcases Nat.eq_or_lt_of_le (show 4517329193108106637 ≤ x % 9223372036854775808 by omega) with e | e
    · rw [← e]; exact Nat.le_refl _
    · exact Nat.le_of_lt (val_lt (by decide) e h1)
  have hhi : val x < 10 ^ 421 := by
    rw [val_mod, ← val_great]
    exact val_lt (by omega) (by omega) (by decide)
  have u1 := Lib.lt_pow_nDigits (sd x).1
  have u2 := pow_ge s1
  unfold val at hlo hhi
  unfold pt
  generalize (sd x).1 = u at *
  generalize (sd x).2 = e at *
  have q1 : 10 ^ 394 < 10 ^ (Lib.nDigits u + (e + 400).toNat) := by
    rw [Nat.pow_add]
    exact Nat.lt_of_le_of_lt hlo (Nat.mul_lt_mul_of_pos_right u1 (Nat.pow_pos (by decide)))
  have q2 : 10 ^ (Lib.nDigits u - 1 + (e + 400).toNat) < 10 ^ 421 := by
    rw [Nat.pow_add]
    exact Nat.lt_of_le_of_lt (Nat.mul_le_mul_right _ u2) hhi
  have r1 := lt_exp10 q1
  have r2 := lt_exp10 q2
  omega
theorem trim_17 (x : Nat) (h0 : x % 9223372036854775808 ≠ 0) (h1 : x % 9223372036854775808 < 9218868437227405312) : trimLen (sd x).1 ≤ 17 := by
  have := (trim_is (sd x).1).1
  have := n_le (k := 17) (by decide) (show (sd x).1 < 10 ^ 17 from sd_17 x h0 h1)
  omega
theorem shape_x (x : Nat) (h0 : x % 9223372036854775808 ≠ 0) (h1 : x % 9223372036854775808 < 9218868437227405312) : Shape (pText x) (sd x).1 (pt x) := by
  obtain ⟨s1, s2, s3, s4⟩ := sd_bounds x h0 h1
  obtain ⟨p0, p1⟩ := pt_bounds x h0 h1
  have h17 := trim_17 x h0 h1
  unfold pText
  cases hE : hasE (x % 9223372036854775808)
  · obtain ⟨m0, m1⟩ := pt_mid x h0 h1 hE
    rw [if_neg (by decide)]
    unfold fText
    rw [if_neg h0, if_neg (by omega), if_neg (by omega)]
    exact shape_f _ _ _ s1 h17 m0 m1
  · rw [if_pos rfl]
    exact shape_e _ _ _ s1 h17 p0 p1
theorem wt_x (x : Nat) (h0 : x % 9223372036854775808 ≠ 0) (h1 : x % 9223372036854775808 < 9218868437227405312) : wt (pText x) = val x := by
  obtain ⟨s1, s2, s3, s4⟩ := sd_bounds x h0 h1
  exact shape_wt s1 (shape_x x h0 h1) s3
theorem wt_zero : wt [48] = 0 ∧ wt [45, 48] = 0 ∧ wt [78, 97, 78] = 0 ∧ wt [45, 73, 110, 102] = 0 ∧ wt [43, 73, 110, 102] = 0 := by decide +kernel
theorem text_zero (x : Nat) (h : x % 9223372036854775808 = 0) : pText x = if 9223372036854775808 ≤ x then [45, 48] else [48] := by
  unfold pText fText
  rw [h, show hasE 0 = false from by decide, if_neg (by decide), if_pos rfl]
theorem text_nan (x : Nat) (h : 9218868437227405312 < x % 9223372036854775808) : pText x = [78, 97, 78] := by
  unfold pText fText
  have hE : hasE (x % 9223372036854775808) = false := decide_eq_false (by omega)
  rw [hE, if_neg (by decide), if_neg (by omega), if_pos h]
theorem text_inf (x : Nat) (h : x % 9223372036854775808 = 9218868437227405312) : pText x = if 9223372036854775808 ≤ x then [45, 73, 110, 102] else [43, 73, 110, 102] := by
  unfold pText fText
  have hE : hasE (x % 9223372036854775808) = false := decide_eq_false (by omega)
  rw [hE, if_neg (by decide), if_neg (by omega), if_neg (by omega), if_pos h]
theorem wt_special (x : Nat) (h : x % 9223372036854775808 = 0 ∨ 9218868437227405312 ≤ x % 9223372036854775808) : wt (pText x) = 0 := by
  obtain ⟨z1, z2, z3, z4, z5⟩ := wt_zero
  rcases h with h | h
  · rw [text_zero x h]
    split
    · exact z2
    · exact z1
  · rcases Nat.eq_or_lt_of_le h with e | e
    · rw [text_inf x e.symm]
      split
      · exact z4
      · exact z5
    · rw [text_nan x e]; exact z3
/-- Where the digits that count stand. -/
def Win (l : List UInt8) : Prop := ∃ A B C : List UInt8, dg' (pre l) = A ++ B ++ C ∧ (∀ c ∈ A, c = 48) ∧ (∀ c ∈ C, c = 48) ∧ B.length ≤ 17
/-- The places of digits that count. -/
theorem win_at {l : List UInt8} (h : Win l) {p q : Nat} {c d : UInt8} (hp : (dg' (pre l))[p]? = some c) (hc : c ≠ 48) (hq : (dg' (pre l))[q]? = some d) (hd : d ≠ 48) : q ≤ p + 16 := by
  obtain ⟨A, B, C, h1, h2, h3, h4⟩ := h
  rw [h1] at hp hq
  have e1 : A.length ≤ p := by
    rcases Nat.lt_or_ge p A.length with k | k
    · rw [List.append_assoc, List.getElem?_append_left k] at hp
      exact absurd (h2 c (List.mem_of_getElem? hp)) hc
    · exact k
  have e2 : q < A.length + B.length := by
    rcases Nat.lt_or_ge q (A.length + B.length) with k | k
    · exact k
    · rw [List.getElem?_append_right (by rw [List.length_append]; exact k)] at hq
      exact absurd (h3 d (List.mem_of_getElem? hq)) hd
  omega
theorem take_dg {l : List UInt8} {i : Nat} (hi : i < l.length) (h : ∀ j (hj : j < l.length), j ≤ i → l[j] ≠ 101) :
    dg' (l.take (i + 1)) = (if isD l[i] then dg' (l.take i) ++ [l[i]] else dg' (l.take i)) ∧ (isD l[i] = true → (dg' (pre l))[(dg' (l.take i)).length]? = some l[i]) := by
  have e : l.take (i + 1) = l.take i ++ [l[i]] := List.take_succ_eq_append_getElem hi
  have e2 : dg' (l.take (i + 1)) = (if isD l[i] then dg' (l.take i) ++ [l[i]] else dg' (l.take i)) := by
    rw [e, dg_app]
    cases hD : isD l[i]
    · rw [if_neg (by decide)]
      have : dg' [l[i]] = [] := List.filter_cons_of_neg (by rw [hD]; decide)
      rw [this, List.append_nil]
    · rw [if_pos rfl]
      have : dg' [l[i]] = [l[i]] := List.filter_cons_of_pos hD
      rw [this]
  refine ⟨e2, fun hD => ?_⟩
  have hp : pre l = l.take (i + 1) ++ pre (l.drop (i + 1)) := by
    conv => lhs; rw [← List.take_append_drop (i + 1) l]
    unfold pre
    refine List.takeWhile_append_of_pos fun c hc => ?_
    obtain ⟨j, hj, hjc⟩ := List.getElem_of_mem hc
    rw [List.length_take] at hj
    rw [List.getElem_take] at hjc
    rw [← hjc]
    exact bne_iff_ne.2 (h j (by omega) (by omega))
  rw [hp, dg_app, e2, if_pos hD, List.append_assoc, List.getElem?_append_right (Nat.le_refl _), Nat.sub_self]
  rfl
end Go.Proofs.YtkakanejiakbkaaGreatDoor.Rl
/- HOW MANY DIGITS COUNT: the law's own loop. Own work of the verifier. -/
namespace Go.Proofs.YtkakanejiakbkaaGreatDoor.Rl
open Go.RowKit

/-- What the loop keeps. -/
def DI (l : List UInt8) (i : Nat) (f la : Int) (n : Nat) : Prop :=
  (∀ j (hj : j < l.length), j < i → l[j] ≠ 101) ∧ n = (dg' (l.take i)).length ∧ n ≤ i ∧
    ((f = -1 ∧ la = -1) ∨ ∃ p q : Nat, f = (p : Int) ∧ la = (q : Int) ∧ p ≤ i ∧ q ≤ i ∧ ∃ c d, (dg' (pre l))[p]? = some c ∧ c ≠ 48 ∧ (dg' (pre l))[q]? = some d ∧ d ≠ 48)
theorem di_start (l : List UInt8) : DI l 0 (-1) (-1) 0 := ⟨fun j _ h => by omega, by simp [dg'], Nat.le_refl _, Or.inl ⟨rfl, rfl⟩⟩
theorem di_skip {l : List UInt8} {i : Nat} {f la : Int} {n : Nat} (h : DI l i f la n) (hi : i < l.length) (he : l[i] ≠ 101) (hd : isD l[i] = false) : DI l (i + 1) f la n := by
  obtain ⟨h1, h2, h3, h4⟩ := h
  have ha : ∀ j (hj : j < l.length), j ≤ i → l[j] ≠ 101 := fun j hj hji => by
    by_cases e : j = i
    · subst e; exact he
    · exact h1 j hj (by omega)
  have ht := (take_dg hi ha).1
  rw [hd, if_neg (by decide)] at ht
  refine ⟨fun j hj hji => ha j hj (by omega), by rw [ht]; exact h2, by omega, ?_⟩
  rcases h4 with h4 | ⟨p, q, a1, a2, a3, a4, a5⟩
  · exact Or.inl h4
  · exact Or.inr ⟨p, q, a1, a2, by omega, by omega, a5⟩
theorem di_zero {l : List UInt8} {i : Nat} {f la : Int} {n : Nat} (h : DI l i f la n) (hi : i < l.length) (he : l[i] ≠ 101) (hd : isD l[i] = true) : DI l (i + 1) f la (n + 1) := by
  obtain ⟨h1, h2, h3, h4⟩ := h
  have ha : ∀ j (hj : j < l.length), j ≤ i → l[j] ≠ 101 := fun j hj hji => by
    by_cases e : j = i
    · subst e; exact he
    · exact h1 j hj (by omega)
  have ht := (take_dg hi ha).1
  rw [hd, if_pos rfl] at ht
  refine ⟨fun j hj hji => ha j hj (by omega), by rw [ht, List.length_append, h2]; rfl, by omega, ?_⟩
  rcases h4 with h4 | ⟨p, q, a1, a2, a3, a4, a5⟩
  · exact Or.inl h4
  · exact Or.inr ⟨p, q, a1, a2, by omega, by omega, a5⟩
theorem di_count {l : List UInt8} {i : Nat} {f la : Int} {n : Nat} (h : DI l i f la n) (hi : i < l.length) (he : l[i] ≠ 101) (hd : isD l[i] = true) (hz : l[i] ≠ 48) : (f < 0 → DI l (i + 1) (n : Int) (n : Int) (n + 1)) ∧ (¬ f < 0 → DI l (i + 1) f (n : Int) (n + 1)) := by
  obtain ⟨h1, h2, h3, h4⟩ := h
  have ha : ∀ j (hj : j < l.length), j ≤ i → l[j] ≠ 101 := fun j hj hji => by
    by_cases e : j = i
    · subst e; exact he
    · exact h1 j hj (by omega)
  obtain ⟨ht, hp⟩ := take_dg hi ha
  have hp' := hp hd
  rw [hd, if_pos rfl] at ht
  rw [← h2] at hp'
  have hl : n + 1 = (dg' (l.take (i + 1))).length := by rw [ht, List.length_append, h2]; rfl
  refine ⟨fun _ => ⟨fun j hj hji => ha j hj (by omega), hl, by omega, Or.inr ⟨n, n, rfl, rfl, by omega, by omega, _, _, hp', hz, hp', hz⟩⟩, fun hf => ⟨fun j hj hji => ha j hj (by omega), hl, by omega, ?_⟩⟩
  rcases h4 with ⟨e, _⟩ | ⟨p, q, a1, a2, a3, a4, c, d, a5, a6, a7, a8⟩
  · omega
  · exact Or.inr ⟨p, n, a1, rfl, by omega, by omega, c, _, a5, a6, hp', hz⟩
theorem di_end {l : List UInt8} {i : Nat} {f la : Int} {n : Nat} (hW : Win l) (h : DI l i f la n) (hf : ¬ f < 0) : ∃ p q : Nat, f = (p : Int) ∧ la = (q : Int) ∧ q ≤ p + 16 ∧ p ≤ i ∧ q ≤ i := by
  obtain ⟨_, _, _, h4⟩ := h
  rcases h4 with ⟨e, _⟩ | ⟨p, q, a1, a2, a3, a4, c, d, a5, a6, a7, a8⟩
  · omega
  · exact ⟨p, q, a1, a2, win_at hW a5 a6 a7 a8, a3, a4⟩
theorem ne_nat {c : UInt8} {k : Nat} (hk : k < 256) (h : c.toNat ≠ k) : c ≠ UInt8.ofNat k := fun e => h (by rw [e, UInt8.toNat_ofNat']; omega)
end Go.Proofs.YtkakanejiakbkaaGreatDoor.Rl
/- TEXTS OF FINITE FLOATS TELL THEM. Own work of the verifier. -/
namespace Go.Proofs.YtkakanejiakbkaaGreatDoor
open Go.RowKit Me

/-- It doesn't begin with a minus. -/
def Nm (l : List UInt8) : Prop := l.head? ≠ some 45
theorem dig_nm (n : Nat) : ∀ b ∈ Lib.decDigits n, b ≠ 45 := by
  induction n using Nat.strongRecOn with
  | _ n ih =>
    intro b hb
    by_cases hn : n < 10
    · rw [Wi.dec_small hn] at hb
      rw [List.mem_singleton.1 hb]
      intro k
      have := congrArg UInt8.toNat k
      rw [UInt8.toNat_ofNat', show (45 : UInt8).toNat = 45 from rfl] at this
      omega
    · rw [Wi.dec_big hn] at hb
      rcases List.mem_append.1 hb with k | k
      · exact ih _ (by omega) b k
      · rw [List.mem_singleton.1 k]
        intro k
        have := congrArg UInt8.toNat k
        rw [UInt8.toNat_ofNat', show (45 : UInt8).toNat = 45 from rfl] at this
        omega
theorem nm_all {l : List UInt8} (h : ∀ b ∈ l, b ≠ 45) : Nm l := by
  intro k
  cases l with
  | nil => cases k
  | cons a r => exact h a List.mem_cons_self (Option.some.inj k)
theorem nm_rep (n : Nat) : ∀ b ∈ List.replicate n (48 : UInt8), b ≠ 45 := fun b hb => by rw [(List.mem_replicate.1 hb).2]; decide
theorem or_nm {l r : List UInt8} (h : ∀ b ∈ l, b ≠ 45) (k : ∀ b ∈ r, b ≠ 45) : ∀ b ∈ l ++ r, b ≠ 45 := fun b hb => (List.mem_append.1 hb).elim (h b) (k b)
theorem first_nm (u : Nat) : (Lib.decDigits u).getD 0 0 ≠ 45 := by
  have h := dec_pos u
  have e : (Lib.decDigits u).getD 0 0 = (Lib.decDigits u)[0] := by rw [List.getD_eq_getElem?_getD, List.getElem?_eq_getElem h]; rfl
  rw [e]
  exact dig_nm u _ (List.getElem_mem h)
theorem fB_sgn (s : Bool) (u k : Nat) (dp : Int) : ∃ r, Rl.fB s u k dp = Rl.sgn s ++ r ∧ Nm r := by
  have hd := dig_nm u
  unfold Rl.fB
  split
  · exact ⟨[48, 46] ++ (List.replicate (-dp).toNat 48 ++ (Lib.decDigits u).take k), by simp only [List.append_assoc], by unfold Nm; simp⟩
  · split
    · exact ⟨(Lib.decDigits u).take k ++ List.replicate (dp.toNat - k) 48, by simp only [List.append_assoc], nm_all (or_nm (fun b hb => hd b (List.mem_of_mem_take hb)) (nm_rep _))⟩
    · exact ⟨(Lib.decDigits u).take dp.toNat ++ ([46] ++ ((Lib.decDigits u).take k).drop dp.toNat), by simp only [List.append_assoc], nm_all (or_nm (fun b hb => hd b (List.mem_of_mem_take hb)) (or_nm (fun b hb => by rw [List.mem_singleton.1 hb]; decide) (fun b hb => hd b (List.mem_of_mem_take (List.mem_of_mem_drop hb)))))⟩
theorem text_sgn (x : Nat) (h0 : x % 9223372036854775808 ≠ 0) (h1 : x % 9223372036854775808 < 9218868437227405312) : ∃ r, Rl.pText x = Rl.sgn (decide (9223372036854775808 ≤ x)) ++ r ∧ Nm r := by
  unfold Rl.pText
  split
  · unfold Rl.xText Rl.eHead
    split
    · exact ⟨(Lib.decDigits (Rl.sd x).1).getD 0 0 :: 101 :: Lib.itoa (Rl.pt x - 1), by simp, fun k => first_nm _ (Option.some.inj k)⟩
    · exact ⟨(Lib.decDigits (Rl.sd x).1).getD 0 0 :: 46 :: (((Lib.decDigits (Rl.sd x).1).take (Rl.trimLen (Rl.sd x).1)).drop 1 ++ 101 :: Lib.itoa (Rl.pt x - 1)), by simp, fun k => first_nm _ (Option.some.inj k)⟩
  · unfold Rl.fText
    rw [if_neg h0, if_neg (by omega), if_neg (by omega)]
    exact fB_sgn _ _ _ _
theorem sgn_inj {x y : Nat} {r r' : List UInt8} (h : Nm r) (h' : Nm r') (e : Rl.sgn (decide (9223372036854775808 ≤ x)) ++ r = Rl.sgn (decide (9223372036854775808 ≤ y)) ++ r') : 9223372036854775808 ≤ x ↔ 9223372036854775808 ≤ y := by
  by_cases k : 9223372036854775808 ≤ x <;> by_cases k' : 9223372036854775808 ≤ y
  · exact ⟨fun _ => k', fun _ => k⟩
  · rw [decide_eq_true k, decide_eq_false k'] at e
    exact absurd (by rw [show r' = 45 :: r by simpa [Rl.sgn] using e.symm]; rfl) h'
  · rw [decide_eq_false k, decide_eq_true k'] at e
    exact absurd (by rw [show r = 45 :: r' by simpa [Rl.sgn] using e]; rfl) h
  · exact ⟨fun z => absurd z k, fun z => absurd z k'⟩
theorem txI : TxI := by
  intro a b ⟨ha, fa'⟩ ⟨hb, fb'⟩ h
  have fa : a % 9223372036854775808 < 9218868437227405312 := of_decide_eq_true fa'
  have fb : b % 9223372036854775808 < 9218868437227405312 := of_decide_eq_true fb'
  by_cases za : a % 9223372036854775808 = 0
  · by_cases zb : b % 9223372036854775808 = 0
    · rw [Rl.text_zero a za, Rl.text_zero b zb] at h
      by_cases k1 : 9223372036854775808 ≤ a <;> by_cases k2 : 9223372036854775808 ≤ b
      · omega
      · rw [if_pos k1, if_neg k2] at h; cases h
      · rw [if_neg k1, if_pos k2] at h; cases h
      · omega
    · exfalso
      have h1 := Rl.wt_x b zb fb
      have h2 := Rl.wt_special a (by omega)
      have h3 := Rl.val_pos zb fb
      rw [← h, h2] at h1
      omega
  · by_cases zb : b % 9223372036854775808 = 0
    · exfalso
      have h1 := Rl.wt_x a za fa
      have h2 := Rl.wt_special b (by omega)
      have h3 := Rl.val_pos za fa
      rw [h, h2] at h1
      omega
    · obtain ⟨r, e1, n1⟩ := text_sgn a za fa
      obtain ⟨r', e2, n2⟩ := text_sgn b zb fb
      have hs := sgn_inj n1 n2 (by rw [← e1, ← e2, h])
      have hw : Rl.val a = Rl.val b := by rw [← Rl.wt_x a za fa, ← Rl.wt_x b zb fb, h]
      rw [Rl.val_mod a, Rl.val_mod b] at hw
      have hm : a % 9223372036854775808 = b % 9223372036854775808 := by
        rcases Nat.lt_trichotomy (a % 9223372036854775808) (b % 9223372036854775808) with k | k | k
        · have := Rl.val_lt (by omega) k fb; omega
        · exact k
        · have := Rl.val_lt (by omega) k fa; omega
      omega
/-- Finite floats at one place are one. -/
theorem rk_one {a b : Nat} (ha : Fn a) (hb : Fn b) (h : Re.sF a b = true) : a = b := by
  rw [Re.sF_eq, decide_eq_true_eq] at h
  have fa : a % 9223372036854775808 < 9218868437227405312 := of_decide_eq_true ha.2
  have fb : b % 9223372036854775808 < 9218868437227405312 := of_decide_eq_true hb.2
  have n1 := Re.rk_num ha.1 (decide_eq_false (by omega))
  have n2 := Re.rk_num hb.1 (decide_eq_false (by omega))
  rw [h, n2] at n1
  have := ha.1
  have := hb.1
  split at n1 <;> split at n1 <;> omega
end Go.Proofs.YtkakanejiakbkaaGreatDoor
