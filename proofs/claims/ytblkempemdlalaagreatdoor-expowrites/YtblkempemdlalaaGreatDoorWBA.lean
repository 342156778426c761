/- THE TEXT THAT THE DOCUMENT'S Print TELLS IS THE PROGRAM'S. Own work of the verifier. -/
import Derived.Test.YtblkempemdlalaaGreatDoorWAZ
import Derived.Test.YtblkempemdlalaaGreatDoorWAX
import Derived.Test.YtblkempemdlalaaGreatDoorWAS
namespace Go.Proofs.YtblkempemdlalaaGreatDoor.Rl
open Soft

theorem dec_tens (c j : Nat) (hc : 1 ≤ c) : Lib.decDigits (c * 10 ^ j) = Lib.decDigits c ++ List.replicate j 48 := by
 induction j with
 | zero => rw [Nat.pow_zero, Nat.mul_one, List.replicate_zero, List.append_nil]
 | succ j ih =>
  have h1 : 0 < 10 ^ j := Nat.pow_pos (by decide)
  have h2 : 0 < c * 10 ^ j := Nat.mul_pos hc h1
  have e : c * 10 ^ (j + 1) = c * 10 ^ j * 10 := by rw [Nat.pow_succ, Nat.mul_assoc]
  rw [e, Lib.decDigits, dif_neg (by omega), Nat.mul_div_cancel _ (by decide), Nat.mul_mod_left, ih, List.replicate_succ', List.append_assoc]
  rfl
theorem dec_last (c : Nat) : ∃ l, Lib.decDigits c = l ++ [UInt8.ofNat (48 + c % 10)] := by
 by_cases h : c < 10
 ·exact ⟨[], by rw [Lib.decDigits_one h, Nat.mod_eq_of_lt h]; rfl⟩
 ·exact ⟨Lib.decDigits (c / 10), by rw [Lib.decDigits, dif_neg h]⟩
theorem n_tens (c j : Nat) (hc : 1 ≤ c) : Lib.nDigits (c * 10 ^ j) = Lib.nDigits c + j := by
 have := congrArg List.length (dec_tens c j hc)
 rw [List.length_append, List.length_replicate, Lib.decDigits_length, Lib.decDigits_length] at this
 exact this
theorem trim_tens (c j : Nat) (hc : c % 10 ≠ 0) : trimLen (c * 10 ^ j) = Lib.nDigits c := by
 have hc1 : 1 ≤ c := by omega
 have hd := dec_tens c j hc1
 have hl := Lib.decDigits_length c
 refine (trim_len ⟨?_, ?_, Or.inr ?_⟩).symm
 ·rw [n_tens c j hc1]; omega
 ·intro i h hk
  have : (Lib.decDigits (c * 10 ^ j))[i]? = some 48 := by
   rw [hd, List.getElem?_append_right (by omega), List.getElem?_replicate, if_pos]
   rw [Lib.decDigits_length, n_tens c j hc1] at h
   omega
  rw [List.getElem?_eq_getElem h] at this
  exact Option.some.inj this
 ·obtain ⟨l, e⟩ := dec_last c
  have hn : Lib.nDigits c = l.length + 1 := by rw [← hl, e, List.length_append]; rfl
  have hlt : Lib.nDigits c - 1 < (Lib.decDigits (c * 10 ^ j)).length := by rw [Lib.decDigits_length, n_tens c j hc1]; omega
  refine ⟨hlt, ?_⟩
  have : (Lib.decDigits (c * 10 ^ j))[Lib.nDigits c - 1]? = some (UInt8.ofNat (48 + c % 10)) := by
   rw [hd, e, List.append_assoc, hn, Nat.add_sub_cancel, List.getElem?_append_right (Nat.le_refl _), Nat.sub_self]
   rfl
  rw [List.getElem?_eq_getElem hlt] at this
  rw [Option.some.inj this]
  intro k
  have := congrArg UInt8.toNat k
  rw [UInt8.toNat_ofNat'] at this
  have h48 : (48 : UInt8).toNat = 48 := rfl
  omega
theorem take_tens (c j : Nat) (hc : 1 ≤ c) : (Lib.decDigits (c * 10 ^ j)).take (Lib.nDigits c) = Lib.decDigits c := by
 rw [dec_tens c j hc, ← Lib.decDigits_length c, List.take_left]
theorem pt_far (x : Nat) (h0 : x % 9223372036854775808 ≠ 0) (h1 : x % 9223372036854775808 < 9218868437227405312) (hE : hasE (x % 9223372036854775808) = true) : pt x < -5 ∨ 21 < pt x := by
 obtain ⟨s1, s2, s3, s4⟩ := sd_bounds x h0 h1
 have hE' := of_decide_eq_true hE
 have hn := Lib.nDigits_pos (sd x).1
 have u1 := Lib.lt_pow_nDigits (sd x).1
 have u2 := pow_ge s1
 rcases hE' with hE' | hE'
 ·left
  have hhi : val x < 10 ^ 394 := by
   rw [val_mod, ← val_small]
   exact val_lt (by omega) (by omega) (by decide)
  unfold val at hhi
  unfold pt
  generalize (sd x).1 = u at *
  generalize (sd x).2 = e at *
  have q2 : 10 ^ (Lib.nDigits u - 1 + (e + 400).toNat) < 10 ^ 394 := by
   rw [Nat.pow_add]
   exact Nat.lt_of_le_of_lt (Nat.mul_le_mul_right _ u2) hhi
  have r2 := lt_exp10 q2
  omega
 ·right
  have hlo : 10 ^ 421 ≤ val x := by
   rw [val_mod, ← val_great]
   rcases Nat.eq_or_lt_of_le hE'.1 with e | e
   ·rw [← e]; exact Nat.le_refl _
   ·exact Nat.le_of_lt (val_lt (by decide) e h1)
  unfold val at hlo
  unfold pt
  generalize (sd x).1 = u at *
  generalize (sd x).2 = e at *
  have q1 : 10 ^ 421 < 10 ^ (Lib.nDigits u + (e + 400).toNat) := by
   rw [Nat.pow_add]
   exact Nat.lt_of_le_of_lt hlo (Nat.mul_lt_mul_of_pos_right u1 (Nat.pow_pos (by decide)))
  have r1 := lt_exp10 q1
  omega
theorem sd_sign (x : Nat) : SameD (x % 9223372036854775808) = SameD x := by
 unfold SameD
 rw [← sd_mod x]
theorem same_text (x c : Nat) (e : Int) (h0 : x % 9223372036854775808 ≠ 0) (h1 : x % 9223372036854775808 < 9218868437227405312) (h : SameD x c e) : sgn (decide (9223372036854775808 ≤ x)) ++ txt (Lib.decDigits c) e = pText x := by
 obtain ⟨j, hu, hc, he⟩ := h
 have hc1 : 1 ≤ c := by omega
 have hpt : pt x = e + 1 := by
  unfold pt
  rw [hu, n_tens c j hc1]
  omega
 have hl := Lib.decDigits_length c
 have hn := Lib.nDigits_pos c
 unfold pText
 cases hE : hasE (x % 9223372036854775808)
 ·obtain ⟨m0, m1⟩ := pt_mid x h0 h1 hE
  rw [if_neg (by decide)]
  unfold fText
  rw [if_neg h0, if_neg (by omega), if_neg (by omega), hpt, hu, trim_tens c j hc]
  unfold fB
  rw [take_tens c j hc1, dec_tens c j hc1]
  unfold txt
  generalize Lib.decDigits c = d at *
  generalize sgn (decide (9223372036854775808 ≤ x)) = sg
  rw [← hl]
  by_cases a : 0 ≤ e
  ·rw [if_pos ⟨a, by omega⟩, if_neg (show ¬ e + 1 ≤ 0 by omega)]
   by_cases k : (d.length : Int) ≤ e + 1
   ·rw [if_pos k, if_pos k, show (e + 1 - (d.length : Int)).toNat = (e + 1).toNat - d.length from by omega, List.append_assoc]
   ·rw [if_neg k, if_neg k, List.take_append_of_le_length (by omega)]
    simp only [List.append_assoc]
  ·rw [if_neg (fun k => a k.1), if_pos ⟨by omega, by omega⟩, if_pos (by omega), show (-e - 1).toNat = (-(e + 1)).toNat from by omega]
   simp only [List.append_assoc]
 ·have hf := pt_far x h0 h1 hE
  rw [if_pos rfl]
  unfold xText eHead
  rw [hpt, hu, trim_tens c j hc, take_tens c j hc1, dec_tens c j hc1, show e + 1 - 1 = e from by omega]
  unfold txt Lib.itoa
  obtain ⟨d0, ds, hd⟩ : ∃ d0 ds, Lib.decDigits c = d0 :: ds := by
   cases g : Lib.decDigits c with
   | nil => rw [g] at hl; simp at hl; omega
   | cons a l => exact ⟨a, l, rfl⟩
  rw [hd] at hl ⊢
  rw [List.length_cons] at hl
  generalize sgn (decide (9223372036854775808 ≤ x)) = sg
  rw [if_neg (by omega), if_neg (by omega), ← hl]
  by_cases k : ds.length + 1 = 1
  ·rw [if_pos k, if_neg (by rw [List.length_cons]; omega)]
   by_cases a : e < 0
   ·rw [if_pos a, if_pos a, show (-e).toNat = e.natAbs from by omega]
    simp
   ·rw [if_neg a, if_neg a]
    simp
  ·rw [if_neg k, if_pos (by rw [List.length_cons]; omega)]
   by_cases a : e < 0
   ·rw [if_pos a, if_pos a, show (-e).toNat = e.natAbs from by omega]
    simp
   ·rw [if_neg a, if_neg a]
    simp
theorem doc_text (x : Nat) (hx : x < 18446744073709551616) (l : List UInt8) (h : DocText x l) : l = pText x := by
 rcases h with ⟨a, rfl⟩ | ⟨rfl, rfl⟩ | ⟨rfl, rfl⟩ | ⟨rfl, rfl⟩ | ⟨rfl, rfl⟩ | ⟨a1, a2, c, e, hD, rfl⟩ | ⟨a1, a2, a3, c, e, hD, rfl⟩
 ·exact (text_nan x a).symm
 ·rw [text_inf _ (by decide), if_neg (by decide)]
 ·rw [text_inf _ (by decide), if_pos (by decide)]
 ·rw [text_zero _ (by decide), if_neg (by decide)]
 ·rw [text_zero _ (by decide), if_pos (by decide)]
 ·have h := digs_all x c e a1 a2 hD
  have := same_text x c e (by omega) (by omega) h
  rw [decide_eq_false (by omega)] at this
  exact this
 ·have h := digs_all _ c e a1 a2 hD
  rw [sd_sign] at h
  have := same_text x c e (by omega) a2 h
  rw [decide_eq_true a3] at this
  exact this
end Go.Proofs.YtblkempemdlalaaGreatDoor.Rl
