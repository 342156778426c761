/- Print: the document's, of layer 2. Own work of the verifier. -/
import Derived.Test.YtlgfgeacphkhnaaGreatDoorWAV
import Derived.Test.YtlgfgeacphkhnaaGreatDoorWAQ
namespace Go.Proofs.YtlgfgeacphkhnaaGreatDoor.Rl
open Go.RowKit Soft

def DocText (x : Nat) (l : List UInt8) : Prop :=
 9218868437227405312 < x % 9223372036854775808 ∧ l = [78, 97, 78] ∨ x = 9218868437227405312 ∧ l = [43, 73, 110, 102] ∨ x = 18442240474082181120 ∧ l = [45, 73, 110, 102] ∨ x = 0 ∧ l = [48] ∨ x = 9223372036854775808 ∧ l = [45, 48]
 ∨ (1 ≤ x ∧ x < 9218868437227405312 ∧ ∃ c e, DigsOf x c e ∧ l = txt (Lib.decDigits c) e)
 ∨ (1 ≤ x % 9223372036854775808 ∧ x % 9223372036854775808 < 9218868437227405312 ∧ 9223372036854775808 ≤ x ∧ ∃ c e, DigsOf (x % 9223372036854775808) c e ∧ l = 45 :: txt (Lib.decDigits c) e)
theorem and_sign (x : Nat) (h : x < 18446744073709551616) : bits .and .u64 (x : Int) 9223372036854775808 = if x < 9223372036854775808 then 0 else 9223372036854775808 := by
 have h1 := u64_and_nat x 9223372036854775808 h (by decide)
 have h2 : x &&& 9223372036854775808 = if x < 9223372036854775808 then 0 else 9223372036854775808 := by
  rw [show (9223372036854775808 : Nat) = 2 ^ 63 from by decide]
  have h63 : x.testBit 63 = decide (¬ x < 2 ^ 63) := by
   rw [Nat.testBit_eq_decide_div_mod_eq]
   rw [show (2 : Nat) ^ 63 = 9223372036854775808 from by decide]
   rw [decide_eq_decide]
   omega
  apply Nat.eq_of_testBit_eq
  intro i
  rw [Nat.testBit_and, Nat.testBit_two_pow]
  by_cases e : 63 = i
  ·subst e
   rw [h63]
   by_cases g : x < 2 ^ 63
   ·rw [if_pos g]; simp [g]
   ·rw [if_neg g, Nat.testBit_two_pow]; simp [g]
  ·rw [decide_eq_false e, Bool.and_false]
   by_cases g : x < 2 ^ 63
   ·rw [if_pos g]; simp
   ·rw [if_neg g, Nat.testBit_two_pow, decide_eq_false e]
 rw [h2] at h1
 rw [show ((9223372036854775808 : Nat) : Int) = 9223372036854775808 from rfl] at h1
 rw [h1]
 split <;> rfl
theorem txt_len {b c : Nat} {e : Int} (h : DigsOf b c e) : (txt (Lib.decDigits c) e).length ≤ 5000 := by
 obtain ⟨d1, d2, d3⟩ := digs_bound h
 have hl2 : (Lib.decDigits c).length ≤ 20 := by rw [Lib.decDigits_length]; exact Lib.nDigits_le20 c (by omega)
 have hl3 : (Lib.decDigits (-e).toNat).length ≤ 20 := by rw [Lib.decDigits_length]; exact Lib.nDigits_le20 _ (by omega)
 have hl4 : (Lib.decDigits e.toNat).length ≤ 20 := by rw [Lib.decDigits_length]; exact Lib.nDigits_le20 _ (by omega)
 unfold txt
 split
 ·split
  ·rw [List.length_append, List.length_replicate]; omega
  ·simp; omega
 ·split
  ·simp; omega
  ·split <;> split <;> (simp; omega)
set_option maxHeartbeats 2000000 in
set_option maxRecDepth 100000 in
theorem dprint_any (x : Nat) (hx : x < 18446744073709551616) (w : World) :
  Calls Tryz.prog 25 #[.float .f64 x] w fun r w' => ∃ l, r = .returned (.string ⟨l.toArray⟩) ∧ DocText x l ∧ Below w.heap.size w w' := by
 have hm := mf64bits x
 have hc := clear_sign x hx
 have ha := and_sign x hx
 have HTx : Hid (∀ b : Nat, 1 ≤ b → b < 9218868437227405312 → ∀ W, Calls Tryz.prog 51 #[.int .u64 (b : Int)] W fun r w' => ∃ (c : Nat) (e : Int), r = .returned (.string ⟨(txt (Lib.decDigits c) e).toArray⟩) ∧ DigsOf b c e ∧ Below W.heap.size W w') := fun b h0 h1 W => text_any b h0 h1 W
 have HT0 : Hid (∀ l, DocText x l ↔ DocText x l) := fun l => Iff.rfl
 clear HT0
 obtain ⟨y, hy⟩ : ∃ y, y = x % 9223372036854775808 := ⟨_, rfl⟩
 rw [← hy] at hc
 by_cases n1 : 9218868437227405312 < y
 ·have n1' : (9218868437227405312 : Int) < (y : Int) := by omega
  have HX : Hid (DocText x [78, 97, 78]) := Or.inl ⟨by rw [← hy]; exact n1, rfl⟩
  clear ha hy
  as_aux_lemma =>
   go_enter Tryz.func25, Tryz.ntmps25
   go_wp2_with fail
   go_ret
   exact ⟨_, rfl, HX.out, Below.refl _ _⟩
 have n1' : ¬ (9218868437227405312 : Int) < (y : Int) := by omega
 by_cases n2 : x = 9218868437227405312
 ·have n2' : ((x : Int) == 9218868437227405312) = true := by rw [beq_iff_eq]; omega
  have N2 : Hid _ := n2
  have HX : Hid (DocText x [43, 73, 110, 102]) := Or.inr (Or.inl ⟨N2.out, rfl⟩)
  clear ha hy n2
  as_aux_lemma =>
   go_enter Tryz.func25, Tryz.ntmps25
   go_wp2_with fail
   go_ret
   exact ⟨_, rfl, HX.out, Below.refl _ _⟩
 have n2' : ((x : Int) == 9218868437227405312) = false := by rw [beq_eq_false_iff_ne]; omega
 by_cases n3 : x = 18442240474082181120
 ·have n3' : ((x : Int) == 18442240474082181120) = true := by rw [beq_iff_eq]; omega
  have N3 : Hid _ := n3
  have HX : Hid (DocText x [45, 73, 110, 102]) := Or.inr (Or.inr (Or.inl ⟨N3.out, rfl⟩))
  clear ha hy n3
  as_aux_lemma =>
   go_enter Tryz.func25, Tryz.ntmps25
   go_wp2_with fail
   go_ret
   exact ⟨_, rfl, HX.out, Below.refl _ _⟩
 have n3' : ((x : Int) == 18442240474082181120) = false := by rw [beq_eq_false_iff_ne]; omega
 by_cases n4 : x = 0
 ·have n4' : ((x : Int) == 0) = true := by rw [beq_iff_eq]; omega
  have N4 : Hid _ := n4
  have HX : Hid (DocText x [48]) := Or.inr (Or.inr (Or.inr (Or.inl ⟨N4.out, rfl⟩)))
  clear ha hy n4
  as_aux_lemma =>
   go_enter Tryz.func25, Tryz.ntmps25
   go_wp2_with fail
   go_ret
   exact ⟨_, rfl, HX.out, Below.refl _ _⟩
 have n4' : ((x : Int) == 0) = false := by rw [beq_eq_false_iff_ne]; omega
 by_cases n5 : x = 9223372036854775808
 ·have n5' : ((x : Int) == 9223372036854775808) = true := by rw [beq_iff_eq]; omega
  have N5 : Hid _ := n5
  have HX : Hid (DocText x [45, 48]) := Or.inr (Or.inr (Or.inr (Or.inr (Or.inl ⟨N5.out, rfl⟩))))
  clear ha hy n5
  as_aux_lemma =>
   go_enter Tryz.func25, Tryz.ntmps25
   go_wp2_with fail
   go_ret
   exact ⟨_, rfl, HX.out, Below.refl _ _⟩
 have n5' : ((x : Int) == 9223372036854775808) = false := by rw [beq_eq_false_iff_ne]; omega
 have y1 : 1 ≤ y := by omega
 have y2 : y < 9218868437227405312 := by omega
 by_cases n6 : x < 9223372036854775808
 ·have HT' : Hid _ := fun W => HTx.out x (by omega) (by omega) W
  rw [if_pos n6] at ha
  have x2 : x < 9218868437227405312 := by omega
  have HX : Hid (∀ c e, DigsOf x c e → DocText x (txt (Lib.decDigits c) e)) := fun c e h => Or.inr (Or.inr (Or.inr (Or.inr (Or.inr (Or.inl ⟨by omega, x2, c, e, h, rfl⟩)))))
  clear hy
  as_aux_lemma =>
   go_enter Tryz.func25, Tryz.ntmps25
   go_wp2_with fail
   with_reducible refine (HT'.out _).mono ?_
   rintro r w1 ⟨c, e, rfl, hD, hb1⟩
   go_wp2_with fail
   go_ret
   exact ⟨_, rfl, HX.out c e hD, hb1⟩
 ·have HT' : Hid _ := fun W => HTx.out y y1 y2 W
  rw [if_neg n6] at ha
  have hlen : ∀ c e, DigsOf y c e → (txt (Lib.decDigits c) e).length ≤ 5000 := fun c e h => txt_len h
  have HLn : Hid _ := hlen
  have HX : Hid (∀ c e, DigsOf y c e → DocText x (45 :: txt (Lib.decDigits c) e)) := fun c e h => Or.inr (Or.inr (Or.inr (Or.inr (Or.inr (Or.inr ⟨by omega, by omega, by omega, c, e, by rw [← hy]; exact h, rfl⟩)))))
  clear hlen hy
  as_aux_lemma =>
   go_enter Tryz.func25, Tryz.ntmps25
   go_wp2_with fail
   with_reducible refine (HT'.out _).mono ?_
   rintro r w1 ⟨c, e, rfl, hD, hb1⟩
   have hl := HLn.out c e hD
   have HD : Hid _ := hD
   clear hD
   generalize hg : txt (Lib.decDigits c) e = tt at *
   go_wp2_with fail
   go_ret
   refine ⟨45 :: tt, congrArg (fun x => Ending.returned (Value.string x)) ?_, by rw [← hg]; exact HX.out c e HD.out, hb1⟩
   apply ByteArray.ext
   simp
end Go.Proofs.YtlgfgeacphkhnaaGreatDoor.Rl
