/- THE PLAIN MATHEMATICS of reading a text (no Go in sight). Own work of the verifier. -/
import Derived.Test.YtbobhjgndgaoaaaDoorT11
import Derived.Test.YtbobhjgndgaoaaaDoorT9
namespace Go.Proofs.YtbobhjgndgaoaaaDoor

def isDig (c : UInt8) : Bool := decide (48 ≤ c.toNat) && decide (c.toNat ≤ 57)
/-- The letters that the document's reading looks at. -/
def seen (l : List UInt8) (f m : Nat) : List UInt8 := (l.take m).drop f
theorem seen_succ (l : List UInt8) (f m : Nat) (hf : f ≤ m) (hm : m < l.length) : seen l f (m + 1) = seen l f m ++ [l[m]] := by
  unfold seen
  rw [List.take_succ_eq_append_getElem hm, List.drop_append_of_le_length (by rw [List.length_take]; omega)]
theorem seen_self (l : List UInt8) (f : Nat) : seen l f f = [] := by
  unfold seen
  rw [List.drop_eq_nil_of_le (by rw [List.length_take]; omega)]
theorem seen_all (l : List UInt8) (f m : Nat) (h : l.length ≤ m) : seen l f m = l.drop f := by unfold seen; rw [List.take_of_length_le h]
theorem seen_end (l : List UInt8) (f m : Nat) (h : ¬ (m < l.length ∧ m < 41)) (hm : m ≤ 41) : seen l f m = seen l f 41 := by
  by_cases e : m = 41
  · rw [e]
  · rw [seen_all l f m (by omega), seen_all l f 41 (by omega)]
theorem rnd_ten (n d : Int) : rnd (rnd (rnd (rnd (rnd (n + n) + rnd (n + n)) + n) + rnd (rnd (rnd (n + n) + rnd (n + n)) + n)) + d) = rnd (rnd (n * 10) + d) := by
  have e1 : rnd (rnd (n + n) + rnd (n + n)) = rnd (n * 4) := by rw [rnd_add_rnd, rnd_add_rnd', show n + n + (n + n) = n * 4 from by omega]
  rw [e1]
  have e2 : rnd (rnd (n * 4) + n) = rnd (n * 5) := by rw [rnd_add_rnd, show n * 4 + n = n * 5 from by omega]
  rw [e2]
  have e3 : rnd (rnd (n * 5) + rnd (n * 5)) = rnd (n * 10) := by rw [rnd_add_rnd, rnd_add_rnd', show n * 5 + n * 5 = n * 10 from by omega]
  rw [e3]

/-- The number that the document reads, the sign's place being f. -/
def refV (l : List UInt8) (f : Nat) : Int := if f = 1 then rnd (- readL (seen l f 41)) else readL (seen l f 41)
/-- Where the letters begin. -/
def fromOf (l : List UInt8) : Nat := if Lib.hasPrefix l [45] then 1 else 0
def refOK (l : List UInt8) : Bool := (seen l (fromOf l) 41).all isDig && (Lib.itoa (refV l (fromOf l)) == l)
theorem inR_refV (l : List UInt8) (f : Nat) : InR (refV l f) := by unfold refV; split; exact inR_rnd _; exact inR_readL _

theorem dec_dig : ∀ (k u : Nat), u < 10 ^ (k + 1) → ∀ c ∈ Lib.decDigits u, isDig c = true
  | k, u, h, c, hc => by
    by_cases hu : u < 10
    · rw [dec_small hu] at hc
      simp only [List.mem_singleton] at hc
      subst hc
      unfold isDig
      rw [UInt8.toNat_ofNat']
      simp; omega
    · match k, h with
      | 0, h => simp at h; omega
      | k + 1, h =>
        rw [dec_big hu, List.mem_append] at hc
        rcases hc with hc | hc
        · exact dec_dig k (u / 10) (by rw [Nat.pow_succ] at h; omega) c hc
        · simp only [List.mem_singleton] at hc
          subst hc
          unfold isDig
          rw [UInt8.toNat_ofNat']
          simp; omega
theorem dec_dig' (u : Nat) (h : u ≤ 170141183460469231731687303715884105728) : (Lib.decDigits u).all isDig = true := by
  rw [List.all_eq_true]
  exact dec_dig 38 u (by rw [show (10 : Nat) ^ (38 + 1) = 1000000000000000000000000000000000000000 from by decide]; omega)
theorem dec_ne_nil (u : Nat) : Lib.decDigits u ≠ [] := by
  intro h
  have := Lib.decDigits_length u
  rw [h] at this
  have := Lib.nDigits_pos u
  simp at *
  omega
theorem pre_cons (l : List UInt8) : Lib.hasPrefix (45 :: l) [45] = true := by simp [Lib.hasPrefix, List.isPrefixOf]
theorem pre_dec (u : Nat) (h : u ≤ 170141183460469231731687303715884105728) : Lib.hasPrefix (Lib.decDigits u) [45] = false := by
  have ha := dec_dig' u h
  cases hl : Lib.decDigits u with
  | nil => exact absurd hl (dec_ne_nil u)
  | cons c r =>
    rw [hl] at ha
    simp only [List.all_cons, Bool.and_eq_true] at ha
    have hc : c ≠ 45 := by
      intro e
      rw [e] at ha
      exact absurd ha.1 (by decide)
    simp [Lib.hasPrefix, List.isPrefixOf]
    exact fun e => hc e.symm
theorem mag_le' {n : Int} (h : InR n) : (mag n).toNat ≤ 170141183460469231731687303715884105728 := by
  obtain ⟨_, _⟩ := h; unfold mag; split <;> omega
theorem itoa_len {n : Int} (h : InR n) : (Lib.itoa n).length ≤ 40 := by
  have := dec_len (mag n).toNat (mag_le' h)
  by_cases hn : n < 0
  · rw [itoa_neg' hn]; simp; omega
  · rw [itoa_pos' hn]; omega
/-- The letters of a number's text. -/
theorem itoa_letters {n : Int} (h : InR n) : (Lib.itoa n).drop (fromOf (Lib.itoa n)) = Lib.decDigits (mag n).toNat ∧ fromOf (Lib.itoa n) = if n < 0 then 1 else 0 := by
  unfold fromOf
  by_cases hn : n < 0
  · rw [itoa_neg' hn, pre_cons, if_pos hn]; simp
  · rw [itoa_pos' hn, pre_dec _ (mag_le' h), if_neg hn]; simp
theorem trim_eq (l : List UInt8) : Lib.trimPrefix l [45] = l.drop (fromOf l) := by
  unfold Lib.trimPrefix fromOf; split <;> simp
theorem readF_eq (l : List UInt8) (h : l.length ≤ 40) : readF l = refV l (fromOf l) := by
  unfold readF refV
  rw [seen_all l _ 41 (by omega), trim_eq]
  unfold fromOf
  split
  · rfl
  · rfl
/-- Both readings take the same texts, and tell the same number. -/
theorem ok_same (l : List UInt8) : refOK l = isText l ∧ (refOK l = true → refV l (fromOf l) = readF l) := by
  have key : refOK l = true → l.length ≤ 40 := by
    intro h
    simp only [refOK, Bool.and_eq_true, beq_iff_eq] at h
    rw [← h.2]
    exact itoa_len (inR_refV _ _)
  refine ⟨?_, fun h => (readF_eq l (key h)).symm⟩
  rw [Bool.eq_iff_iff]
  constructor
  · intro h
    have hl := key h
    simp only [refOK, Bool.and_eq_true, beq_iff_eq] at h
    simp only [isText, Bool.and_eq_true, beq_iff_eq, decide_eq_true_eq]
    exact ⟨hl, by rw [readF_eq l hl]; exact h.2⟩
  · intro h
    simp only [isText, Bool.and_eq_true, beq_iff_eq, decide_eq_true_eq] at h
    obtain ⟨hl, ht⟩ := h
    have hv := readF_eq l hl
    simp only [refOK, Bool.and_eq_true, beq_iff_eq]
    refine ⟨?_, by rw [← hv]; exact ht⟩
    rw [seen_all l _ 41 (by omega)]
    have hin := inR_readF l
    generalize readF l = n at *
    subst ht
    rw [(itoa_letters hin).1]
    exact dec_dig' _ (mag_le' hin)
end Go.Proofs.YtbobhjgndgaoaaaDoor
