/- WideFollows: there and back; what the walk is told. Own work of the verifier. -/
import Derived.Test.YtbobhjgndgaoaaaDoorT12
import Derived.Test.YtbobhjgndgaoaaaDoorParseMath
namespace Go.Proofs.YtbobhjgndgaoaaaDoor
open Go.RowKit Go.Sort

theorem readL_dec (u : Nat) : readL (Lib.decDigits u) = rnd (u : Int) := by
  induction u using Nat.strongRecOn with
  | _ u ih =>
    by_cases h : u < 10
    · rw [dec_small h]
      have := readL_snoc [] (UInt8.ofNat (48 + u))
      rw [List.nil_append] at this
      rw [this, UInt8.toNat_ofNat', show readL [] = 0 from rfl]
      unfold rnd
      omega
    · rw [dec_big h, readL_snoc, ih (u / 10) (by omega), UInt8.toNat_ofNat']
      unfold rnd
      omega
theorem readF_itoa {n : Int} (h : InR n) : readF (Lib.itoa n) = n := by
  have hl := itoa_len h
  obtain ⟨l1, l2⟩ := itoa_letters h
  rw [readF_eq _ hl]
  unfold refV
  rw [seen_all _ _ 41 (by omega), l1, l2, readL_dec]
  obtain ⟨_, _⟩ := h
  by_cases hn : n < 0
  · rw [if_pos hn, if_pos rfl]
    unfold mag rnd
    rw [if_pos hn]
    omega
  · rw [if_neg hn, if_neg (by decide)]
    unfold mag rnd
    rw [if_neg hn]
    omega
theorem parse_print (ah al : Int) (h1 : Wf ah al) (w : World) (htab : Tab w) :
    Calls Tryd.prog 24 #[.string ⟨(Lib.itoa (val ah al)).toArray⟩] w fun e w' => e = .returned (.tuple #[.agg #[.int .i64 ah, .int .u64 al], .int .i64 0]) ∧ Below w.heap.size w w' := by
  have hr := inR_val h1
  have hl := itoa_len hr
  have h := parse_short ⟨(Lib.itoa (val ah al)).toArray⟩ (by show (Lib.itoa (val ah al)).toArray.size ≤ 40; simpa using hl) w htab
  rw [show (ByteArray.mk (Lib.itoa (val ah al)).toArray).data.toList = Lib.itoa (val ah al) from by simp, readF_itoa hr, if_pos rfl] at h
  rw [num_of ⟨(hiOf_val h1).symm, (loOf_val h1).symm⟩] at h
  exact h

/-! ### Sums undone -/
theorem undo1 {ah al bh bl : Int} (h1 : Wf ah al) : hiOf (rnd (rnd (val ah al + val bh bl) - val bh bl)) = ah ∧ loOf (rnd (rnd (val ah al + val bh bl) - val bh bl)) = al := by
  have e : rnd (rnd (val ah al + val bh bl) - val bh bl) = val ah al := by rw [rnd_sub_rnd, show val ah al + val bh bl - val bh bl = val ah al from by omega, rnd_of (inR_val h1)]
  rw [e]; exact ⟨hiOf_val h1, loOf_val h1⟩
theorem undo2 {ah al bh bl : Int} (h2 : Wf bh bl) : hiOf (rnd (rnd (val ah al + val bh bl) - val ah al)) = bh ∧ loOf (rnd (rnd (val ah al + val bh bl) - val ah al)) = bl := by
  have e : rnd (rnd (val ah al + val bh bl) - val ah al) = val bh bl := by rw [rnd_sub_rnd, show val ah al + val bh bl - val ah al = val bh bl from by omega, rnd_of (inR_val h2)]
  rw [e]; exact ⟨hiOf_val h2, loOf_val h2⟩
theorem undo3 (a : Int) : rnd (a + rnd (-a)) = 0 := by rw [rnd_add_rnd', show a + -a = 0 from by omega]; decide
theorem undo4 (a b : Int) : rnd (- rnd (b - a)) = rnd (a - b) := by unfold rnd; omega
theorem cmp_flip (a b : Int) : cmp b a = - cmp a b := by unfold cmp; split <;> split <;> (try split) <;> omega
theorem sign_near {ah al bh bl : Int} (h1 : Wf ah al) (h2 : Wf bh bl) (a0 : -4611686018427387904 < ah) (a1 : ah < 4611686018427387904) (b0 : -4611686018427387904 < bh) (b1 : bh < 4611686018427387904) :
    cmp (rnd (val ah al - val bh bl)) 0 = cmp (val ah al) (val bh bl) := by
  obtain ⟨_, _, _, _⟩ := h1; obtain ⟨_, _, _, _⟩ := h2
  have e : rnd (val ah al - val bh bl) = val ah al - val bh bl := by unfold rnd val; omega
  rw [e]
  unfold cmp
  split <;> split <;> (try split) <;> (try split) <;> omega
end Go.Proofs.YtbobhjgndgaoaaaDoor
