/- NAMES, the document's: ends, plain, Name, LabelName. Own work of the verifier. -/
import Derived.Test.YtmphajfhilpgeabLA1
namespace Go.Proofs.Ytmphajfhilpgeab
open Go.RowKit

theorem drop_bytes (l : List UInt8) (k : Nat) : (ByteArray.mk l.toArray).extract k l.length = ⟨(l.drop k).toArray⟩ := by
  apply ByteArray.ext
  rw [ByteArray.data_extract]
  simp
  exact List.take_of_length_le (by simp)
theorem take_bytes (l : List UInt8) (k : Nat) : (ByteArray.mk l.toArray).extract 0 k = ⟨(l.take k).toArray⟩ := by
  apply ByteArray.ext
  rw [ByteArray.data_extract]
  simp
/-- Does a text end so? -/
def endsB (l e : List UInt8) : Bool := decide (e.length ≤ l.length) && (l.drop (l.length - e.length) == e)
set_option maxHeartbeats 1000000 in
theorem ends_any (l e : List UInt8) (hl : l.length ≤ 4611686018427387904) (he : e.length ≤ 4611686018427387904) (w : World) :
    Calls Try.prog 58 #[.string ⟨l.toArray⟩, .string ⟨e.toArray⟩] w fun r w' => r = .returned (.bool (endsB l e)) ∧ w' = w := by
  by_cases h : e.length ≤ l.length
  · have h' : (e.length : Int) ≤ (l.length : Int) := by omega
    obtain ⟨k, hk⟩ : ∃ k, k = l.length - e.length := ⟨_, rfl⟩
    have hk' : (l.length : Int) - (e.length : Int) = (k : Int) := by omega
    have hkl : k ≤ l.length := by omega
    have hD := drop_bytes l k
    have hE : endsB l e = (l.drop k == e) := by unfold endsB; rw [decide_eq_true h, ← hk]; rfl
    rw [hE]
    generalize hd : l.drop k = d at *
    clear hk hE
    by_cases g : d = e
    · subst g
      rw [show (d == d) = true from by simp]
      as_aux_lemma =>
        go_enter Try.func58, Try.ntmps58
        go_wp2_with fail
        go_ret
        exact ⟨rfl, rfl⟩
    · have g' : (d == e) = false := by simpa using g
      rw [g']
      clear g
      as_aux_lemma =>
        go_enter Try.func58, Try.ntmps58
        go_wp2_with fail
        go_ret
        exact ⟨rfl, rfl⟩
  · have h' : ¬ (e.length : Int) ≤ (l.length : Int) := by omega
    rw [show endsB l e = false from by unfold endsB; rw [decide_eq_false h]; rfl]
    as_aux_lemma =>
      go_enter Try.func58, Try.ntmps58
      go_wp2_with fail
      go_ret
      exact ⟨rfl, rfl⟩
/-- A plain name: 1 to 64 bytes of a row, no digit first. -/
def plainB (colon : Bool) (l : List UInt8) : Bool := decide (1 ≤ l.length) && decide (l.length ≤ 64) && decide (rowN colon l = l.length) && !(decide (48 ≤ (l.getD 0 0).toNat) && decide ((l.getD 0 0).toNat ≤ 57))
theorem get_zero (l : List UInt8) (h : 0 < l.length) (hB : 0 < (ByteArray.mk l.toArray).size) : ((ByteArray.mk l.toArray)[0]'hB).toNat = (l.getD 0 0).toNat := by
  rw [List.getD_eq_getElem?_getD, List.getElem?_eq_getElem h]
  rfl
set_option maxHeartbeats 1000000 in
theorem plain_any (l : List UInt8) (colon : Bool) (hl : l.length ≤ 4611686018427387904) (w : World) :
    Calls Try.prog 57 #[.string ⟨l.toArray⟩, .bool colon] w fun r w' => r = .returned (.bool (plainB colon l)) ∧ w' = w := by
  have HR : Hid (∀ W, Calls Try.prog 38 #[.string ⟨l.toArray⟩, .int .i64 0, .bool colon] W fun e w' => e = .returned (.int .i64 ((rowN colon l : Nat) : Int)) ∧ w' = W) := fun W => row_any l 0 colon (by omega) hl W
  by_cases g0 : 1 ≤ l.length
  · have p1 : (1 : Int) ≤ (l.length : Int) := by omega
    by_cases g1 : l.length ≤ 64
    · have p2 : (l.length : Int) ≤ 64 := by omega
      by_cases g2 : rowN colon l = l.length
      · rw [g2] at HR
        have hB : 0 < (ByteArray.mk l.toArray).size := by show 0 < l.toArray.size; rw [List.size_toArray]; omega
        have hbe := get_zero l g0 hB
        by_cases g3 : 48 ≤ (l.getD 0 0).toNat
        · have p4 : (48 : Int) ≤ (((ByteArray.mk l.toArray)[0]'hB).toNat : Int) := by rw [hbe]; omega
          by_cases g4 : (l.getD 0 0).toNat ≤ 57
          · have p5 : (((ByteArray.mk l.toArray)[0]'hB).toNat : Int) ≤ 57 := by rw [hbe]; omega
            rw [show plainB colon l = false from by unfold plainB; rw [decide_eq_true g3, decide_eq_true g4]; simp]
            clear g0 g1 g2 g3 g4 hbe
            as_aux_lemma =>
              go_enter Try.func57, Try.ntmps57
              go_wp2_with fail
              refine (HR.out _).mono ?_
              rintro e w1 ⟨rfl, rfl⟩
              go_wp2_with fail
              go_ret
              exact ⟨rfl, rfl⟩
          · have p5 : ¬ (((ByteArray.mk l.toArray)[0]'hB).toNat : Int) ≤ 57 := by rw [hbe]; omega
            rw [show plainB colon l = true from by unfold plainB; rw [decide_eq_true g0, decide_eq_true g1, decide_eq_true g2, decide_eq_false g4]; simp]
            clear g0 g1 g2 g3 g4 hbe
            as_aux_lemma =>
              go_enter Try.func57, Try.ntmps57
              go_wp2_with fail
              refine (HR.out _).mono ?_
              rintro e w1 ⟨rfl, rfl⟩
              go_wp2_with fail
              go_ret
              exact ⟨congrArg (fun b => Ending.returned (Value.bool (!b))) (decide_eq_false (by omega)), rfl⟩
        · have p4 : ¬ (48 : Int) ≤ (((ByteArray.mk l.toArray)[0]'hB).toNat : Int) := by rw [hbe]; omega
          rw [show plainB colon l = true from by unfold plainB; rw [decide_eq_true g0, decide_eq_true g1, decide_eq_true g2, decide_eq_false g3]; simp]
          clear g0 g1 g2 g3 hbe
          as_aux_lemma =>
            go_enter Try.func57, Try.ntmps57
            go_wp2_with fail
            refine (HR.out _).mono ?_
            rintro e w1 ⟨rfl, rfl⟩
            go_wp2_with fail
            go_ret
            exact ⟨rfl, rfl⟩
      · have p3 : (((rowN colon l : Nat) : Int) == (l.length : Int)) = false := by rw [beq_eq_false_iff_ne]; omega
        rw [show plainB colon l = false from by unfold plainB; rw [decide_eq_false g2]; simp]
        generalize rowN colon l = R at *
        clear g0 g1 g2
        as_aux_lemma =>
          go_enter Try.func57, Try.ntmps57
          go_wp2_with fail
          refine (HR.out _).mono ?_
          rintro e w1 ⟨rfl, rfl⟩
          go_wp2_with fail
          go_ret
          exact ⟨rfl, rfl⟩
    · have p2 : ¬ (l.length : Int) ≤ 64 := by omega
      rw [show plainB colon l = false from by unfold plainB; rw [decide_eq_false g1]; simp]
      clear g0 g1
      as_aux_lemma =>
        go_enter Try.func57, Try.ntmps57
        go_wp2_with fail
        go_ret
        exact ⟨rfl, rfl⟩
  · have p1 : ¬ (1 : Int) ≤ (l.length : Int) := by omega
    rw [show plainB colon l = false from by unfold plainB; rw [decide_eq_false g0]; simp]
    clear g0
    as_aux_lemma =>
      go_enter Try.func57, Try.ntmps57
      go_wp2_with fail
      go_ret
      exact ⟨rfl, rfl⟩
theorem plainB_len {colon : Bool} {l : List UInt8} (h : plainB colon l = true) : 1 ≤ l.length ∧ l.length ≤ 64 ∧ rowN colon l = l.length := by
  unfold plainB at h
  simp only [Bool.and_eq_true, decide_eq_true_eq] at h
  exact ⟨h.1.1.1, h.1.1.2, h.1.2⟩
/-- A family's name. -/
def nameB (l : List UInt8) : Bool := plainB true l && !endsB l [95, 98, 117, 99, 107, 101, 116] && !endsB l [95, 115, 117, 109] && !endsB l [95, 99, 111, 117, 110, 116]
set_option maxHeartbeats 1000000 in
theorem name_any (l : List UInt8) (hl : l.length ≤ 4611686018427387904) (w : World) :
    Calls Try.prog 33 #[.string ⟨l.toArray⟩] w fun r w' => r = .returned (.bool (nameB l)) ∧ w' = w := by
  have HP : Hid _ := fun W => plain_any l true hl W
  have H1 : Hid (∀ W, Calls Try.prog 58 #[.string ⟨l.toArray⟩, .string ⟨#[95, 98, 117, 99, 107, 101, 116]⟩] W fun r w' => r = .returned (.bool (endsB l [95, 98, 117, 99, 107, 101, 116])) ∧ w' = W) := fun W => ends_any l [95, 98, 117, 99, 107, 101, 116] hl (by decide) W
  have H2 : Hid (∀ W, Calls Try.prog 58 #[.string ⟨l.toArray⟩, .string ⟨#[95, 115, 117, 109]⟩] W fun r w' => r = .returned (.bool (endsB l [95, 115, 117, 109])) ∧ w' = W) := fun W => ends_any l [95, 115, 117, 109] hl (by decide) W
  have H3 : Hid (∀ W, Calls Try.prog 58 #[.string ⟨l.toArray⟩, .string ⟨#[95, 99, 111, 117, 110, 116]⟩] W fun r w' => r = .returned (.bool (endsB l [95, 99, 111, 117, 110, 116])) ∧ w' = W) := fun W => ends_any l [95, 99, 111, 117, 110, 116] hl (by decide) W
  have hN : nameB l = (plainB true l && !endsB l [95, 98, 117, 99, 107, 101, 116] && !endsB l [95, 115, 117, 109] && !endsB l [95, 99, 111, 117, 110, 116]) := rfl
  rw [hN]
  generalize plainB true l = b0 at *
  generalize endsB l [95, 98, 117, 99, 107, 101, 116] = b1 at *
  generalize endsB l [95, 115, 117, 109] = b2 at *
  generalize endsB l [95, 99, 111, 117, 110, 116] = b3 at *
  clear hN
  cases b0 <;> cases b1 <;> cases b2 <;> cases b3 <;> (
    as_aux_lemma =>
      go_enter Try.func33, Try.ntmps33
      go_wp2_with (first
        | (go_at_call 57; with_reducible refine (HP.out _).mono ?_; rintro e w1 ⟨rfl, rfl⟩)
        | (go_at_call 58; first | (with_reducible refine (H1.out _).mono ?_; rintro e w1 ⟨rfl, rfl⟩) | (with_reducible refine (H2.out _).mono ?_; rintro e w1 ⟨rfl, rfl⟩) | (with_reducible refine (H3.out _).mono ?_; rintro e w1 ⟨rfl, rfl⟩))
        | fail)
      go_ret
      exact ⟨rfl, rfl⟩)
/-- A label's name. -/
def lnameB (l : List UInt8) : Bool := plainB false l && !(l == [108, 101]) && !(l == [113, 117, 97, 110, 116, 105, 108, 101]) && !(decide (2 ≤ l.length) && (l.take 2 == [95, 95]))
set_option maxHeartbeats 1000000 in
theorem lname_any (l : List UInt8) (hl : l.length ≤ 4611686018427387904) (w : World) :
    Calls Try.prog 35 #[.string ⟨l.toArray⟩] w fun r w' => r = .returned (.bool (lnameB l)) ∧ w' = w := by
  have HP : Hid _ := fun W => plain_any l false hl W
  have hN : lnameB l = (plainB false l && !(l == [108, 101]) && !(l == [113, 117, 97, 110, 116, 105, 108, 101]) && !(decide (2 ≤ l.length) && (l.take 2 == [95, 95]))) := rfl
  rw [hN]
  have hT := take_bytes l 2
  generalize hb1 : (l == [108, 101]) = b1 at *
  generalize hb2 : (l == [113, 117, 97, 110, 116, 105, 108, 101]) = b2 at *
  generalize plainB false l = b0 at *
  clear hN
  by_cases g : 2 ≤ l.length
  · have g' : (2 : Int) ≤ (l.length : Int) := by omega
    rw [decide_eq_true g]
    generalize l.take 2 = t at *
    generalize hb3 : (t == [95, 95]) = b3 at *
    cases b0 <;> cases b1 <;> cases b2 <;> cases b3 <;> (
      as_aux_lemma =>
        go_enter Try.func35, Try.ntmps35
        go_wp2_with (first
          | (go_at_call 57; with_reducible refine (HP.out _).mono ?_; rintro e w1 ⟨rfl, rfl⟩)
          | fail)
        go_ret
        exact ⟨rfl, rfl⟩)
  · have g' : ¬ (2 : Int) ≤ (l.length : Int) := by omega
    rw [decide_eq_false g]
    clear hT
    cases b0 <;> cases b1 <;> cases b2 <;> (
      as_aux_lemma =>
        go_enter Try.func35, Try.ntmps35
        go_wp2_with (first
          | (go_at_call 57; with_reducible refine (HP.out _).mono ?_; rintro e w1 ⟨rfl, rfl⟩)
          | fail)
        go_ret
        exact ⟨rfl, rfl⟩)
end Go.Proofs.Ytmphajfhilpgeab
