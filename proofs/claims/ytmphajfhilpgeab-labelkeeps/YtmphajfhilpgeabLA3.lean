/- RIGHT UTF-8, the document's: tail, Utf, text. Own work of the verifier. -/
import Derived.Test.YtmphajfhilpgeabLA2
namespace Go.Proofs.Ytmphajfhilpgeab
open Go.RowKit

/-- A byte 80 to bf. -/
def tlB (b : Nat) : Bool := decide (128 ≤ b) && decide (b < 192)
def tlAt (l : List UInt8) (k : Nat) : Bool := decide (k < l.length) && tlB (l.getD k 0).toNat
theorem get_at (l : List UInt8) (k : Nat) (h : k < l.length) : (l.getD k 0) = l[k] := by
  rw [List.getD_eq_getElem?_getD, List.getElem?_eq_getElem h]; rfl
set_option maxHeartbeats 1000000 in
theorem tail_any (l : List UInt8) (k : Nat) (_hl : l.length ≤ 4611686018427387904) (w : World) :
    Calls Try.prog 71 #[.string ⟨l.toArray⟩, .int .i64 (k : Int)] w fun r w' => r = .returned (.bool (tlAt l k)) ∧ w' = w := by
  by_cases h : k < l.length
  · have h' : (k : Int) < (l.length : Int) := by omega
    have hB : k < (ByteArray.mk l.toArray).size := by show k < l.toArray.size; simpa using h
    have hbe : ((ByteArray.mk l.toArray)[k]'hB).toNat = l[k].toNat := rfl
    have hE : tlAt l k = tlB l[k].toNat := by unfold tlAt; rw [decide_eq_true h, get_at l k h]; rfl
    rw [hE]
    by_cases a : 128 ≤ l[k].toNat
    · have a' : (128 : Int) ≤ (((ByteArray.mk l.toArray)[k]'hB).toNat : Int) := by rw [hbe]; omega
      by_cases b : l[k].toNat < 192
      · have b' : (((ByteArray.mk l.toArray)[k]'hB).toNat : Int) < 192 := by rw [hbe]; omega
        rw [show tlB l[k].toNat = true from by unfold tlB; rw [decide_eq_true a, decide_eq_true b]; rfl]
        clear hbe hE a b
        as_aux_lemma =>
          go_enter Try.func71, Try.ntmps71
          go_wp2_with fail
          go_ret
          exact ⟨rfl, rfl⟩
      · have b' : (192 : Int) ≤ (((ByteArray.mk l.toArray)[k]'hB).toNat : Int) := by rw [hbe]; omega
        rw [show tlB l[k].toNat = false from by unfold tlB; rw [decide_eq_false b]; simp]
        clear hbe hE a b
        as_aux_lemma =>
          go_enter Try.func71, Try.ntmps71
          go_wp2_with fail
          go_ret
          exact ⟨congrArg (fun b => Ending.returned (Value.bool b)) (decide_eq_false (by omega)), rfl⟩
    · have a' : ¬ (128 : Int) ≤ (((ByteArray.mk l.toArray)[k]'hB).toNat : Int) := by rw [hbe]; omega
      rw [show tlB l[k].toNat = false from by unfold tlB; rw [decide_eq_false a]; simp]
      clear hbe hE a
      as_aux_lemma =>
        go_enter Try.func71, Try.ntmps71
        go_wp2_with fail
        go_ret
        exact ⟨rfl, rfl⟩
  · have h' : ¬ (k : Int) < (l.length : Int) := by omega
    rw [show tlAt l k = false from by unfold tlAt; rw [decide_eq_false h]; rfl]
    as_aux_lemma =>
      go_enter Try.func71, Try.ntmps71
      go_wp2_with fail
      go_ret
      exact ⟨rfl, rfl⟩
/-- n bytes behind the first one of a sign, c being what was read so far. -/
def cont : Nat → Nat → List UInt8 → Option Nat
  | 0, c, _ => some c
  | _ + 1, _, [] => none
  | n + 1, c, b :: r => if tlB b.toNat then cont n (64 * c + b.toNat - 128) r else none
/-- How many bytes follow the first one, and what it tells. -/
def lead (b : Nat) : Option (Nat × Nat) := if 192 ≤ b ∧ b < 224 then some (1, b - 192) else if 224 ≤ b ∧ b < 240 then some (2, b - 224) else if 240 ≤ b ∧ b < 248 then some (3, b - 240) else none
def fine (n c : Nat) : Bool := decide (¬ (n = 1 ∧ c < 128 ∨ n = 2 ∧ c < 2048 ∨ n = 3 ∧ c < 65536 ∨ 1114111 < c ∨ 55296 ≤ c ∧ c ≤ 57343))
/-- Right UTF-8. -/
def utfB : List UInt8 → Bool
  | [] => true
  | b :: r => if b.toNat < 128 then utfB r else
    match lead b.toNat with
    | none => false
    | some (n, c0) => match cont n c0 r with
      | none => false
      | some c => fine n c && utfB (r.drop n)
termination_by l => l.length
decreasing_by
  · simp
  · simp; omega
theorem cont_step (l : List UInt8) (k m c : Nat) : cont (m + 1) c (l.drop k) = if tlAt l k then cont m (64 * c + (l.getD k 0).toNat - 128) (l.drop (k + 1)) else none := by
  unfold tlAt
  rcases Nat.lt_or_ge k l.length with g | g
  · rw [List.drop_eq_getElem_cons g, cont, decide_eq_true g, get_at l k g]
    rfl
  · rw [List.drop_eq_nil_of_le g, cont, decide_eq_false (by omega)]
    rfl
theorem utf_low (l : List UInt8) (i : Nat) (h : i < l.length) (hb : l[i].toNat < 128) : utfB (l.drop i) = utfB (l.drop (i + 1)) := by
  rw [List.drop_eq_getElem_cons h, utfB, if_pos hb]
theorem utf_lead (l : List UInt8) (i n c0 : Nat) (h : i < l.length) (hb : ¬ l[i].toNat < 128) (hl : lead l[i].toNat = some (n, c0)) :
    utfB (l.drop i) = match cont n c0 (l.drop (i + 1)) with
      | none => false
      | some c => fine n c && utfB (l.drop (i + (n + 1))) := by
  rw [List.drop_eq_getElem_cons h, utfB, if_neg hb, hl]
  simp only
  cases cont n c0 (l.drop (i + 1)) with
  | none => rfl
  | some c =>
    simp only
    rw [List.drop_drop, show i + 1 + n = i + (n + 1) from by omega]
theorem utf_none (l : List UInt8) (i : Nat) (h : i < l.length) (hb : ¬ l[i].toNat < 128) (hl : lead l[i].toNat = none) : utfB (l.drop i) = false := by
  rw [List.drop_eq_getElem_cons h, utfB, if_neg hb, hl]
end Go.Proofs.Ytmphajfhilpgeab
