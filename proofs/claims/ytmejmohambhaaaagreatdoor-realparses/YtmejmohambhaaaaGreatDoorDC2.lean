/- prefixIsLessThan, AND leftShift. Own work of the verifier. -/
import Derived.Test.YtmejmohambhaaaaGreatDoorDC1
namespace Go.Proofs.YtmejmohambhaaaaGreatDoor
open Go.RowKit

/-- The table of the shifts to the left. -/
def Cheat (w : World) : Prop := ∃ b o c, w.cell? ⟨9, 0, none⟩ = some (.slice (some ⟨b, o, none⟩) 61 c) ∧ ∀ k, k < 61 → w.cell? ⟨b, o + k * 2, none⟩ = some (.int .i64 (chD k : Int)) ∧ w.cell? ⟨b, o + k * 2 + 1, none⟩ = some (.string ⟨(chS k).toArray⟩)
theorem chF_get (k i : Nat) (h : i < (chS k).length) : (chS k)[i].toNat = chF k i := by
  unfold chF; rw [List.getD, List.getElem?_eq_getElem h]; rfl
theorem lt_of_cell2 {w : World} {b o : Nat} {v : Value} (h : w.cell? ⟨b, o, none⟩ = some v) : b < w.heap.size := by
  rcases Nat.lt_or_ge b w.heap.size with h1 | h1
  · exact h1
  · unfold World.cell? at h
    rw [Array.getElem?_eq_none h1] at h
    cases h
theorem DecAt.lt {g n : Nat} {D : Nat → Nat} {dp : Int} {ng tr : Bool} {w : World} (h : DecAt g D n dp ng tr w) : g < w.heap.size := lt_of_cell2 h.nd
theorem DecAt.below {g n : Nat} {D : Nat → Nat} {dp : Int} {ng tr : Bool} {w w' : World} (h : DecAt g D n dp ng tr w) (hb : Below w.heap.size w w') : DecAt g D n dp ng tr w' := by
  obtain ⟨a, b⟩ := bcell hb
  have hl := h.lt
  exact ⟨fun i hi => by rw [a g i hl]; exact h.dig i hi, by rw [a g _ hl]; exact h.nd, by rw [a g _ hl]; exact h.dp, by rw [a g _ hl]; exact h.neg, by rw [a g _ hl]; exact h.tr, fun o => by rw [b g o hl]; exact h.fr o⟩
/-- Whether A is below B, as it is told. -/
def LessIs (A B : Nat) (w : World) (e : Ending) (w' : World) : Prop := e = .returned (.bool (decide (A < B))) ∧ ∃ m, w' = w.drewN m
theorem LessIs.yes {A B : Nat} {w : World} {e : Ending} {w' : World} (he : e = .returned (.bool true)) (h : A < B) (hw : ∃ m, w' = w.drewN m) : LessIs A B w e w' := ⟨by rw [he, decide_eq_true h], hw⟩
theorem LessIs.no {A B : Nat} {w : World} {e : Ending} {w' : World} (he : e = .returned (.bool false)) (h : B ≤ A) (hw : ∃ m, w' = w.drewN m) : LessIs A B w e w' := ⟨by rw [he, decide_eq_false (by omega)], hw⟩
set_option maxHeartbeats 2000000 in
set_option maxRecDepth 100000 in
theorem less_any (g : Nat) (D : Nat → Nat) (n k : Nat) (dp : Int) (ng tr : Bool) (hn : n ≤ 800) (hd : ∀ i, i < n → 48 ≤ D i ∧ D i ≤ 57) (k0 : 1 ≤ k) (k1 : k ≤ 60) (w : World) (h : DecAt g D n dp ng tr w) :
    Calls Tryz.prog 130 #[.slice (some ⟨g, 0, none⟩) n 800, .string ⟨(chS k).toArray⟩] w fun e w' => LessIs (pv D n * 10 ^ (chS k).length) (5 ^ k * 10 ^ n) w e w' := by
  obtain ⟨len, val, low, high, dig, last, one, few, some1, most⟩ := cheats k k0 k1
  have HL : Hid (∀ i, i < n → i < (chS k).length → pv D i = pv (chF k) i → D i < chF k i → pv D n * 10 ^ (chS k).length < 5 ^ k * 10 ^ n) := fun i h1 h2 h3 h4 => by
    rw [← val]; exact pv_less D (chF k) n _ i h1 h2 (fun m hm => (hd m hm).2) h3 (hd i h1).1 h4
  have HG : Hid (∀ i, i < n → i < (chS k).length → pv D i = pv (chF k) i → chF k i < D i → 5 ^ k * 10 ^ n ≤ pv D n * 10 ^ (chS k).length) := fun i h1 h2 h3 h4 => by
    rw [← val]; exact Nat.le_of_lt (pv_less (chF k) D _ n i h2 h1 (fun m hm => (dig m hm).2) h3.symm (dig i h2).1 h4)
  have HS : Hid (n < (chS k).length → pv D n = pv (chF k) n → pv D n * 10 ^ (chS k).length < 5 ^ k * 10 ^ n) := fun h1 h2 => by
    rw [← val]; exact pv_short D (chF k) n _ h1 h2 last
  have HE : Hid ((chS k).length ≤ n → pv D (chS k).length = pv (chF k) (chS k).length → 5 ^ k * 10 ^ n ≤ pv D n * 10 ^ (chS k).length) := fun h1 h2 => by
    rw [← val]; exact pv_long D (chF k) n _ h1 h2
  have hget := chF_get k
  clear val low high len one few dig last some1 hd
  generalize chS k = s at *
  generalize chF k = F at *
  generalize pv D n * 10 ^ s.length = A at *
  generalize 5 ^ k * 10 ^ n = B at *
  go_enter Tryz.func130, Tryz.ntmps130
  go_wp2_with fail
  go_loopw [5] (fun i wr => ∃ j : Nat, j ≤ s.length ∧ j ≤ n ∧ i = .int .i64 (j : Int) ∧ Hid (pv D j = pv F j) ∧ ∃ q, wr = w.drewN q) (fun i _ => s.length - (intOf i).toNat)
  case atStart => exact ⟨0, by omega, by omega, rfl, rfl, 0, rfl⟩
  case round =>
    obtain ⟨j, hj, hjn, rfl, hI, q, rfl⟩ := hrel
    by_cases hlt : j < s.length
    · have hlt' : (j : Int) < (s.length : Int) := by omega
      by_cases hjn' : j < n
      · have hjn2 : ¬ (n : Int) ≤ (j : Int) := by omega
        have hB : j < (ByteArray.mk s.toArray).size := by show j < s.toArray.size; simpa using hlt
        have hby : ((ByteArray.mk s.toArray)[j]'hB).toNat = F j := hget j hlt
        have c1 := h.dig j (by omega)
        by_cases e : D j = F j
        · have t1 : ((D j : Int) != (((ByteArray.mk s.toArray)[j]'hB).toNat : Int)) = false := by rw [bne_eq_false_iff_eq, hby]; omega
          have HN : Hid (pv D (j + 1) = pv F (j + 1)) := by
            show pv D j * 10 + (D j - 48) = pv F j * 10 + (F j - 48)
            rw [hI.out, e]
          clear hby
          as_aux_lemma =>
            go_wp2_with fail
            go_quiet (fail)
            go_wp2_with fail
            exact ⟨⟨j + 1, by omega, by omega, by go_num, HN, _, rfl⟩, by simp [intOf]; omega⟩
        · have t1 : ((D j : Int) != (((ByteArray.mk s.toArray)[j]'hB).toNat : Int)) = true := by rw [bne_iff_ne, hby]; omega
          by_cases c : D j < F j
          · have t2 : (D j : Int) < (((ByteArray.mk s.toArray)[j]'hB).toNat : Int) := by rw [hby]; omega
            clear hby
            as_aux_lemma =>
              go_wp2_with fail
              go_quiet (fail)
              go_wp2_with fail
              go_quiet (fail)
              go_wp2_with fail
              go_ret
              exact LessIs.yes rfl (HL.out j hjn' hlt hI.out c) ⟨_, by rw [World.drewN_drewN, World.drewN_drewN]⟩
          · have t2 : ¬ (D j : Int) < (((ByteArray.mk s.toArray)[j]'hB).toNat : Int) := by rw [hby]; omega
            have T3 : Hid (decide (D j < ((ByteArray.mk s.toArray)[j]'hB).toNat) = false) := decide_eq_false (by rw [hby]; omega)
            clear hby
            as_aux_lemma =>
              go_wp2_with fail
              go_quiet (fail)
              go_wp2_with fail
              go_quiet (fail)
              go_wp2_with fail
              go_ret
              exact LessIs.no (congrArg (fun b => Ending.returned (.bool b)) T3.out) (HG.out j hjn' hlt hI.out (by omega)) ⟨_, by rw [World.drewN_drewN, World.drewN_drewN]⟩
      · have hjn2 : (n : Int) ≤ (j : Int) := by omega
        obtain rfl : j = n := by omega
        as_aux_lemma =>
          go_wp2_with fail
          go_ret
          exact LessIs.yes rfl (HS.out hlt hI.out) ⟨_, rfl⟩
    · obtain rfl : j = s.length := by omega
      have hlt' : ¬ (s.length : Int) < (s.length : Int) := by omega
      as_aux_lemma =>
        go_wp2_with fail
        go_ret
        exact LessIs.no rfl (HE.out hjn hI.out) ⟨_, rfl⟩
end Go.Proofs.YtmejmohambhaaaaGreatDoor
