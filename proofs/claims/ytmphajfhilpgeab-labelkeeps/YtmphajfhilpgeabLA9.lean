/- LISTS OF LABELS in memory; SameLabels, the document's. Own work of the verifier. -/
import Derived.Test.YtmphajfhilpgeabLA8
namespace Go.Proofs.Ytmphajfhilpgeab
open Go.RowKit

abbrev Lb : Type := List UInt8 × List UInt8
theorem lt_of_cell {w : World} {a : Addr} {v : Value} (h : w.cell? a = some v) : a.block < w.heap.size := by
  unfold World.cell? at h
  split at h
  · rename_i h1
    rcases Nat.lt_or_ge a.block w.heap.size with k | k
    · exact k
    · rw [Array.getElem?_eq_none k] at h1; cases h1
  · cases h
/-- Labels, one behind the other. -/
def RowL (W : World) (b o : Nat) (L : List Lb) : Prop := ∀ i (h : i < L.length), W.cell? ⟨b, o + i * 2, none⟩ = some (.string ⟨L[i].1.toArray⟩) ∧ W.cell? ⟨b, o + i * 2 + 1, none⟩ = some (.string ⟨L[i].2.toArray⟩)
theorem RowL.below {W W1 : World} {b o : Nat} {L : List Lb} (h : RowL W b o L) (hb : Below W.heap.size W W1) : RowL W1 b o L := fun i hi => by
  obtain ⟨h1, h2⟩ := h i hi
  rw [hb.cell (p := ⟨b, o + i * 2, none⟩) (lt_of_cell h1), hb.cell (p := ⟨b, o + i * 2 + 1, none⟩) (lt_of_cell h2)]
  exact ⟨h1, h2⟩
theorem below_drewN (w : World) (n : Nat) : Below w.heap.size w (w.drewN n) := by
  induction n with
  | zero => exact Below.refl _ _
  | succ n ih => exact ⟨ih.os, ih.tape, ih.output, ih.size, ih.block⟩
theorem RowL.drew {W : World} {b o : Nat} {L : List Lb} (h : RowL W b o L) (n : Nat) : RowL (W.drewN n) b o L := h.below (below_drewN W n)
theorem retB {A B : Bool} (h : A = B) : Ending.returned (Value.bool A) = .returned (.bool B) := by rw [h]
theorem retI {k : IntKind} {A B : Int} (h : A = B) : Ending.returned (Value.int k A) = .returned (.int k B) := by rw [h]
set_option maxHeartbeats 2000000 in
set_option maxRecDepth 100000 in
theorem samel_any (ao : Option Addr) (b o cap : Nat) (A : List Lb) (hao : A ≠ [] → ao = some ⟨b, o, none⟩) (ao' : Option Addr) (b' o' cap' : Nat) (C : List Lb) (hao' : C ≠ [] → ao' = some ⟨b', o', none⟩) (hl : A.length ≤ 9223372036854775807) (w : World) (hA : RowL w b o A) (hC : RowL w b' o' C) :
    Calls Try.prog 14 #[.slice ao A.length cap, .slice ao' C.length cap'] w fun e w' => e = .returned (.bool (decide (A = C))) ∧ ∃ n, w' = w.drewN n := by
  by_cases hlen : A.length = C.length
  · have ht : ((A.length : Int) != (C.length : Int)) = false := by rw [bne_eq_false_iff_eq]; omega
    have HL : Hid _ := hlen
    have HA : Hid _ := hA
    have HC : Hid _ := hC
    clear hlen hA hC
    go_enter Try.func14, Try.ntmps14
    go_wp2_with fail
    go_loopw [5] (fun c wr => ∃ i n : Nat, i ≤ A.length ∧ c = .int .i64 (i : Int) ∧ wr = w.drewN n ∧ Hid (A.take i = C.take i)) (fun c _ => A.length - (intOf c).toNat)
    case atStart => exact ⟨0, 0, by omega, rfl, rfl, by simp [Hid]⟩
    case round =>
      obtain ⟨i, n, hi, rfl, rfl, hE⟩ := hrel
      by_cases hlt : i < A.length
      · have hlt2 : i < C.length := by have := HL.out; omega
        obtain rfl := hao (by intro e; rw [e] at hlt; simp at hlt)
        obtain rfl := hao' (by intro e; rw [e] at hlt2; simp at hlt2)
        have hlt' : (i : Int) < (A.length : Int) := by omega
        have hlt2' : (i : Int) < (C.length : Int) := by omega
        obtain ⟨q1, q2⟩ := HA.out i hlt
        obtain ⟨q3, q4⟩ := HC.out i hlt2
        have HT1 : Hid (A.take (i + 1) = A.take i ++ [A[i]]) := List.take_succ_eq_append_getElem hlt
        have HT2 : Hid (C.take (i + 1) = C.take i ++ [C[i]]) := List.take_succ_eq_append_getElem hlt2
        have HN : Hid (A[i] ≠ C[i] → A ≠ C) := fun h e => h (by subst e; rfl)
        obtain ⟨x, y, hxy⟩ : ∃ x y, A[i] = (x, y) := ⟨_, _, rfl⟩
        obtain ⟨u, v, huv⟩ : ∃ u v, C[i] = (u, v) := ⟨_, _, rfl⟩
        rw [hxy] at q1 q2 HT1 HN
        rw [huv] at q3 q4 HT2 HN
        clear hxy huv
        by_cases he : x = u ∧ y = v
        · obtain ⟨rfl, rfl⟩ := he
          clear HN
          as_aux_lemma =>
            go_wp2_with fail
            go_region
            go_wp2_with fail
            exact ⟨⟨i + 1, n + 1, by omega, by go_num, rfl, by unfold Hid; rw [HT1.out, HT2.out, hE.out]⟩, by simp [intOf]; omega⟩
        · have hne : decide (A = C) = false := decide_eq_false (HN.out (fun e => he ⟨(Prod.mk.inj e).1, (Prod.mk.inj e).2⟩))
          have HNE : Hid _ := hne
          have hor : (x == u) = false ∨ (x = u ∧ (y == v) = false) := by
            by_cases h1 : x = u
            · right
              exact ⟨h1, by simpa using fun h2 => he ⟨h1, h2⟩⟩
            · left
              simpa using h1
          clear he hne HN HT1 HT2 hE
          rcases hor with h1 | ⟨rfl, h1⟩
          · as_aux_lemma =>
              go_wp2_with fail
              go_region
              go_wp2_with fail
              go_ret
              exact ⟨retB HNE.out.symm, n + 1, rfl⟩
          · as_aux_lemma =>
              go_wp2_with fail
              go_region
              go_wp2_with fail
              go_ret
              exact ⟨retB HNE.out.symm, n + 1, rfl⟩
      · obtain rfl : i = A.length := by omega
        have hlt' : ¬ (A.length : Int) < (A.length : Int) := by omega
        have he : decide (A = C) = true := by
          have := hE.out
          rw [List.take_length, HL.out, List.take_length] at this
          exact decide_eq_true this
        have HE : Hid _ := he
        clear he
        as_aux_lemma =>
          go_wp2_with fail
          go_ret
          exact ⟨retB HE.out.symm, n, rfl⟩
  · have ht : ((A.length : Int) != (C.length : Int)) = true := by rw [bne_iff_ne]; omega
    have he : decide (A = C) = false := decide_eq_false (fun e => hlen (by rw [e]))
    rw [he]
    clear he hlen hA hC
    as_aux_lemma =>
      go_enter Try.func14, Try.ntmps14
      go_wp2_with fail
      go_ret
      exact ⟨rfl, 0, rfl⟩
end Go.Proofs.Ytmphajfhilpgeab
