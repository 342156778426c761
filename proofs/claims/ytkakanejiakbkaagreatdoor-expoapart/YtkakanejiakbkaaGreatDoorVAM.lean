/- THE DOCUMENT's calls of bucket. Own work of the verifier. -/
import Derived.Test.YtkakanejiakbkaaGreatDoorVAL
import Derived.Test.YtkakanejiakbkaaGreatDoorVAK
import Derived.WalkKit
import Derived.WalkSpells
import Derived.RowKit3
import Derived.Below
import Derived.Outline
import Derived.Deep.QuietTactic
import Derived.Deep.Draws
import Derived.BigQuiet
import Derived.Laws.Bits64
import Derived.Laws.BitsAllLaws
import Derived.Deep.RegionHeld3
import Derived.Deep.DeepCutAuto
import Derived.Test.YtkakanejiakbkaaGreatDoorVAH
namespace Go.Proofs.YtkakanejiakbkaaGreatDoor
open Go.RowKit

end Go.Proofs.YtkakanejiakbkaaGreatDoor
/- LISTS OF COUNTS in memory; Total. Own work of the verifier. -/
namespace Go.Proofs.YtkakanejiakbkaaGreatDoor
open Go.RowKit

def Wc (L : List Cn) : Prop := ∀ c ∈ L, -9223372036854775808 ≤ c.1 ∧ c.1 < 9223372036854775808 ∧ c.2 < 18446744073709551616
def RowC (W : World) (b o : Nat) (L : List Cn) : Prop := ∀ i (h : i < L.length), W.cell? ⟨b, o + i * 2, none⟩ = some (.int .i64 L[i].1) ∧ W.cell? ⟨b, o + i * 2 + 1, none⟩ = some (.int .u64 (L[i].2 : Int))
theorem lt_of_cell {w : World} {a : Addr} {v : Value} (h : w.cell? a = some v) : a.block < w.heap.size := by
  unfold World.cell? at h
  split at h
  · rename_i h1
    rcases Nat.lt_or_ge a.block w.heap.size with k | k
    · exact k
    · rw [Array.getElem?_eq_none k] at h1; cases h1
  · cases h
theorem RowC.lt {W : World} {b o : Nat} {L : List Cn} (h : RowC W b o L) (hL : L ≠ []) : b < W.heap.size := by
  have h0 : 0 < L.length := List.length_pos_iff.2 hL
  exact lt_of_cell (h 0 h0).1
theorem RowC.below {W W1 : World} {b o : Nat} {L : List Cn} {B : Nat} (h : RowC W b o L) (hb : Below B W W1) (hB : L ≠ [] → b < B) : RowC W1 b o L := fun i hi => by
  have hL : L ≠ [] := fun e => by rw [e] at hi; simp at hi
  rw [hb.cell (p := ⟨b, o + i * 2, none⟩) (hB hL), hb.cell (p := ⟨b, o + i * 2 + 1, none⟩) (hB hL)]
  exact h i hi
/-- The sum of all, brought round. -/
def tot (L : List Cn) : Nat := (L.map (·.2)).sum % 18446744073709551616
end Go.Proofs.YtkakanejiakbkaaGreatDoor
/- Same and At, the document's. Own work of the verifier. -/
namespace Go.Proofs.YtkakanejiakbkaaGreatDoor
open Go.RowKit

set_option maxHeartbeats 1000000 in
theorem same_any (ao : Option Addr) (b o cap : Nat) (A : List Cn) (hao : A ≠ [] → ao = some ⟨b, o, none⟩) (ao' : Option Addr) (b' o' cap' : Nat) (C : List Cn) (hao' : C ≠ [] → ao' = some ⟨b', o', none⟩) (hl : A.length ≤ 9223372036854775807) (hl' : C.length ≤ 9223372036854775807) (w : World) (hA : RowC w b o A) (hC : RowC w b' o' C) :
    Calls Tryz.prog 18 #[.slice ao A.length cap, .slice ao' C.length cap'] w fun e w' => e = .returned (.bool (decide (A = C))) ∧ ∃ n, w' = w.drewN n := by
  by_cases hlen : A.length = C.length
  · have ht : ((A.length : Int) != (C.length : Int)) = false := by rw [bne_eq_false_iff_eq]; omega
    have HL : Hid _ := hlen
    clear hlen
    go_enter Tryz.func18, Tryz.ntmps18
    go_wp2_with fail
    go_loopw [5] (fun c wr => ∃ i n : Nat, i ≤ A.length ∧ c = .int .i64 (i : Int) ∧ wr = w.drewN n ∧ Hid (A.take i = C.take i)) (fun c _ => A.length - (intOf c).toNat)
    case atStart => exact ⟨0, 0, by omega, rfl, rfl, by simp [Hid]⟩
    case round =>
      obtain ⟨i, n, hi, rfl, rfl, hE⟩ := hrel
      by_cases hlt : i < A.length
      · have hlt2 : i < C.length := by have := HL.out; omega
        obtain rfl := hao (by intro e; rw [e] at hlt; simp at hlt)
        obtain rfl := hao' (by intro e; rw [e] at hlt2; simp at hlt2)
        have hlt' : (i : Int) < (A.length : Int) := by omega
        have hlt2' : (i : Int) < (C.length : Int) := by omega
        obtain ⟨q1, q2⟩ := hA i hlt
        obtain ⟨q3, q4⟩ := hC i hlt2
        have HT1 : Hid (A.take (i + 1) = A.take i ++ [A[i]]) := List.take_succ_eq_append_getElem hlt
        have HT2 : Hid (C.take (i + 1) = C.take i ++ [C[i]]) := List.take_succ_eq_append_getElem hlt2
        have HN : Hid (A[i] ≠ C[i] → A ≠ C) := fun h e => h (by subst e; rfl)
        obtain ⟨x, y, hxy⟩ : ∃ x y, A[i] = (x, y) := ⟨_, _, rfl⟩
        obtain ⟨u, v, huv⟩ : ∃ u v, C[i] = (u, v) := ⟨_, _, rfl⟩
        rw [hxy] at q1 q2 HT1 HN
        rw [huv] at q3 q4 HT2 HN
        clear hxy huv
        by_cases he : x = u ∧ y = v
        · obtain ⟨rfl, rfl⟩ := he
          go_wp2_with fail
          go_region
          go_wp2_with fail
          exact ⟨⟨i + 1, n + 1, by omega, by go_num, rfl, by unfold Hid; rw [HT1.out, HT2.out, hE.out]⟩, by simp [intOf]; omega⟩
        · have hne : decide (A = C) = false := decide_eq_false (HN.out (fun e => he ⟨(Prod.mk.inj e).1, (Prod.mk.inj e).2⟩))
          have HNE : Hid _ := hne
          have hor : (x == u) = false ∨ (x = u ∧ ((y : Int) == (v : Int)) = false) := by
            by_cases h1 : x = u
            · right
              exact ⟨h1, by rw [beq_eq_false_iff_ne]; intro h2; exact he ⟨h1, by omega⟩⟩
            · left
              rw [beq_eq_false_iff_ne]
              exact h1
          clear he hne HN
          rcases hor with h1 | ⟨rfl, h1⟩
          · go_wp2_with fail
            go_region
            go_wp2_with fail
            go_ret
            exact ⟨retB HNE.out.symm, n + 1, rfl⟩
          · go_wp2_with fail
            go_region
            go_wp2_with fail
            go_ret
            exact ⟨retB HNE.out.symm, n + 1, rfl⟩
      · obtain rfl : i = A.length := by omega
        have hlt' : ¬ (A.length : Int) < (A.length : Int) := by omega
        have he : decide (A = C) = true := by
          have := hE.out
          rw [List.take_length, HL.out, List.take_length] at this
          exact decide_eq_true this
        have HE : Hid _ := he
        clear he
        go_wp2_with fail
        go_ret
        exact ⟨retB HE.out.symm, n, rfl⟩
  · have ht : ((A.length : Int) != (C.length : Int)) = true := by rw [bne_iff_ne]; omega
    have hne : decide (A = C) = false := decide_eq_false (fun e => hlen (by rw [e]))
    rw [hne]
    clear hlen hne
    go_enter Tryz.func18, Tryz.ntmps18
    go_wp2_with fail
    go_ret
    exact ⟨rfl, 0, rfl⟩
end Go.Proofs.YtkakanejiakbkaaGreatDoor
/- At, the document's. Own work of the verifier. -/
namespace Go.Proofs.YtkakanejiakbkaaGreatDoor
open Go.RowKit

def atF : List Cn → Nat → Int × Int
  | [], _ => (0, 2)
  | c :: L, r => if r = 0 then (0, 2) else if r ≤ c.2 then (c.1, 0) else atF L (r - c.2)
end Go.Proofs.YtkakanejiakbkaaGreatDoor
/- May, the document's. Own work of the verifier. -/
namespace Go.Proofs.YtkakanejiakbkaaGreatDoor
open Go.RowKit

/-- What is wrong with a count at its place; 0: nothing. -/
def bad (N : Nat) (L : List Cn) (i : Nat) : Int :=
  if (L.getD i (0, 1)).1 < 0 ∨ (N : Int) ≤ (L.getD i (0, 1)).1 then 2
  else if 0 < i ∧ (L.getD i (0, 1)).1 ≤ (L.getD (i - 1) (0, 1)).1 then 15
  else if (L.getD i (0, 1)).2 = 0 then 16 else 0
def sumN (L : List Cn) : Nat := (L.map (·.2)).sum
theorem sumN_take (L : List Cn) (i : Nat) (h : i < L.length) : sumN (L.take (i + 1)) = sumN (L.take i) + L[i].2 := by
  unfold sumN
  rw [List.take_succ_eq_append_getElem h, List.map_append, List.sum_append]
  simp
/-- The error of counts. -/
def MayIs (p : Int) (L : List Cn) (e : Int) : Prop :=
  (¬ (1 ≤ p ∧ p ≤ 14) ∧ e = 1) ∨ ((1 ≤ p ∧ p ≤ 14) ∧ ((∃ i, i < L.length ∧ (∀ j, j < i → bad ((64 - p.toNat) * 2 ^ p.toNat) L j = 0) ∧ bad ((64 - p.toNat) * 2 ^ p.toNat) L i ≠ 0 ∧ e = bad ((64 - p.toNat) * 2 ^ p.toNat) L i) ∨
    ((∀ j, j < L.length → bad ((64 - p.toNat) * 2 ^ p.toNat) L j = 0) ∧ e = if 9223372036854775807 < sumN L then 3 else 0)))
theorem MayIs.uniq {p : Int} {L : List Cn} {e f : Int} (h : MayIs p L e) (k : MayIs p L f) : e = f := by
  rcases h with ⟨h1, rfl⟩ | ⟨h1, h2⟩
  · rcases k with ⟨_, rfl⟩ | ⟨k1, _⟩
    · rfl
    · exact absurd k1 h1
  · rcases k with ⟨k1, _⟩ | ⟨_, k2⟩
    · exact absurd h1 k1
    · rcases h2 with ⟨i, a1, a2, a3, rfl⟩ | ⟨a1, rfl⟩ <;> rcases k2 with ⟨j, b1, b2, b3, rfl⟩ | ⟨b1, rfl⟩
      · rcases Nat.lt_trichotomy i j with c | c | c
        · exact absurd (b2 i c) a3
        · rw [c]
        · exact absurd (a2 j c) b3
      · exact absurd (b1 i a1) a3
      · exact absurd (a1 j b1) b3
      · rfl
end Go.Proofs.YtkakanejiakbkaaGreatDoor
/- THE PLAIN MATHEMATICS of products and of a division bit by bit (no Go in sight). Own work of the verifier. -/
namespace Go.Proofs.YtkakanejiakbkaaGreatDoor


end Go.Proofs.YtkakanejiakbkaaGreatDoor
