/- COUNTS, merged: the plain mathematics. Own work of the verifier. -/
import Derived.Handy
import Derived.Test.YtlgfgeacphkhnaaGreatDoorWAA
import Derived.WalkKit
import Derived.WalkSpells
import Derived.RowKit3
import Derived.Below
import Derived.Outline
import Derived.Deep.QuietTactic
import Derived.Deep.Draws
import Derived.BigQuiet
import Derived.Laws.Bits64
import Derived.Laws.BitsAllLaws
import Derived.Deep.RegionHeld3
import Derived.Deep.DeepCutAuto
import Derived.Test.YtlgfgeacphkhnaaGreatDoorWAB
import Derived.Test.YtlgfgeacphkhnaaGreatDoorRows
import Derived.Laws.ShiftsVarLaws
import Derived.Maps.AppendAt
import Derived.Deep.AppendLies
import Derived.Laws.OwnMore
namespace Go.Proofs.YtlgfgeacphkhnaaGreatDoor

abbrev Cn := Int × Nat
def key : List Cn → Int → Nat
 | [], _ => 0
 | c :: L, k => (if c.1 = k then c.2 else 0) + key L k
end Go.Proofs.YtlgfgeacphkhnaaGreatDoor
/- LISTS OF COUNTS in memory; Total. Own work of the verifier. -/
namespace Go.Proofs.YtlgfgeacphkhnaaGreatDoor
open Go.RowKit

def Wc (L : List Cn) : Prop := ∀ c ∈ L, -9223372036854775808 ≤ c.1 ∧ c.1 < 9223372036854775808 ∧ c.2 < 18446744073709551616
def RowC (W : World) (b o : Nat) (L : List Cn) : Prop := ∀ i (h : i < L.length), W.cell? ⟨b, o + i * 2, none⟩ = some (.int .i64 L[i].1) ∧ W.cell? ⟨b, o + i * 2 + 1, none⟩ = some (.int .u64 (L[i].2 : Int))
theorem lt_of_cell {w : World} {a : Addr} {v : Value} (h : w.cell? a = some v) : a.block < w.heap.size := by
 unfold World.cell? at h
 split at h
 ·rename_i h1
  rcases Nat.lt_or_ge a.block w.heap.size with k | k
  ·exact k
  ·rw [Array.getElem?_eq_none k] at h1; cases h1
 ·cases h
theorem RowC.lt {W : World} {b o : Nat} {L : List Cn} (h : RowC W b o L) (hL : L ≠ []) : b < W.heap.size := by
 have h0 : 0 < L.length := List.length_pos_iff.2 hL
 exact lt_of_cell (h 0 h0).1
theorem RowC.below {W W1 : World} {b o : Nat} {L : List Cn} {B : Nat} (h : RowC W b o L) (hb : Below B W W1) (hB : L ≠ [] → b < B) : RowC W1 b o L := fun i hi => by
 have hL : L ≠ [] := fun e => by rw [e] at hi; simp at hi
 rw [hb.cell (p := ⟨b, o + i * 2, none⟩) (hB hL), hb.cell (p := ⟨b, o + i * 2 + 1, none⟩) (hB hL)]
 exact h i hi
def tot (L : List Cn) : Nat := (L.map (·.2)).sum % 18446744073709551616
theorem tot_take (L : List Cn) (i : Nat) (h : i < L.length) : tot (L.take (i + 1)) = (tot (L.take i) + L[i].2) % 18446744073709551616 := by
 unfold tot
 rw [List.take_succ_eq_append_getElem h, List.map_append, List.sum_append]
 simp
theorem rtotal_any (ao : Option Addr) (b o cap : Nat) (L : List Cn) (hao : L ≠ [] → ao = some ⟨b, o, none⟩) (_hW : Wc L) (hl : L.length ≤ 9223372036854775807) (w : World) (hR : RowC w b o L) :
  Calls Tryz.prog 42 #[.slice ao L.length cap] w fun e w' => e = .returned (.int .u64 (tot L : Nat)) ∧ w' = w := by
 go_enter Tryz.func42, Tryz.ntmps42
 go_wp2_with fail
 go_loopw [3, 4] (fun a c wr => ∃ i : Nat, i ≤ L.length ∧ a = .int .u64 (tot (L.take i) : Nat) ∧ c = .int .i64 (i : Int) ∧ wr = w) (fun _ c _ => L.length - (intOf c).toNat)
 case atStart => exact ⟨0, by omega, rfl, rfl, rfl⟩
 case round =>
  obtain ⟨i, hi, rfl, rfl, rfl⟩ := hrel
  by_cases hlt : i < L.length
  ·obtain rfl := hao (by intro e; rw [e] at hlt; simp at hlt)
   have hlt' : (i : Int) < (L.length : Int) := by omega
   have q1 := (hR i hlt).2
   have HS : Hid _ := tot_take L i hlt
   generalize L[i].2 = n at *
   generalize tot (L.take i) = t at *
   go_wp2_with fail
   exact ⟨⟨i + 1, by omega, by rw [HS.out, IntKind.wrap_u64]; congr 1, by go_num, True.intro⟩, by simp [intOf]; omega⟩
  ·obtain rfl : i = L.length := by omega
   have hlt' : ¬ (L.length : Int) < (L.length : Int) := by omega
   go_wp2_with fail
   go_ret
   exact ⟨rfl, rfl⟩
end Go.Proofs.YtlgfgeacphkhnaaGreatDoor
/- Same and At, the document's. Own work of the verifier. -/
namespace Go.Proofs.YtlgfgeacphkhnaaGreatDoor
open Go.RowKit

set_option maxHeartbeats 1000000 in
theorem same_any (ao : Option Addr) (b o cap : Nat) (A : List Cn) (hao : A ≠ [] → ao = some ⟨b, o, none⟩) (ao' : Option Addr) (b' o' cap' : Nat) (C : List Cn) (hao' : C ≠ [] → ao' = some ⟨b', o', none⟩) (hl : A.length ≤ 9223372036854775807) (hl' : C.length ≤ 9223372036854775807) (w : World) (hA : RowC w b o A) (hC : RowC w b' o' C) :
  Calls Tryz.prog 34 #[.slice ao A.length cap, .slice ao' C.length cap'] w fun e w' => e = .returned (.bool (decide (A = C))) ∧ ∃ n, w' = w.drewN n := by
 by_cases hlen : A.length = C.length
 ·have ht : ((A.length : Int) != (C.length : Int)) = false := by rw [bne_eq_false_iff_eq]; omega
  have HL : Hid _ := hlen
  clear hlen
  go_enter Tryz.func34, Tryz.ntmps34
  go_wp2_with fail
  go_loopw [5] (fun c wr => ∃ i n : Nat, i ≤ A.length ∧ c = .int .i64 (i : Int) ∧ wr = w.drewN n ∧ Hid (A.take i = C.take i)) (fun c _ => A.length - (intOf c).toNat)
  case atStart => exact ⟨0, 0, by omega, rfl, rfl, by simp [Hid]⟩
  case round =>
   obtain ⟨i, n, hi, rfl, rfl, hE⟩ := hrel
   by_cases hlt : i < A.length
   ·have hlt2 : i < C.length := by have := HL.out; omega
    obtain rfl := hao (by intro e; rw [e] at hlt; simp at hlt)
    obtain rfl := hao' (by intro e; rw [e] at hlt2; simp at hlt2)
    have hlt' : (i : Int) < (A.length : Int) := by omega
    have hlt2' : (i : Int) < (C.length : Int) := by omega
    obtain ⟨q1, q2⟩ := hA i hlt
    obtain ⟨q3, q4⟩ := hC i hlt2
    have HT1 : Hid (A.take (i + 1) = A.take i ++ [A[i]]) := List.take_succ_eq_append_getElem hlt
    have HT2 : Hid (C.take (i + 1) = C.take i ++ [C[i]]) := List.take_succ_eq_append_getElem hlt2
    have HN : Hid (A[i] ≠ C[i] → A ≠ C) := fun h e => h (by subst e; rfl)
    obtain ⟨x, y, hxy⟩ : ∃ x y, A[i] = (x, y) := ⟨_, _, rfl⟩
    obtain ⟨u, v, huv⟩ : ∃ u v, C[i] = (u, v) := ⟨_, _, rfl⟩
    rw [hxy] at q1 q2 HT1 HN
    rw [huv] at q3 q4 HT2 HN
    clear hxy huv
    by_cases he : x = u ∧ y = v
    ·obtain ⟨rfl, rfl⟩ := he
     go_wp2_with fail
     go_region
     go_wp2_with fail
     exact ⟨⟨i + 1, n + 1, by omega, by go_num, rfl, by unfold Hid; rw [HT1.out, HT2.out, hE.out]⟩, by simp [intOf]; omega⟩
    ·have hne : decide (A = C) = false := decide_eq_false (HN.out (fun e => he ⟨(Prod.mk.inj e).1, (Prod.mk.inj e).2⟩))
     have HNE : Hid _ := hne
     have hor : (x == u) = false ∨ (x = u ∧ ((y : Int) == (v : Int)) = false) := by
      by_cases h1 : x = u
      ·right
       exact ⟨h1, by rw [beq_eq_false_iff_ne]; intro h2; exact he ⟨h1, by omega⟩⟩
      ·left
       rw [beq_eq_false_iff_ne]
       exact h1
     clear he hne HN
     rcases hor with h1 | ⟨rfl, h1⟩
     ·go_wp2_with fail
      go_region
      go_wp2_with fail
      go_ret
      exact ⟨retB HNE.out.symm, n + 1, rfl⟩
     ·go_wp2_with fail
      go_region
      go_wp2_with fail
      go_ret
      exact ⟨retB HNE.out.symm, n + 1, rfl⟩
   ·obtain rfl : i = A.length := by omega
    have hlt' : ¬ (A.length : Int) < (A.length : Int) := by omega
    have he : decide (A = C) = true := by
     have := hE.out
     rw [List.take_length, HL.out, List.take_length] at this
     exact decide_eq_true this
    have HE : Hid _ := he
    clear he
    go_wp2_with fail
    go_ret
    exact ⟨retB HE.out.symm, n, rfl⟩
 ·have ht : ((A.length : Int) != (C.length : Int)) = true := by rw [bne_iff_ne]; omega
  have hne : decide (A = C) = false := decide_eq_false (fun e => hlen (by rw [e]))
  rw [hne]
  clear hlen hne
  go_enter Tryz.func34, Tryz.ntmps34
  go_wp2_with fail
  go_ret
  exact ⟨rfl, 0, rfl⟩
end Go.Proofs.YtlgfgeacphkhnaaGreatDoor
/- May, the document's. Own work of the verifier. -/
namespace Go.Proofs.YtlgfgeacphkhnaaGreatDoor
open Go.RowKit

def bad (N : Nat) (L : List Cn) (i : Nat) : Int :=
 if (L.getD i (0, 1)).1 < 0 ∨ (N : Int) ≤ (L.getD i (0, 1)).1 then 2
 else if 0 < i ∧ (L.getD i (0, 1)).1 ≤ (L.getD (i - 1) (0, 1)).1 then 15
 else if (L.getD i (0, 1)).2 = 0 then 16 else 0
def sumN (L : List Cn) : Nat := (L.map (·.2)).sum
theorem sumN_take (L : List Cn) (i : Nat) (h : i < L.length) : sumN (L.take (i + 1)) = sumN (L.take i) + L[i].2 := by
 unfold sumN
 rw [List.take_succ_eq_append_getElem h, List.map_append, List.sum_append]
 simp
def MayIs (p : Int) (L : List Cn) (e : Int) : Prop :=
 (¬ (1 ≤ p ∧ p ≤ 14) ∧ e = 1) ∨ ((1 ≤ p ∧ p ≤ 14) ∧ ((∃ i, i < L.length ∧ (∀ j, j < i → bad ((64 - p.toNat) * 2 ^ p.toNat) L j = 0) ∧ bad ((64 - p.toNat) * 2 ^ p.toNat) L i ≠ 0 ∧ e = bad ((64 - p.toNat) * 2 ^ p.toNat) L i) ∨
  ((∀ j, j < L.length → bad ((64 - p.toNat) * 2 ^ p.toNat) L j = 0) ∧ e = if 9223372036854775807 < sumN L then 3 else 0)))
theorem MayIs.uniq {p : Int} {L : List Cn} {e f : Int} (h : MayIs p L e) (k : MayIs p L f) : e = f := by
 rcases h with ⟨h1, rfl⟩ | ⟨h1, h2⟩
 ·rcases k with ⟨_, rfl⟩ | ⟨k1, _⟩
  ·rfl
  ·exact absurd k1 h1
 ·rcases k with ⟨k1, _⟩ | ⟨_, k2⟩
  ·exact absurd h1 k1
  ·rcases h2 with ⟨i, a1, a2, a3, rfl⟩ | ⟨a1, rfl⟩ <;> rcases k2 with ⟨j, b1, b2, b3, rfl⟩ | ⟨b1, rfl⟩
   ·rcases Nat.lt_trichotomy i j with c | c | c
    ·exact absurd (b2 i c) a3
    ·rw [c]
    ·exact absurd (a2 j c) b3
   ·exact absurd (b1 i a1) a3
   ·exact absurd (a1 j b1) b3
   ·rfl
theorem rmay_bad (v : Value) (p : Int) (L : List Cn) (hp : ¬ (1 ≤ p ∧ p ≤ 14)) (w : World) :
  Calls Tryz.prog 41 #[.int .i64 p, v] w fun e w' => (∃ x, e = .returned (.int .i64 x) ∧ MayIs p L x) ∧ ∃ n, w' = w.drewN n := by
 have HM : Hid (MayIs p L 1) := Or.inl ⟨hp, rfl⟩
 by_cases c : p < 1
 ·clear hp
  go_enter Tryz.func41, Tryz.ntmps41
  go_wp2_with fail
  go_ret
  exact ⟨⟨1, rfl, HM.out⟩, 0, rfl⟩
 ·have d : 14 < p := by omega
  clear hp
  go_enter Tryz.func41, Tryz.ntmps41
  go_wp2_with fail
  go_ret
  exact ⟨⟨1, rfl, HM.out⟩, 0, rfl⟩
set_option maxRecDepth 10000 in
set_option maxHeartbeats 2000000 in
theorem rmay_good (ao : Option Addr) (b o cap : Nat) (p : Nat) (h1 : 1 ≤ p) (h2 : p ≤ 14) (L : List Cn) (hao : L ≠ [] → ao = some ⟨b, o, none⟩) (hW : Wc L) (hl : L.length ≤ 9223372036854775807) (w : World) (hR : RowC w b o L) :
  Calls Tryz.prog 41 #[.int .i64 (p : Int), .slice ao L.length cap] w fun e w' => (∃ x, e = .returned (.int .i64 x) ∧ MayIs (p : Int) L x) ∧ ∃ n, w' = w.drewN n := by
 have HL : Hid (∀ W, _) := rlen_yes p h1 h2
 have c1 : ¬ (p : Int) < 1 := by omega
 have c2 : ¬ 14 < (p : Int) := by omega
 have HM : Hid (∀ e : Int, ((∃ i, i < L.length ∧ (∀ j, j < i → bad ((64 - p) * 2 ^ p) L j = 0) ∧ bad ((64 - p) * 2 ^ p) L i ≠ 0 ∧ e = bad ((64 - p) * 2 ^ p) L i) ∨ ((∀ j, j < L.length → bad ((64 - p) * 2 ^ p) L j = 0) ∧ e = if 9223372036854775807 < sumN L then 3 else 0)) → MayIs (p : Int) L e) := fun e h => Or.inr ⟨⟨by omega, by omega⟩, h⟩
 generalize (64 - p) * 2 ^ p = N at *
 go_enter Tryz.func41, Tryz.ntmps41
 go_wp2_with fail
 go_loopw [5, 6, 7] (fun a c d wr => ∃ (i n t : Nat) (m : Bool), i ≤ L.length ∧ t < 18446744073709551616 ∧ a = .int .u64 (t : Int) ∧ c = .bool m ∧ d = .int .i64 (i : Int) ∧ wr = w.drewN n ∧ Hid (∀ j, j < i → bad N L j = 0) ∧ Hid ((m = false ∧ t + sumN (L.take i) = 9223372036854775807) ∨ (m = true ∧ 9223372036854775807 < sumN (L.take i)))) (fun _ _ d _ => L.length - (intOf d).toNat)
 case atStart => exact ⟨0, 0, 9223372036854775807, false, by omega, by omega, rfl, rfl, rfl, rfl, fun j hj => by omega, Or.inl ⟨rfl, rfl⟩⟩
 case round =>
  obtain ⟨i, n, t, m, hi, ht, rfl, rfl, rfl, rfl, hB, hS⟩ := hrel
  by_cases hlt : i < L.length
  ·have hlt' : (i : Int) < (L.length : Int) := by omega
   obtain rfl := hao (by intro e; rw [e] at hlt; simp at hlt)
   obtain ⟨q1, q2⟩ := hR i hlt
   have hg : L.getD i (0, 1) = L[i] := by simp [List.getD, hlt]
   have HT : Hid _ := sumN_take L i hlt
   have hy : L[i].2 < 18446744073709551616 := (hW _ (List.getElem_mem hlt)).2.2
   obtain ⟨x, y, hxy⟩ : ∃ x y, L[i] = (x, y) := ⟨_, _, rfl⟩
   have HBd : Hid (bad N L i = if x < 0 ∨ (N : Int) ≤ x then 2 else if 0 < i ∧ x ≤ (L.getD (i - 1) (0, 1)).1 then 15 else if y = 0 then 16 else 0) := by unfold Hid bad; rw [hg, hxy]
   rw [hxy] at q1 q2 HT hy
   clear hxy hg
   by_cases k1 : x < 0
   ·have hret : Hid (MayIs (p : Int) L 2) := HM.out 2 (Or.inl ⟨i, hlt, hB.out, by rw [HBd.out, if_pos (Or.inl k1)]; decide, by rw [HBd.out, if_pos (Or.inl k1)]⟩)
    clear HBd hB hS HT
    go_wp2_with fail
    go_quiet (fail)
    go_wp2_with fail
    go_ret
    exact ⟨⟨2, rfl, hret.out⟩, n + nq, World.drewN_drewN _ _ _⟩
   ·have d1 : decide (x < 0) = false := decide_eq_false k1
    by_cases k2 : (N : Int) ≤ x
    ·have hret : Hid (MayIs (p : Int) L 2) := HM.out 2 (Or.inl ⟨i, hlt, hB.out, by rw [HBd.out, if_pos (Or.inr k2)]; decide, by rw [HBd.out, if_pos (Or.inr k2)]⟩)
     clear HBd hB hS HT
     go_wp2_with fail
     go_region_held3 (fun W => W.cell? ⟨b, o + i * 2, none⟩ = some (.int .i64 x) ∧ W.cell? ⟨b, o + i * 2 + 1, none⟩ = some (.int .u64 (y : Int))) (first | assumption | go_keep)
      (first | (go_at_call 53; with_reducible refine (HL.out _).mono ?_; rintro e w1 ⟨rfl, rfl⟩))
     go_wp2_with fail
     go_ret
     exact ⟨⟨2, rfl, hret.out⟩, _, rfl⟩
    ·have d2 : decide ((N : Int) ≤ x) = false := decide_eq_false k2
     have HB2 : Hid (bad N L i = if 0 < i ∧ x ≤ (L.getD (i - 1) (0, 1)).1 then 15 else if y = 0 then 16 else 0) := by unfold Hid; rw [HBd.out, if_neg (by rintro (h | h); exact k1 h; exact k2 h)]
     clear k2
     go_wp2_with fail
     go_region_held3 (fun W => W.cell? ⟨b, o + i * 2, none⟩ = some (.int .i64 x) ∧ W.cell? ⟨b, o + i * 2 + 1, none⟩ = some (.int .u64 (y : Int))) (first | assumption | go_keep)
      (first | (go_at_call 53; with_reducible refine (HL.out _).mono ?_; rintro e w1 ⟨rfl, rfl⟩))
     go_wp2_with fail
     by_cases hi0 : i = 0
     ·have d3 : decide ((0 : Int) < (i : Int)) = false := decide_eq_false (by omega)
      have d4 : decide (0 < i) = false := decide_eq_false (by omega)
      have HB3 : Hid (bad N L i = if y = 0 then 16 else 0) := by unfold Hid; rw [HB2.out, if_neg (by omega)]
      clear HB2 hi0
      go_quiet (fail)
      rw [World.drewN_drewN]
      by_cases k4 : y = 0
      ·have hret : Hid (MayIs (p : Int) L 16) := HM.out 16 (Or.inl ⟨i, hlt, hB.out, by rw [HB3.out, if_pos k4]; decide, by rw [HB3.out, if_pos k4]⟩)
       have t4 : ((y : Int) == 0) = true := by rw [beq_iff_eq]; omega
       clear HB3 hB hS HT HBd k4
       go_wp2_with fail
       go_ret
       exact ⟨⟨16, rfl, hret.out⟩, _, rfl⟩
      ·have t4 : ((y : Int) == 0) = false := by rw [beq_eq_false_iff_ne]; omega
       have HB5 : Hid (∀ j, j < i + 1 → bad N L j = 0) := fun j hj => by
        by_cases e : j = i
        ·subst e; rw [HB3.out, if_neg k4]
        ·exact hB.out j (by omega)
       clear HB3 HBd k4
       rcases hS.out with ⟨rfl, hs⟩ | ⟨rfl, hs⟩
       ·by_cases k5 : t < y
        ·have t5 : (t : Int) < (y : Int) := by omega
         have hN : Hid (9223372036854775807 < sumN (L.take (i + 1))) := by unfold Hid; rw [HT.out]; show _ < _ + y; omega
         have hw : ∃ t' : Nat, IntKind.u64.wrap ((t : Int) - (y : Int)) = (t' : Int) ∧ t' < 18446744073709551616 := ⟨(IntKind.u64.wrap ((t : Int) - (y : Int))).toNat, by rw [IntKind.wrap_u64]; omega, by rw [IntKind.wrap_u64]; omega⟩
         obtain ⟨t', hw1, hw2⟩ := hw
         clear hB hS HT hs k5
         go_wp2_with fail
         exact ⟨⟨i + 1, _, t', true, by omega, hw2, rfl, rfl, by go_num, rfl, HB5, Or.inr ⟨rfl, hN.out⟩⟩, by simp [intOf]; omega⟩
        ·have t5 : ¬ (t : Int) < (y : Int) := by omega
         have hN : Hid (t - y + sumN (L.take (i + 1)) = 9223372036854775807) := by unfold Hid; rw [HT.out]; show _ + (_ + y) = _; omega
         have hw1 : IntKind.u64.wrap ((t : Int) - (y : Int)) = ((t - y : Nat) : Int) := by rw [IntKind.wrap_u64]; omega
         clear hB hS HT hs
         go_wp2_with fail
         exact ⟨⟨i + 1, _, t - y, false, by omega, by omega, by first | rw [hw1] | rfl | go_num, rfl, by go_num, rfl, HB5, Or.inl ⟨rfl, hN.out⟩⟩, by simp [intOf]; omega⟩
       ·have hN : Hid (9223372036854775807 < sumN (L.take (i + 1))) := by unfold Hid; rw [HT.out]; show _ < _ + y; omega
        have hw : ∃ t' : Nat, IntKind.u64.wrap ((t : Int) - (y : Int)) = (t' : Int) ∧ t' < 18446744073709551616 := ⟨(IntKind.u64.wrap ((t : Int) - (y : Int))).toNat, by rw [IntKind.wrap_u64]; omega, by rw [IntKind.wrap_u64]; omega⟩
        obtain ⟨t', hw1, hw2⟩ := hw
        clear hB hS HT hs
        go_wp2_with fail
        exact ⟨⟨i + 1, _, t', true, by omega, hw2, rfl, rfl, by go_num, rfl, HB5, Or.inr ⟨rfl, hN.out⟩⟩, by simp [intOf]; omega⟩

     ·have d3 : decide ((0 : Int) < (i : Int)) = true := decide_eq_true (by omega)
      obtain ⟨i1, rfl⟩ : ∃ i1, i = i1 + 1 := ⟨i - 1, by omega⟩
      have d4 : decide (0 < i1 + 1) = true := decide_eq_true (by omega)
      have d6 : decide ((0 : Int) < (i1 : Int) + 1) = true := decide_eq_true (by omega)
      have hi1 : i1 < L.length := by omega
      obtain ⟨r1, r2⟩ := hR i1 hi1
      have hg1 : L.getD (i1 + 1 - 1) (0, 1) = L[i1] := by rw [Nat.add_sub_cancel]; simp [List.getD, hi1]
      rw [hg1] at HB2
      generalize L[i1] = pc at *
      have e2 : (0 : Int) ≤ (i1 : Int) ∧ (i1 : Int) < (L.length : Int) := by omega
      have e3 : (0 : Int) ≤ (i1 : Int) + 1 ∧ (i1 : Int) + 1 < (L.length : Int) := by omega
      have e4 : ((i1 + 1 : Nat) : Int) = (i1 : Int) + 1 := by omega
      rw [e4] at *
      clear hg1
      by_cases k3 : x ≤ pc.1
      ·have hret : Hid (MayIs (p : Int) L 15) := HM.out 15 (Or.inl ⟨i1 + 1, hlt, hB.out, by rw [HB2.out, if_pos ⟨by omega, k3⟩]; decide, by rw [HB2.out, if_pos ⟨by omega, k3⟩]⟩)
       have d5 : decide (x ≤ pc.1) = true := decide_eq_true k3
       clear HB2 HBd hB hS HT
       go_region
       go_wp2_with fail
       go_ret
       exact ⟨⟨15, rfl, hret.out⟩, _, rfl⟩
      ·have d5 : decide (x ≤ pc.1) = false := decide_eq_false k3
       have HB3 : Hid (bad N L (i1 + 1) = if y = 0 then 16 else 0) := by unfold Hid; rw [HB2.out, if_neg (fun h => k3 h.2)]
       clear HB2
       go_region
       by_cases k4 : y = 0
       ·have hret : Hid (MayIs (p : Int) L 16) := HM.out 16 (Or.inl ⟨i1 + 1, hlt, hB.out, by rw [HB3.out, if_pos k4]; decide, by rw [HB3.out, if_pos k4]⟩)
        have t4 : ((y : Int) == 0) = true := by rw [beq_iff_eq]; omega
        clear HB3 hB hS HT HBd k4
        go_wp2_with fail
        go_ret
        exact ⟨⟨16, rfl, hret.out⟩, _, rfl⟩
       ·have t4 : ((y : Int) == 0) = false := by rw [beq_eq_false_iff_ne]; omega
        have HB5 : Hid (∀ j, j < i1 + 1 + 1 → bad N L j = 0) := fun j hj => by
         by_cases e : j = i1 + 1
         ·subst e; rw [HB3.out, if_neg k4]
         ·exact hB.out j (by omega)
        clear HB3 HBd k4
        rcases hS.out with ⟨rfl, hs⟩ | ⟨rfl, hs⟩
        ·by_cases k5 : t < y
         ·have t5 : (t : Int) < (y : Int) := by omega
          have hN : Hid (9223372036854775807 < sumN (L.take (i1 + 1 + 1))) := by unfold Hid; rw [HT.out]; show _ < _ + y; omega
          have hw : ∃ t' : Nat, IntKind.u64.wrap ((t : Int) - (y : Int)) = (t' : Int) ∧ t' < 18446744073709551616 := ⟨(IntKind.u64.wrap ((t : Int) - (y : Int))).toNat, by rw [IntKind.wrap_u64]; omega, by rw [IntKind.wrap_u64]; omega⟩
          obtain ⟨t', hw1, hw2⟩ := hw
          clear hB hS HT hs k5
          go_wp2_with fail
          exact ⟨⟨i1 + 1 + 1, _, t', true, by omega, hw2, rfl, rfl, by go_num, rfl, HB5, Or.inr ⟨rfl, hN.out⟩⟩, by simp [intOf]; omega⟩
         ·have t5 : ¬ (t : Int) < (y : Int) := by omega
          have hN : Hid (t - y + sumN (L.take (i1 + 1 + 1)) = 9223372036854775807) := by unfold Hid; rw [HT.out]; show _ + (_ + y) = _; omega
          have hw1 : IntKind.u64.wrap ((t : Int) - (y : Int)) = ((t - y : Nat) : Int) := by rw [IntKind.wrap_u64]; omega
          clear hB hS HT hs
          go_wp2_with fail
          exact ⟨⟨i1 + 1 + 1, _, t - y, false, by omega, by omega, by first | rw [hw1] | rfl | go_num, rfl, by go_num, rfl, HB5, Or.inl ⟨rfl, hN.out⟩⟩, by simp [intOf]; omega⟩
        ·have hN : Hid (9223372036854775807 < sumN (L.take (i1 + 1 + 1))) := by unfold Hid; rw [HT.out]; show _ < _ + y; omega
         have hw : ∃ t' : Nat, IntKind.u64.wrap ((t : Int) - (y : Int)) = (t' : Int) ∧ t' < 18446744073709551616 := ⟨(IntKind.u64.wrap ((t : Int) - (y : Int))).toNat, by rw [IntKind.wrap_u64]; omega, by rw [IntKind.wrap_u64]; omega⟩
         obtain ⟨t', hw1, hw2⟩ := hw
         clear hB hS HT hs
         go_wp2_with fail
         exact ⟨⟨i1 + 1 + 1, _, t', true, by omega, hw2, rfl, rfl, by go_num, rfl, HB5, Or.inr ⟨rfl, hN.out⟩⟩, by simp [intOf]; omega⟩
  ·obtain rfl : i = L.length := by omega
   have hlt' : ¬ (L.length : Int) < (L.length : Int) := by omega
   have hB' := hB.out
   have hS' := hS.out
   rw [List.take_length] at hS'
   rcases hS' with ⟨rfl, hs⟩ | ⟨rfl, hs⟩
   ·have hret : Hid (MayIs (p : Int) L 0) := HM.out 0 (Or.inr ⟨hB', by rw [if_neg (by omega)]⟩)
    clear hB' hB hS hs
    go_wp2_with fail
    go_ret
    exact ⟨⟨0, rfl, hret.out⟩, n, rfl⟩
   ·have hret : Hid (MayIs (p : Int) L 3) := HM.out 3 (Or.inr ⟨hB', by rw [if_pos hs]⟩)
    clear hB' hB hS hs
    go_wp2_with fail
    go_ret
    exact ⟨⟨3, rfl, hret.out⟩, n, rfl⟩
end Go.Proofs.YtlgfgeacphkhnaaGreatDoor
/- THE PLAIN MATHEMATICS of products and of a division bit by bit (no Go in sight). Own work of the verifier. -/
namespace Go.Proofs.YtlgfgeacphkhnaaGreatDoor

theorem mul_halves {a b a1 a0 b1 b0 : Int} (ha : a = a1 * 4294967296 + a0) (hb : b = b1 * 4294967296 + b0) : a * b = a1 * b1 * 18446744073709551616 + (a1 * b0 + a0 * b1) * 4294967296 + a0 * b0 := by
 have e1 : a1 * 4294967296 * (b1 * 4294967296) = a1 * b1 * 18446744073709551616 := by
  rw [Int.mul_assoc, Int.mul_left_comm 4294967296 b1, ← Int.mul_assoc]; rfl
 have e2 : a1 * 4294967296 * b0 = a1 * b0 * 4294967296 := Int.mul_right_comm ..
 have e3 : a0 * (b1 * 4294967296) = a0 * b1 * 4294967296 := (Int.mul_assoc ..).symm
 rw [ha, hb, Int.add_mul, Int.mul_add, Int.mul_add, e1, e2, e3]
 generalize a1 * b1 = p; generalize a1 * b0 = q; generalize a0 * b1 = r; generalize a0 * b0 = s
 omega
theorem half_mul {x y : Int} (x0 : 0 ≤ x) (x1 : x < 4294967296) (y0 : 0 ≤ y) (y1 : y < 4294967296) : 0 ≤ x * y ∧ x * y ≤ 18446744065119617025 := by
 refine ⟨Int.mul_nonneg x0 y0, ?_⟩
 have := Int.mul_le_mul (show x ≤ 4294967295 by omega) (show y ≤ 4294967295 by omega) y0 (by omega)
 omega

end Go.Proofs.YtlgfgeacphkhnaaGreatDoor
/- PRODUCTS AND QUOTIENTS, the document's, once more. Own work of the verifier. -/
namespace Go.Proofs.YtlgfgeacphkhnaaGreatDoor
open Go.RowKit

set_option maxHeartbeats 1000000 in
set_option maxRecDepth 100000 in
theorem refmul_w (a b a1 a0 b1 b0 P0 P1 P2 P3 M0 M1 : Int) (ea1 : a / 4294967296 = a1) (ea0 : bits .and .u64 a 4294967295 = a0) (eb1 : b / 4294967296 = b1) (eb0 : bits .and .u64 b 4294967295 = b0)
  (e0 : a0 * b0 = P0) (e1 : a1 * b0 = P1) (e2 : a0 * b1 = P2) (e3 : a1 * b1 = P3)
  (m0 : bits .and .u64 P0 4294967295 = M0) (m1 : bits .and .u64 (P1 + P0 / 4294967296) 4294967295 = M1)
  (p00 : 0 ≤ P0) (p01 : P0 ≤ 18446744065119617025) (p10 : 0 ≤ P1) (p11 : P1 ≤ 18446744065119617025) (p20 : 0 ≤ P2) (p21 : P2 ≤ 18446744065119617025) (p30 : 0 ≤ P3) (p31 : P3 ≤ 18446744065119617025)
  (m10 : 0 ≤ M1) (m11 : M1 < 4294967296) (w : World) :
  Calls Tryz.prog 99 #[.int .u64 a, .int .u64 b] w fun e w' =>
   e = .returned (.tuple #[.int .u64 (P3 + (P1 + P0 / 4294967296) / 4294967296 + (P2 + M1) / 4294967296), .int .u64 (IntKind.u64.wrap (IntKind.u64.wrap ((P2 + M1) * 4294967296) + M0))]) ∧ w' = w := by
 go_enter Tryz.func99, Tryz.ntmps99
 go_wp2
 go_ret2
 exact ⟨rfl, rfl⟩
theorem low32m (x : Int) (h0 : 0 ≤ x) (h1 : x < 18446744073709551616) : bits .and .u64 x 4294967295 = x % 4294967296 := by
 obtain ⟨n, rfl⟩ := Int.eq_ofNat_of_zero_le h0
 have := u64_and_nat n 4294967295 (by omega) (by decide)
 rw [show ((4294967295 : Nat) : Int) = 4294967295 from rfl] at this
 rw [this, nat_mask32]; omega
theorem refmul_any (x y : Int) (hx0 : 0 ≤ x) (hx : x < 18446744073709551616) (hy0 : 0 ≤ y) (hy : y < 18446744073709551616) (w : World) :
  Calls Tryz.prog 99 #[.int .u64 x, .int .u64 y] w fun e w' => e = .returned (.tuple #[.int .u64 (hiOf (x * y)), .int .u64 (loOf (x * y))]) ∧ w' = w := by
 have k0 := half_mul (x := x % 4294967296) (y := y % 4294967296) (by omega) (by omega) (by omega) (by omega)
 have k1 := half_mul (x := x / 4294967296) (y := y % 4294967296) (by omega) (by omega) (by omega) (by omega)
 have k2 := half_mul (x := x % 4294967296) (y := y / 4294967296) (by omega) (by omega) (by omega) (by omega)
 have k3 := half_mul (x := x / 4294967296) (y := y / 4294967296) (by omega) (by omega) (by omega) (by omega)
 have e := mul_halves (a := x) (b := y) (a1 := x / 4294967296) (a0 := x % 4294967296) (b1 := y / 4294967296) (b0 := y % 4294967296) (by omega) (by omega)
 refine (refmul_w x y _ _ _ _ _ _ _ _ _ _ rfl (low32m x hx0 hx) rfl (low32m y hy0 hy) rfl rfl rfl rfl (low32m _ k0.1 (by omega)) (low32m _ (by omega) (by omega)) k0.1 k0.2 k1.1 k1.2 k2.1 k2.2 k3.1 k3.2 (by omega) (by omega) w).mono ?_
 rintro e' w' ⟨rfl, rfl⟩
 refine ⟨?_, rfl⟩
 rw [e]
 generalize x / 4294967296 * (y / 4294967296) = p at *
 generalize x / 4294967296 * (y % 4294967296) = q at *
 generalize x % 4294967296 * (y / 4294967296) = r at *
 generalize x % 4294967296 * (y % 4294967296) = s at *
 have f1 : p + (q + s / 4294967296) / 4294967296 + (r + (q + s / 4294967296) % 4294967296) / 4294967296 = hiOf (p * 18446744073709551616 + (q + r) * 4294967296 + s) := by unfold hiOf; omega
 have f2 : IntKind.u64.wrap (IntKind.u64.wrap ((r + (q + s / 4294967296) % 4294967296) * 4294967296) + s % 4294967296) = loOf (p * 18446744073709551616 + (q + r) * 4294967296 + s) := by
  simp only [IntKind.wrap_u64]; unfold loOf; omega
 rw [f1, f2]
end Go.Proofs.YtlgfgeacphkhnaaGreatDoor
/- Rank, AtMost, Quantile, the document's. Own work of the verifier. -/
namespace Go.Proofs.YtlgfgeacphkhnaaGreatDoor
open Go.RowKit

theorem mayIs_ex (p : Int) (L : List Cn) : ∃ e, MayIs p L e := by
 by_cases hp : 1 ≤ p ∧ p ≤ 14
 ·by_cases h : ∀ j, j < L.length → bad ((64 - p.toNat) * 2 ^ p.toNat) L j = 0
  ·exact ⟨_, Or.inr ⟨hp, Or.inr ⟨h, rfl⟩⟩⟩
  ·have : ∀ m, (∃ j, j < m ∧ j < L.length ∧ bad ((64 - p.toNat) * 2 ^ p.toNat) L j ≠ 0) → ∃ i, i < L.length ∧ (∀ j, j < i → bad ((64 - p.toNat) * 2 ^ p.toNat) L j = 0) ∧ bad ((64 - p.toNat) * 2 ^ p.toNat) L i ≠ 0 := by
    intro m
    induction m with
    | zero => rintro ⟨j, hj, _⟩; omega
    | succ m ih =>
     rintro ⟨j, hj, hl, hb⟩
     by_cases c : ∃ j, j < m ∧ j < L.length ∧ bad ((64 - p.toNat) * 2 ^ p.toNat) L j ≠ 0
     ·exact ih c
     ·have e : j = m := by
       by_cases h' : j < m
       ·exact absurd ⟨j, h', hl, hb⟩ c
       ·omega
      subst e
      refine ⟨j, hl, fun k hk => ?_, hb⟩
      by_cases h' : bad ((64 - p.toNat) * 2 ^ p.toNat) L k = 0
      ·exact h'
      ·exact absurd ⟨k, hk, by omega, h'⟩ c
   have hex : ∃ j, j < L.length ∧ j < L.length ∧ bad ((64 - p.toNat) * 2 ^ p.toNat) L j ≠ 0 := by
    apply Classical.byContradiction
    intro hn
    exact h fun j hj => Classical.byContradiction fun hb => hn ⟨j, hj, hj, hb⟩
   obtain ⟨i, h1, h2, h3⟩ := this _ hex
   exact ⟨_, Or.inr ⟨hp, Or.inl ⟨i, h1, h2, h3, rfl⟩⟩⟩
 ·exact ⟨1, Or.inl ⟨hp, rfl⟩⟩
theorem rmay_is (ao : Option Addr) (b o cap : Nat) (p : Int) (L : List Cn) (hao : L ≠ [] → ao = some ⟨b, o, none⟩) (hW : Wc L) (hl : L.length ≤ 9223372036854775807) {x : Int} (hx : MayIs p L x) (w : World) (hR : RowC w b o L) :
  Calls Tryz.prog 41 #[.int .i64 p, .slice ao L.length cap] w fun e w' => e = .returned (.int .i64 x) ∧ ∃ n, w' = w.drewN n := by
 by_cases hp : 1 ≤ p ∧ p ≤ 14
 ·obtain ⟨q, rfl⟩ := Int.eq_ofNat_of_zero_le (by omega : 0 ≤ p)
  refine (rmay_good ao b o cap q (by omega) (by omega) L hao hW hl w hR).mono ?_
  rintro e w' ⟨⟨y, rfl, hy⟩, hn⟩
  rw [hy.uniq hx]
  exact ⟨rfl, hn⟩
 ·refine (rmay_bad (.slice ao L.length cap) p L hp w).mono ?_
  rintro e w' ⟨⟨y, rfl, hy⟩, hn⟩
  rw [hy.uniq hx]
  exact ⟨rfl, hn⟩
end Go.Proofs.YtlgfgeacphkhnaaGreatDoor
/- AtMost, Quantile, the document's. Own work of the verifier. -/
namespace Go.Proofs.YtlgfgeacphkhnaaGreatDoor
open Go.RowKit

theorem below_drew (w : World) (n : Nat) : Below w.heap.size w (w.drewN n) := by
 induction n with
 | zero => exact Below.refl _ _
 | succ n ih => exact ih.drew
def hiV (p i : Nat) : Nat := lo (2 ^ p) i + 2 ^ kk (2 ^ p) i - 1
theorem may_ok {p : Int} {L : List Cn} (h : MayIs p L 0) : (1 ≤ p ∧ p ≤ 14) ∧ sumN L ≤ 9223372036854775807 ∧ ∀ i (hi : i < L.length), 0 ≤ L[i].1 ∧ L[i].1 < (((64 - p.toNat) * 2 ^ p.toNat : Nat) : Int) ∧ L[i].2 ≠ 0 := by
 rcases h with ⟨_, h⟩ | ⟨hp, h⟩
 ·exact absurd h (by decide)
 ·rcases h with ⟨i, _, _, h3, h4⟩ | ⟨h1, h2⟩
  ·exact absurd h4.symm h3
  ·refine ⟨hp, ?_, fun i hi => ?_⟩
   ·by_cases c : 9223372036854775807 < sumN L
    ·rw [if_pos c] at h2; exact absurd h2 (by decide)
    ·omega
   ·have hb := h1 i hi
    unfold bad at hb
    rw [show L.getD i (0, 1) = L[i] from by simp [List.getD, hi]] at hb
    by_cases c1 : L[i].1 < 0 ∨ (((64 - p.toNat) * 2 ^ p.toNat : Nat) : Int) ≤ L[i].1
    ·rw [if_pos c1] at hb; exact absurd hb (by decide)
    ·rw [if_neg c1] at hb
     by_cases c2 : 0 < i ∧ L[i].1 ≤ (L.getD (i - 1) (0, 1)).1
     ·rw [if_pos c2] at hb; exact absurd hb (by decide)
     ·rw [if_neg c2] at hb
      by_cases c3 : L[i].2 = 0
      ·rw [if_pos c3] at hb; exact absurd hb (by decide)
      ·exact ⟨by omega, by omega, c3⟩
end Go.Proofs.YtlgfgeacphkhnaaGreatDoor
/- Quantile, the document's. Own work of the verifier. -/
namespace Go.Proofs.YtlgfgeacphkhnaaGreatDoor
open Go.RowKit

theorem bt {w W W1 : World} (h : Below w.heap.size w W) (k : Below W.heap.size W W1) : Below w.heap.size w W1 := h.trans (k.mono h.size)
end Go.Proofs.YtlgfgeacphkhnaaGreatDoor
/- ROWS OF COUNTS that grow. Own work of the verifier. -/
namespace Go.Proofs.YtlgfgeacphkhnaaGreatDoor
open Go.RowKit

def fl : List Cn → List Value
 | [] => []
 | c :: L => .int .i64 c.1 :: .int .u64 (c.2 : Int) :: fl L
theorem fl_length (L : List Cn) : (fl L).length = L.length * 2 := by
 induction L with
 | nil => rfl
 | cons c L ih => simp only [fl, List.length_cons, ih]; omega
theorem fl_get (L : List Cn) (i : Nat) (h : i < L.length) : (fl L)[i * 2]? = some (.int .i64 L[i].1) ∧ (fl L)[i * 2 + 1]? = some (.int .u64 (L[i].2 : Int)) := by
 induction L generalizing i with
 | nil => simp at h
 | cons c L ih =>
  cases i with
  | zero => exact ⟨rfl, rfl⟩
  | succ i =>
   have := ih i (by simpa using h)
   rw [show (i + 1) * 2 = i * 2 + 2 by omega]
   simpa [fl] using this
theorem fl_one (L : List Cn) : ∀ u ∈ fl L, u.oneCell' = true := by
 induction L with
 | nil => intro u hu; cases hu
 | cons c L ih =>
  intro u hu
  simp only [fl, List.mem_cons] at hu
  rcases hu with rfl | rfl | h
  ·rfl
  ·rfl
  ·exact ih u h
theorem RowC.cells {w : World} {b o : Nat} {L : List Cn} (h : RowC w b o L) (j : Nat) (u : Value) (hu : (fl L)[j]? = some u) : w.cell? ((⟨b, o, none⟩ : Addr).add j) = some u := by
 have hj : j < (fl L).length := by
  rcases Nat.lt_or_ge j (fl L).length with c | c
  ·exact c
  ·rw [List.getElem?_eq_none c] at hu; cases hu
 rw [fl_length] at hj
 rw [Addr.add_lit]
 have hi : j / 2 < L.length := by omega
 obtain ⟨g1, g2⟩ := fl_get L (j / 2) hi
 obtain ⟨r1, r2⟩ := h (j / 2) hi
 rcases Nat.mod_two_eq_zero_or_one j with e | e
 ·rw [show j / 2 * 2 = j by omega] at g1 r1
  rw [g1] at hu
  rw [← hu]
  exact r1
 ·rw [show j / 2 * 2 + 1 = j by omega] at g2
  rw [show o + j / 2 * 2 + 1 = o + j by omega] at r2
  rw [g2] at hu
  rw [← hu]
  exact r2
structure GC (B : Nat) (W0 : World) (v : Value) (xs : List Cn) (w : World) : Prop where
 own : w.ownsRow B 67 2 v xs.length (fl xs)
 below : Below B W0 w
 size : B ≤ w.heap.size
theorem infoC : (Tryz.prog.info? 67).map (fun i => (i.zero, i.size, i.bytes)) = some (some (.agg #[.int .i64 0, .int .u64 0]), 2, 16) := by kernel_rfl
def SC (w : World) (v : Value) (L : List Cn) : Prop := ∃ ao b o cap, v = .slice ao L.length cap ∧ (L ≠ [] → ao = some ⟨b, o, none⟩) ∧ RowC w b o L
theorem GC.sc {B : Nat} {W0 w : World} {v : Value} {xs : List Cn} (h : GC B W0 v xs w) : SC w v xs := by
 obtain ⟨hl, h2⟩ := h.own
 rcases h2 with ⟨rfl, hn⟩ | ⟨g, cap, cur, rfl, hg, hh, hc, hm, hs, ht⟩
 ·have : xs = [] := List.length_eq_zero_iff.1 hn
  subst this
  exact ⟨none, 0, 0, 0, rfl, fun k => absurd rfl k, fun i hi => by simp at hi⟩
 ·refine ⟨some ⟨g, 0, none⟩, g, 0, cap, rfl, fun _ => rfl, fun i hi => ?_⟩
  obtain ⟨g1, g2⟩ := fl_get xs i hi
  have key : ∀ j u, (fl xs)[j]? = some u → w.cell? ⟨g, 0 + j, none⟩ = some u := fun j u hu => by
   rw [← ht] at hu
   rw [List.getElem?_take] at hu
   unfold World.cell?
   rw [hh]
   split at hu
   ·simpa using hu
   ·cases hu
  exact ⟨key _ _ g1, by have := key _ _ g2; rw [← Nat.add_assoc] at this; exact this⟩
end Go.Proofs.YtlgfgeacphkhnaaGreatDoor
/- sorted, the document's. Own work of the verifier. -/
namespace Go.Proofs.YtlgfgeacphkhnaaGreatDoor
open Go.RowKit

theorem cell_two_new (w : World) (x y : Value) (t : TypeId) : ∀ j u, [x, y][j]? = some u → (w.alloc (.cells #[x, y] t)).cell? ((⟨w.heap.size, 0, none⟩ : Addr).add j) = some u := by
 intro j u hu
 rw [Addr.add_lit]
 unfold World.cell?
 have hh : (w.alloc (.cells #[x, y] t)).heap[w.heap.size]? = some (.cells #[x, y] t) := by
  show (w.heap.push _)[w.heap.size]? = _
  simp
 rw [hh]
 match j, hu with
 | 0, hu => simpa using hu
 | 1, hu => simpa using hu
 | j + 2, hu => simp at hu
end Go.Proofs.YtlgfgeacphkhnaaGreatDoor
/- SORTED, the law's own, of whole numbers. Own work of the verifier. -/
namespace Go.Proofs.YtlgfgeacphkhnaaGreatDoor
open Go.RowKit

theorem cell_one_new (w : World) (x : Value) (t : TypeId) : ∀ j u, [x][j]? = some u → (w.alloc (.cells #[x] t)).cell? ((⟨w.heap.size, 0, none⟩ : Addr).add j) = some u := by
 intro j u hu
 rw [Addr.add_lit]
 unfold World.cell?
 have hh : (w.alloc (.cells #[x] t)).heap[w.heap.size]? = some (.cells #[x] t) := by
  show (w.heap.push _)[w.heap.size]? = _
  simp
 rw [hh]
 match j, hu with
 | 0, hu => simpa using hu
 | j + 1, hu => simp at hu
end Go.Proofs.YtlgfgeacphkhnaaGreatDoor
/- Merge, the document's, where a list is none. Own work of the verifier. -/
namespace Go.Proofs.YtlgfgeacphkhnaaGreatDoor
open Go.RowKit

theorem gc_form2 {B : Nat} {W0 w : World} {v : Value} {xs : List Cn} (h : GC B W0 v xs w) : (v = .slice none 0 0 ∧ xs = []) ∨ ∃ g cap, v = .slice (some ⟨g, 0, none⟩) xs.length cap ∧ xs.length ≤ cap := by
 rcases h.own.2 with ⟨k, k2⟩ | ⟨g, cap, cur, hv, _, _, hc, _⟩
 ·exact Or.inl ⟨k, List.length_eq_zero_iff.1 k2⟩
 ·exact Or.inr ⟨g, cap, hv, hc⟩
end Go.Proofs.YtlgfgeacphkhnaaGreatDoor
/- COUNTED, the law's own. Own work of the verifier. -/
namespace Go.Proofs.YtlgfgeacphkhnaaGreatDoor
open Go.RowKit

def ex (O : List Cn) : List Int := O.flatMap (fun c => List.replicate c.2 c.1)
end Go.Proofs.YtlgfgeacphkhnaaGreatDoor
/- THE WALK OF THE QUANTILES' LAW, for whatever keeps the document's answers. Own work of the verifier. -/
namespace Go.Proofs.YtlgfgeacphkhnaaGreatDoor
open Go.RowKit

def RowA (w : World) (a : Addr) (L : List Cn) : Prop := ∀ j u, (fl L)[j]? = some u → w.cell? (a.add j) = some u
theorem RowA.below {w w1 : World} {a : Addr} {L : List Cn} (h : RowA w a L) (hb : Below w.heap.size w w1) : RowA w1 a L := fun j u hu => (hb.cell (lt_of_cell (h j u hu))).trans (h j u hu)
theorem RowA.row {w : World} {a : Addr} {L : List Cn} (h : RowA w a L) (hne : L ≠ []) : ∃ b o, a = ⟨b, o, none⟩ ∧ RowC w b o L := by
 have h0 : 0 < L.length := List.length_pos_iff.2 hne
 obtain ⟨b, o, s⟩ := a
 have hs : s = none := by
  have := World.cell?_spot (h (0 * 2) _ (fl_get L 0 h0).1)
  simpa [Addr.add] using this
 subst hs
 refine ⟨b, o, rfl, fun i hi => ?_⟩
 obtain ⟨g1, g2⟩ := fl_get L i hi
 have r1 := h _ _ g1
 have r2 := h _ _ g2
 rw [Addr.add_lit] at r1 r2
 exact ⟨r1, by rw [← Nat.add_assoc] at r2; exact r2⟩
def SN (w : World) (v : Value) (L : List Cn) : Prop := (v = .slice none 0 0 ∧ L = []) ∨ ∃ a cap, v = .slice (some a) L.length cap ∧ L.length ≤ cap ∧ RowA w a L
theorem SN.sc2 {w : World} {v : Value} {L : List Cn} (h : SN w v L) : ∃ ao b o cap, v = .slice ao L.length cap ∧ (L ≠ [] → ao = some ⟨b, o, none⟩) ∧ RowC w b o L ∧ L.length ≤ cap := by
 rcases h with ⟨rfl, rfl⟩ | ⟨a, cap, rfl, hc, hr⟩
 ·exact ⟨none, 0, 0, 0, rfl, fun k => absurd rfl k, (fun i hi => by simp at hi), Nat.zero_le _⟩
 ·by_cases hne : L = []
  ·subst hne
   exact ⟨some a, 0, 0, cap, rfl, fun k => absurd rfl k, (fun i hi => by simp at hi), hc⟩
  ·obtain ⟨b, o, e, hr2⟩ := hr.row hne
   exact ⟨_, b, o, cap, rfl, fun _ => by rw [e], hr2, hc⟩
theorem SN.sc {w : World} {v : Value} {L : List Cn} (h : SN w v L) : SC w v L := by
 obtain ⟨ao, b, o, cap, h1, h2, h3, _⟩ := h.sc2
 exact ⟨ao, b, o, cap, h1, h2, h3⟩
theorem SN.below {w w1 : World} {v : Value} {L : List Cn} (h : SN w v L) (hb : Below w.heap.size w w1) : SN w1 v L := by
 rcases h with h | ⟨a, cap, h1, h2, hr⟩
 ·exact Or.inl h
 ·exact Or.inr ⟨a, cap, h1, h2, hr.below hb⟩
theorem GC.sn {B : Nat} {W0 w : World} {v : Value} {xs : List Cn} (h : GC B W0 v xs w) : SN w v xs := by
 rcases gc_form2 h with ⟨rfl, rfl⟩ | ⟨g, cap, rfl, hc⟩
 ·exact Or.inl ⟨rfl, rfl⟩
 ·obtain ⟨ao, b, o, c, hv, hao, hr⟩ := h.sc
  have hR : RowC w g 0 xs := fun i hi => by
   have hne : xs ≠ [] := fun e => by rw [e] at hi; simp at hi
   have := hao hne
   subst this
   cases hv
   exact hr i hi
  exact Or.inr ⟨⟨g, 0, none⟩, cap, rfl, hc, hR.cells⟩
end Go.Proofs.YtlgfgeacphkhnaaGreatDoor
