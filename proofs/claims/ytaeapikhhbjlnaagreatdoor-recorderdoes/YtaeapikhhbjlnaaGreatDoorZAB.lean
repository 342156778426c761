/- THE DOCUMENT's calls of bucket. Own work of the verifier. -/
import Derived.Test.YtaeapikhhbjlnaaGreatDoorZAA
import Derived.WalkKit
import Derived.WalkSpells
import Derived.RowKit3
import Derived.Below
import Derived.Outline
import Derived.Deep.QuietTactic
import Derived.Deep.Draws
import Derived.BigQuiet
import Derived.Laws.Bits64
import Derived.Laws.BitsAllLaws
import Derived.Deep.RegionHeld3
import Derived.Deep.DeepCutAuto
namespace Go.Proofs.YtaeapikhhbjlnaaGreatDoor
open Go.RowKit

theorem sh_pos {v e : Nat} (hv : 1 ≤ v / 2 ^ e) (h : v < 9223372036854775808) : e ≤ 62 := by
  have b1 : 1 * 2 ^ e ≤ v := (Nat.le_div_iff_mul_le (Nat.two_pow_pos _)).1 hv
  have b2 : 2 ^ e < 2 ^ 63 := by have : (2 : Nat) ^ 63 = 9223372036854775808 := by decide
                                 rw [this]; omega
  have := (Nat.pow_lt_pow_iff_right (by decide)).1 b2
  omega
theorem rindex_yes (p v : Nat) (h1 : 1 ≤ p) (h2 : p ≤ 14) (hv : v < 9223372036854775808) (w : World) :
    Calls Tryz.prog 249 #[.int .i64 (p : Int), .int .i64 (v : Int)] w fun e w' => (∃ n, w' = w.drewN n) ∧ ∃ k : Nat, IsK (2 ^ p) v k ∧ e = two (idx (2 ^ p) v k : Nat) 0 := by
  have c1 : (0 : Int) ≤ (p : Int) := by omega
  have c2 : ¬ (v : Int) < 0 := by omega
  have HP : Hid (∀ W, _) := prr_yes p h1 h2
  have hw := wrap_pow p (by omega)
  by_cases hlt : v < 2 ^ p
  · have hl : (v : Int) < ((2 ^ p : Nat) : Int) := by exact_mod_cast hlt
    have hk : Hid (IsK (2 ^ p) v 0) := isK_zero hlt
    clear hlt
    generalize ha : 2 ^ p = P at *
    go_enter Tryz.func249, Tryz.ntmps249
    go_wp2_with (go_at_call 183; with_reducible refine (HP.out _).mono ?_; rintro e w1 ⟨rfl, rfl⟩)
    go_ret2
    refine ⟨⟨0, rfl⟩, 0, hk.out, two_of ?_⟩
    unfold idx
    simp
  · have hl : ¬ (v : Int) < ((2 ^ p : Nat) : Int) := by intro h; exact hlt (by exact_mod_cast h)
    have hge : Hid (2 ^ p ≤ v) := Nat.le_of_not_lt hlt
    have hv0 : 1 ≤ v / 2 ^ 0 := by have := hge.out; have := Nat.two_pow_pos p; rw [Nat.pow_zero, Nat.div_one]; omega
    clear hlt
    generalize ha : 2 ^ p = P at hl hw
    go_enter Tryz.func249, Tryz.ntmps249
    go_wp2_with (go_at_call 183; with_reducible refine (HP.out _).mono ?_; rintro e w1 ⟨rfl, rfl⟩)
    go_loopw [6] (fun a wr => ∃ n e : Nat, a = .int .i64 (e : Int) ∧ wr = w1.drewN n ∧ Hid (1 ≤ v / 2 ^ e)) (fun a _ => 64 - (intOf a).toNat)
    case atStart => exact ⟨0, 0, rfl, rfl, hv0⟩
    case round =>
      obtain ⟨n, e, rfl, rfl, he⟩ := hrel
      have hb : e ≤ 62 := sh_pos he.out hv
      have c5 : (0 : Int) ≤ (e : Int) := by omega
      by_cases ht : 1 < v / 2 ^ e
      · have hti : (1 : Int) < (v : Int) / 2 ^ e := by rw [div_pow]; omega
        have hn : Hid (1 ≤ v / 2 ^ (e + 1)) := by unfold Hid; rw [div_half]; omega
        clear ht
        go_wp2_with fail
        exact ⟨⟨n, e + 1, rfl, rfl, hn⟩, by simp [intOf]; omega⟩
      · have hti : ¬ (1 : Int) < (v : Int) / 2 ^ e := by rw [div_pow]; omega
        obtain ⟨hpe, hK⟩ := isK_exp (by omega : v / 2 ^ e ≤ 1) he.out hge.out
        obtain ⟨a1, a2, a3⟩ := idx_lt h2 hv hK
        have hK' : Hid (IsK (2 ^ p) v (e - p)) := hK
        have hA : Hid _ := And.intro a2 a3
        have hE : Hid ((e : Int) - (p : Int) = ((e - p : Nat) : Int)) := by unfold Hid; omega
        have c6 : (0 : Int) ≤ (e : Int) - (p : Int) := by omega
        clear hK a2 a3 ht
        go_wp2_with fail
        go_region
        go_wp2_with fail
        go_ret2
        subst ha
        refine ⟨⟨n + 1, rfl⟩, e - p, hK'.out, two_of ?_⟩
        obtain ⟨a2, a3⟩ := hA.out
        rw [hE.out, wrap_nat (Int.natCast_mul _ _).symm a2, div_pow]
        unfold idx
        exact add_nat (Nat.lt_of_lt_of_le a3 (by decide))
end Go.Proofs.YtaeapikhhbjlnaaGreatDoor
/- LISTS OF COUNTS in memory; Total. Own work of the verifier. -/
namespace Go.Proofs.YtaeapikhhbjlnaaGreatDoor
open Go.RowKit

def Wc (L : List Cn) : Prop := ∀ c ∈ L, -9223372036854775808 ≤ c.1 ∧ c.1 < 9223372036854775808 ∧ c.2 < 18446744073709551616
def RowC (W : World) (b o : Nat) (L : List Cn) : Prop := ∀ i (h : i < L.length), W.cell? ⟨b, o + i * 2, none⟩ = some (.int .i64 L[i].1) ∧ W.cell? ⟨b, o + i * 2 + 1, none⟩ = some (.int .u64 (L[i].2 : Int))
theorem lt_of_cell {w : World} {a : Addr} {v : Value} (h : w.cell? a = some v) : a.block < w.heap.size := by
  unfold World.cell? at h
  split at h
  · rename_i h1
    rcases Nat.lt_or_ge a.block w.heap.size with k | k
    · exact k
    · rw [Array.getElem?_eq_none k] at h1; cases h1
  · cases h
theorem RowC.lt {W : World} {b o : Nat} {L : List Cn} (h : RowC W b o L) (hL : L ≠ []) : b < W.heap.size := by
  have h0 : 0 < L.length := List.length_pos_iff.2 hL
  exact lt_of_cell (h 0 h0).1
theorem RowC.below {W W1 : World} {b o : Nat} {L : List Cn} {B : Nat} (h : RowC W b o L) (hb : Below B W W1) (hB : L ≠ [] → b < B) : RowC W1 b o L := fun i hi => by
  have hL : L ≠ [] := fun e => by rw [e] at hi; simp at hi
  rw [hb.cell (p := ⟨b, o + i * 2, none⟩) (hB hL), hb.cell (p := ⟨b, o + i * 2 + 1, none⟩) (hB hL)]
  exact h i hi
/-- The sum of all, brought round. -/
def tot (L : List Cn) : Nat := (L.map (·.2)).sum % 18446744073709551616
end Go.Proofs.YtaeapikhhbjlnaaGreatDoor
/- Same and At, the document's. Own work of the verifier. -/
namespace Go.Proofs.YtaeapikhhbjlnaaGreatDoor
open Go.RowKit

end Go.Proofs.YtaeapikhhbjlnaaGreatDoor
/- At, the document's. Own work of the verifier. -/
namespace Go.Proofs.YtaeapikhhbjlnaaGreatDoor
open Go.RowKit

def atF : List Cn → Nat → Int × Int
  | [], _ => (0, 2)
  | c :: L, r => if r = 0 then (0, 2) else if r ≤ c.2 then (c.1, 0) else atF L (r - c.2)
end Go.Proofs.YtaeapikhhbjlnaaGreatDoor
/- May, the document's. Own work of the verifier. -/
namespace Go.Proofs.YtaeapikhhbjlnaaGreatDoor
open Go.RowKit

/-- What is wrong with a count at its place; 0: nothing. -/
def bad (N : Nat) (L : List Cn) (i : Nat) : Int :=
  if (L.getD i (0, 1)).1 < 0 ∨ (N : Int) ≤ (L.getD i (0, 1)).1 then 2
  else if 0 < i ∧ (L.getD i (0, 1)).1 ≤ (L.getD (i - 1) (0, 1)).1 then 15
  else if (L.getD i (0, 1)).2 = 0 then 16 else 0
def sumN (L : List Cn) : Nat := (L.map (·.2)).sum
theorem sumN_take (L : List Cn) (i : Nat) (h : i < L.length) : sumN (L.take (i + 1)) = sumN (L.take i) + L[i].2 := by
  unfold sumN
  rw [List.take_succ_eq_append_getElem h, List.map_append, List.sum_append]
  simp
/-- The error of counts. -/
def MayIs (p : Int) (L : List Cn) (e : Int) : Prop :=
  (¬ (1 ≤ p ∧ p ≤ 14) ∧ e = 1) ∨ ((1 ≤ p ∧ p ≤ 14) ∧ ((∃ i, i < L.length ∧ (∀ j, j < i → bad ((64 - p.toNat) * 2 ^ p.toNat) L j = 0) ∧ bad ((64 - p.toNat) * 2 ^ p.toNat) L i ≠ 0 ∧ e = bad ((64 - p.toNat) * 2 ^ p.toNat) L i) ∨
    ((∀ j, j < L.length → bad ((64 - p.toNat) * 2 ^ p.toNat) L j = 0) ∧ e = if 9223372036854775807 < sumN L then 3 else 0)))
theorem MayIs.uniq {p : Int} {L : List Cn} {e f : Int} (h : MayIs p L e) (k : MayIs p L f) : e = f := by
  rcases h with ⟨h1, rfl⟩ | ⟨h1, h2⟩
  · rcases k with ⟨_, rfl⟩ | ⟨k1, _⟩
    · rfl
    · exact absurd k1 h1
  · rcases k with ⟨k1, _⟩ | ⟨_, k2⟩
    · exact absurd h1 k1
    · rcases h2 with ⟨i, a1, a2, a3, rfl⟩ | ⟨a1, rfl⟩ <;> rcases k2 with ⟨j, b1, b2, b3, rfl⟩ | ⟨b1, rfl⟩
      · rcases Nat.lt_trichotomy i j with c | c | c
        · exact absurd (b2 i c) a3
        · rw [c]
        · exact absurd (a2 j c) b3
      · exact absurd (b1 i a1) a3
      · exact absurd (a1 j b1) b3
      · rfl
end Go.Proofs.YtaeapikhhbjlnaaGreatDoor
