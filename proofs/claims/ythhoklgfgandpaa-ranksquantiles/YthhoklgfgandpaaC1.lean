/- LISTS OF COUNTS in memory; Total. Own work of the verifier. -/
import Derived.Test.YthhoklgfgandpaaCMath
import Derived.Test.YthhoklgfgandpaaL3
import Derived.WalkKit
import Derived.WalkSpells
import Derived.RowKit3
import Derived.Below
import Derived.Outline
import Derived.Deep.QuietTactic
import Derived.Deep.Draws
import Derived.BigQuiet
import Derived.Laws.Bits64
import Derived.Laws.BitsAllLaws
import Derived.Deep.RegionHeld3
import Derived.Deep.DeepCutAuto
namespace Go.Proofs.Ythhoklgfgandpaa
open Go.RowKit

def Wc (L : List Cn) : Prop := ∀ c ∈ L, -9223372036854775808 ≤ c.1 ∧ c.1 < 9223372036854775808 ∧ c.2 < 18446744073709551616
def RowC (W : World) (b o : Nat) (L : List Cn) : Prop := ∀ i (h : i < L.length), W.cell? ⟨b, o + i * 2, none⟩ = some (.int .i64 L[i].1) ∧ W.cell? ⟨b, o + i * 2 + 1, none⟩ = some (.int .u64 (L[i].2 : Int))
theorem lt_of_cell {w : World} {a : Addr} {v : Value} (h : w.cell? a = some v) : a.block < w.heap.size := by
  unfold World.cell? at h
  split at h
  · rename_i h1
    rcases Nat.lt_or_ge a.block w.heap.size with k | k
    · exact k
    · rw [Array.getElem?_eq_none k] at h1; cases h1
  · cases h
theorem RowC.lt {W : World} {b o : Nat} {L : List Cn} (h : RowC W b o L) (hL : L ≠ []) : b < W.heap.size := by
  have h0 : 0 < L.length := List.length_pos_iff.2 hL
  exact lt_of_cell (h 0 h0).1
theorem RowC.below {W W1 : World} {b o : Nat} {L : List Cn} {B : Nat} (h : RowC W b o L) (hb : Below B W W1) (hB : L ≠ [] → b < B) : RowC W1 b o L := fun i hi => by
  have hL : L ≠ [] := fun e => by rw [e] at hi; simp at hi
  rw [hb.cell (p := ⟨b, o + i * 2, none⟩) (hB hL), hb.cell (p := ⟨b, o + i * 2 + 1, none⟩) (hB hL)]
  exact h i hi
/-- The sum of all, brought round. -/
def tot (L : List Cn) : Nat := (L.map (·.2)).sum % 18446744073709551616
theorem tot_take (L : List Cn) (i : Nat) (h : i < L.length) : tot (L.take (i + 1)) = (tot (L.take i) + L[i].2) % 18446744073709551616 := by
  unfold tot
  rw [List.take_succ_eq_append_getElem h, List.map_append, List.sum_append]
  simp
theorem rtotal_any (ao : Option Addr) (b o cap : Nat) (L : List Cn) (hao : L ≠ [] → ao = some ⟨b, o, none⟩) (_hW : Wc L) (hl : L.length ≤ 9223372036854775807) (w : World) (hR : RowC w b o L) :
    Calls Try.prog 14 #[.slice ao L.length cap] w fun e w' => e = .returned (.int .u64 (tot L : Nat)) ∧ w' = w := by
  go_enter Try.func14, Try.ntmps14
  go_wp2_with fail
  go_loopw [3, 4] (fun a c wr => ∃ i : Nat, i ≤ L.length ∧ a = .int .u64 (tot (L.take i) : Nat) ∧ c = .int .i64 (i : Int) ∧ wr = w) (fun _ c _ => L.length - (intOf c).toNat)
  case atStart => exact ⟨0, by omega, rfl, rfl, rfl⟩
  case round =>
    obtain ⟨i, hi, rfl, rfl, rfl⟩ := hrel
    by_cases hlt : i < L.length
    · obtain rfl := hao (by intro e; rw [e] at hlt; simp at hlt)
      have hlt' : (i : Int) < (L.length : Int) := by omega
      have q1 := (hR i hlt).2
      have HS : Hid _ := tot_take L i hlt
      generalize L[i].2 = n at *
      generalize tot (L.take i) = t at *
      go_wp2_with fail
      exact ⟨⟨i + 1, by omega, by rw [HS.out, IntKind.wrap_u64]; congr 1, by go_num, True.intro⟩, by simp [intOf]; omega⟩
    · obtain rfl : i = L.length := by omega
      have hlt' : ¬ (L.length : Int) < (L.length : Int) := by omega
      go_wp2_with fail
      go_ret
      exact ⟨rfl, rfl⟩
end Go.Proofs.Ythhoklgfgandpaa
