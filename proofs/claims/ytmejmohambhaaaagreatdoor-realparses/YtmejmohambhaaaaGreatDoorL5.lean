/- THE DIGITS LAID INTO A ROW OF BYTES, and zeros behind them left out. Own work of the verifier. -/
import Derived.Test.YtmejmohambhaaaaGreatDoorL4b
import Derived.OwnWalk
import Derived.Handy
import Derived.LoopN
import Derived.Lib.ItoaMem
import Derived.Lib.ItoaLen
namespace Go.Proofs.YtmejmohambhaaaaGreatDoor
open Go.RowKit Go.Sort

def byteV (b : UInt8) : Value := .int .u8 (b.toNat : Int)
abbrev Tab (w : World) : Prop := Lib.TabIs Tryz.prog w "internal/strconv.uint64pow10" .u64 Lib.pow10Tab
/-- The digits of u lie in the block g. -/
def DigAt (g u : Nat) (w : World) : Prop := ∃ arr, w.heap[g]? = some (.cells arr 81) ∧ arr.size = 32 ∧ ∀ j (h : j < (Lib.decDigits u).length), arr[j]? = some (byteV (Lib.decDigits u)[j])
theorem DigAt.cell {g u : Nat} {w : World} (h : DigAt g u w) (j : Nat) (hj : j < (Lib.decDigits u).length) : w.cell? ⟨g, j, none⟩ = some (byteV (Lib.decDigits u)[j]) := by
  obtain ⟨arr, h1, h0, h2⟩ := h
  simp [World.cell?, h1, h2 j hj]
theorem drewN_heap (w : World) (q : Nat) : (w.drewN q).heap = w.heap := by
  induction q with
  | zero => rfl
  | succ q ih => exact ih
theorem drewN_rest (w : World) (q : Nat) : (w.drewN q).os = w.os ∧ (w.drewN q).tape = w.tape ∧ (w.drewN q).output = w.output := by
  induction q with
  | zero => exact ⟨rfl, rfl, rfl⟩
  | succ q ih => exact ih
theorem DigAt.drewN {g u : Nat} {w : World} (h : DigAt g u w) (q : Nat) : DigAt g u (w.drewN q) := by
  unfold DigAt at h ⊢
  rw [drewN_heap]; exact h
theorem grown_drewN {w w1 : World} {row : Option Nat} (h : w.grownBy w1 row) (q : Nat) : w.grownBy (w1.drewN q) row := by
  obtain ⟨a, b, c⟩ := drewN_rest w1 q
  exact ⟨a.trans h.os, b.trans h.tape, c.trans h.output, by rw [drewN_heap]; exact h.size, fun i hi hr => by rw [drewN_heap]; exact h.block i hi hr⟩
/-- What formatBase10 leaves. -/
theorem laid_digits {g u n q v' : Nat} {w : World} {dk : Array UInt8} (hob : w.heap[g]? = some (.cells (Array.replicate 32 (.int .u8 0)) 81)) (hN : Lib.nDigits u = n) (hfi : Lib.FmtInv n u 0 v' dk) (hn : n ≤ 20) :
    DigAt g u ((putRow (fun (b : UInt8) => Value.int .u8 (b.toNat : Int)) w g 0 dk).drewN q) ∧ w.grownBy ((putRow (fun (b : UInt8) => Value.int .u8 (b.toNat : Int)) w g 0 dk).drewN q) (some g) ∧ ((putRow (fun (b : UInt8) => Value.int .u8 (b.toNat : Int)) w g 0 dk).drewN q).heap.size = w.heap.size := by
  have hg : g < w.heap.size := by
    rcases Nat.lt_or_ge g w.heap.size with h | h
    · exact h
    · rw [Array.getElem?_eq_none h] at hob; cases hob
  have hsz := hfi.size
  refine ⟨?_, grown_drewN ?_ q, by rw [drewN_heap]; simp⟩
  · refine DigAt.drewN ?_ q
    refine ⟨putCells (fun (b : UInt8) => Value.int .u8 (b.toNat : Int)) 0 dk (Array.replicate 32 (.int .u8 0)), ?_, by simp [putCells], ?_⟩
    · simp [putRow, mapBlock, Array.getElem?_modify, hob, onCells]
    · intro j hj
      have hj' : j < n := by rw [Lib.decDigits_length, hN] at hj; exact hj
      subst hN
      rw [Lib.row_is_numeral hfi j hj]
      simp [putCells, show j < 32 by omega, show j < dk.size by omega, byteV]
  · refine ⟨rfl, rfl, rfl, by simp, fun i hi hr => ?_⟩
    simp only [putRow, mapBlock]
    rw [Array.getElem?_modify, if_neg (fun h => hr (by rw [h]))]
set_option maxHeartbeats 1000000 in
set_option maxRecDepth 100000 in
theorem setDigits_any (g u : Nat) (p : Int) (w : World) (hob : w.heap[g]? = some (.cells (Array.replicate 32 (.int .u8 0)) 81)) (h2 : u < 18446744073709551616) (hp0 : -100000 ≤ p) (hp1 : p ≤ 100000) :
    Calls Tryz.prog 63 #[.slice (some ⟨g, 0, none⟩) 32 32, .int .u64 (u : Int), .int .i64 p, .int .i64 (Lib.nDigits u : Int)] w fun r w' => ∃ k : Nat, k ≤ Lib.nDigits u ∧ (∀ j (h : j < (Lib.decDigits u).length), k ≤ j → (Lib.decDigits u)[j] = 48) ∧ (k = 0 ∨ ∃ h : k - 1 < (Lib.decDigits u).length, (Lib.decDigits u)[k - 1] ≠ 48) ∧
      r = .returned (.tuple #[.int .i64 ((Lib.nDigits u : Int) + p), .int .i64 (k : Int)]) ∧ DigAt g u w' ∧ w.grownBy w' (some g) ∧ w'.heap.size = w.heap.size := by
  obtain ⟨n, hN⟩ : ∃ n, Lib.nDigits u = n := ⟨_, rfl⟩
  have hn : n ≤ 20 := by rw [← hN]; exact Lib.nDigits_le20 u h2
  have hlen : (Lib.decDigits u).length = n := by rw [Lib.decDigits_length, hN]
  have HLEN : Hid _ := hlen
  clear hlen
  have hH : Holds (fun (b : UInt8) => Value.int .u8 (b.toNat : Int)) w g 0 (Array.replicate n (0 : UInt8)) := by
    intro j hj
    simp at hj
    have : j < 32 := by omega
    refine ⟨?_, ?_⟩
    · simp [World.cell?, hob, this, hj]
    · simp [World.frozen?, hob]
  have hF := Tryz.internal_strconv_formatBase10 g 0 32 u (Array.replicate n (0 : UInt8)) w hH (by simp; rw [← hN]; exact Lib.lt_pow_nDigits u) h2 (by simp; omega)
  rw [Array.size_replicate] at hF
  have HF : Hid (Calls Tryz.prog 87 #[.slice (some ⟨g, 0, none⟩) n 32, .int .u64 (u : Int)] w fun e w' =>
      e = .returned (.tuple #[]) ∧ ∃ (q v' : Nat) (dk : Array UInt8), w' = (putRow (fun (b : UInt8) => Value.int .u8 (b.toNat : Int)) w g 0 dk).drewN q ∧ Lib.FmtInv n u 0 v' dk) := hF
  clear hF
  rw [hN]
  go_enter Tryz.func63, Tryz.ntmps63
  go_wp2_with fail
  refine HF.out.mono ?_
  rintro r w1 ⟨rfl, q, v', dk, hw1, hfi⟩
  obtain ⟨hD, hgr, hsz⟩ := laid_digits (q := q) hob hN hfi hn
  rw [← hw1] at hD hgr hsz
  clear hw1 hfi HF hH hob
  go_wp2
  go_loopw [3] (fun a wr => ∃ k : Nat, k ≤ n ∧ a = .int .i64 k ∧ (∀ j (h : j < (Lib.decDigits u).length), k ≤ j → (Lib.decDigits u)[j] = 48) ∧ wr = w1) (fun a _ => (intOf a).toNat)
  case atStart => exact ⟨n, Nat.le_refl _, rfl, fun j h hj => by have := HLEN.out; omega, rfl⟩
  case round =>
    obtain ⟨k, hk, rfl, hz, rfl⟩ := hrel
    have HZ : Hid _ := hz
    clear hz
    cases k with
    | zero =>
      go_wp2
      go_ret2
      exact ⟨0, by omega, HZ.out, Or.inl rfl, rfl, hD, hgr, hsz⟩
    | succ j =>
      have hj : j < (Lib.decDigits u).length := by have := HLEN.out; omega
      have hc := hD.cell j hj
      unfold byteV at hc
      obtain ⟨b, hb⟩ : ∃ b, (Lib.decDigits u)[j] = b := ⟨_, rfl⟩
      rw [hb] at hc
      have HB : Hid ((Lib.decDigits u)[j] = b) := hb
      have hbl : b.toNat < 256 := b.toNat_lt
      clear hb
      by_cases h48 : b.toNat = 48
      · rw [h48] at hc
        go_wp2
        go_roundw
        case rel =>
          refine ⟨j, by omega, by go_num, fun i hi hji => ?_, by first | rfl | trivial⟩
          rcases Nat.lt_or_eq_of_le hji with h | h
          · exact HZ.out i hi h
          · subst h; rw [HB.out]; exact UInt8.toNat_inj.1 h48
        case measure => simp [intOf]
      · have hne : ((b.toNat : Int) == 48) = false := by rw [beq_eq_false_iff_ne]; omega
        go_wp2
        go_ret2
        refine ⟨j + 1, hk, HZ.out, Or.inr ⟨hj, ?_⟩, rfl, hD, hgr, hsz⟩
        intro h
        have h : (Lib.decDigits u)[j] = 48 := h
        rw [HB.out] at h
        rw [h] at h48
        exact h48 rfl
end Go.Proofs.YtmejmohambhaaaaGreatDoor
