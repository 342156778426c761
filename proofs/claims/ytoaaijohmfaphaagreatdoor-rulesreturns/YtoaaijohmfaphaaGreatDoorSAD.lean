/- THE SHORTEST DIGITS of the least floats. Own work of the verifier. -/
import Derived.Test.YtoaaijohmfaphaaGreatDoorSAC
import Derived.OwnWalk
import Derived.Handy
import Derived.LoopN
import Derived.Lib.ItoaMem
import Derived.Lib.ItoaLen
import Derived.Maps.AppendAt
import Derived.Deep.AppendLies
namespace Go.Proofs.YtoaaijohmfaphaaGreatDoor.Rl
open Go.RowKit

set_option maxHeartbeats 1000000 in
set_option maxRecDepth 100000 in
theorem shortD (m mn mx odd z y : Nat) (e p : Int) (hm0 : 9223372036854775808 ≤ m) (hm1 : m < 18446744073709551616) (hz0 : 12 ≤ z) (hz1 : z ≤ 63) (hy : (z : Int) - 1 = (y : Int)) (he : e + (z : Int) = -1074) (he2 : 11 + (-1085 - e) = (z : Int)) (_he0 : -1137 ≤ e) (_he1 : e ≤ -1086)
    (T : Nat) (hT2 : (2 : Int) ^ y = (T : Int)) (hT3 : T ≤ 4611686018427387904) (R : Nat) (hR : (m : Int) / 2 ^ z = (R : Int)) (hR2 : R < 9223372036854775808) (hmn : (m : Int) - (T : Int) = (mn : Int)) (hmx : (m : Int) + (T : Int) = (mx : Int)) (hmx1 : mx < 18446744073709551616) (hodd : bits .and .i64 (R : Int) 1 = (odd : Int)) (ho : odd ≤ 1) (hp : -(l10 (-1074)) = p) (hp0 : -348 ≤ p) (hp1 : p ≤ 347)
    (w : World) (hg : 7 < w.heap.size) (hT : Pow w) :
    Calls Tryz.prog 125 #[.int .u64 (m : Int), .int .i64 e] w fun r w' => r = .returned (.tuple #[.int .u64 ((pick m mn mx odd e p).1 : Int), .int .i64 (pick m mn mx odd e p).2]) ∧ Below w.heap.size w w' := by
  have HL : Hid (∀ W, Calls Tryz.prog 120 #[.int .i64 (-1074)] W fun r w' => r = .returned (.int .i64 (-p)) ∧ w' = W) := by
    rw [show -p = l10 (-1074) from by omega]; exact log10Pow2_any (-1074) (by omega) (by omega)
  have hc : ((m : Int) == 9223372036854775808) = false ∨ ((m : Int) == 9223372036854775808) = true := by cases ((m : Int) == 9223372036854775808) <;> simp
  have hl : -2000 ≤ l2 p ∧ l2 p ≤ 2000 := by unfold l2; omega
  obtain ⟨hl0, hl1⟩ := hl
  clear hp
  obtain ⟨U1, V1, D1, U2, V2, D2, U3, D3, hS⟩ := sc_of m mn mx odd e p (by omega) (by omega) (by omega) ho hp0 hp1
  have hd1 := hS.l1
  have hd2 := hS.l2
  have hd3 := hS.l3
  obtain ⟨Q, hQ⟩ : ∃ Q : Nat, D2 / 10 = Q := ⟨_, rfl⟩
  have hQi : (D2 : Int) / 10 = (Q : Int) := by omega
  have hpk : (D1 ≤ Q * 10 ∧ pick m mn mx odd e p = (D2 / 10, -(p - 1))) ∨ (Q * 10 < D1 ∧ ((D1 < D2 ∧ pick m mn mx odd e p = (D3, -p)) ∨ (D2 ≤ D1 ∧ pick m mn mx odd e p = (D1, -p)))) := by
    have h := hS.pk
    rw [hQ] at h ⊢
    by_cases h1 : D1 ≤ Q * 10
    · rw [if_pos h1] at h; exact Or.inl ⟨h1, h⟩
    · rw [if_neg h1] at h
      by_cases h2 : D1 < D2
      · rw [if_pos h2] at h; exact Or.inr ⟨by omega, Or.inl ⟨h2, h⟩⟩
      · rw [if_neg h2] at h; exact Or.inr ⟨by omega, Or.inr ⟨by omega, h⟩⟩
  have HS : Hid _ := hS
  have HPK : Hid _ := hpk
  clear hS hpk
  go_enter Tryz.func125, Tryz.ntmps125
  rcases hc with hc | hc
  all_goals
    go_wp2_with (first
      | (go_at_call 120; with_reducible refine (HL.out _).mono ?_; rintro r w ⟨rfl, rfl⟩)
      | (go_at_call 147; with_reducible refine (HL.out _).mono ?_; rintro r w ⟨rfl, rfl⟩)
      | (go_at_call 149; with_reducible refine (log2Pow10_any p (by omega) (by omega) _).mono ?_; rintro r w ⟨rfl, rfl⟩)
      | fail)
    refine (prescale_any _ e p (l2 p) hp0 hp1 (by omega) (by omega) (by omega) (by omega) _ (by simp; omega) (pow_alloc hT hg _) (.int .u64 0) (.int .u64 0) (.int .i64 0) (by simp [go_sem]) (by simp [go_sem]) (by simp [go_sem]) (by simp [go_sem]) (by simp [go_sem]) (by simp [go_sem])).mono ?_
    rintro r w1 ⟨rfl, hw1⟩
    have hb1 : Below w.heap.size w w1 := by
      rw [hw1]; exact (((bel1 w _).setCell (Nat.le_refl _) _).setCell (Nat.le_refl _) _).setCell (Nat.le_refl _) _
    have hz1 : w.heap.size < w1.heap.size := by rw [hw1]; simp [World.setCell]
    have c0 : w1.cell? ⟨w.heap.size, 0, none⟩ = some (.int .u64 (tabHi (p + 348).toNat : Int)) := by rw [hw1]; simp [go_sem]
    have c1 : w1.cell? ⟨w.heap.size, 1, none⟩ = some (.int .u64 (tabLo (p + 348).toNat : Int)) := by rw [hw1]; simp [go_sem]
    have c2 : w1.cell? ⟨w.heap.size, 2, none⟩ = some (.int .i64 (-(e + l2 p + 3))) := by rw [hw1]; simp [go_sem]
    clear hw1
    go_wp2_with fail
    refine (HS.out.u1 _ w1 c0 c1 c2).mono ?_
    rintro r w2 ⟨rfl, hb2⟩
    obtain ⟨k2, _⟩ := bcell hb2
    have hz2 : w.heap.size < w2.heap.size := by have := hb2.size; omega
    have c0 : w2.cell? ⟨w.heap.size, 0, none⟩ = some (.int .u64 (tabHi (p + 348).toNat : Int)) := by rw [k2 _ _ hz1, c0]
    have c1 : w2.cell? ⟨w.heap.size, 1, none⟩ = some (.int .u64 (tabLo (p + 348).toNat : Int)) := by rw [k2 _ _ hz1, c1]
    have c2 : w2.cell? ⟨w.heap.size, 2, none⟩ = some (.int .i64 (-(e + l2 p + 3))) := by rw [k2 _ _ hz1, c2]
    clear k2
    go_wp2_with (first
      | (go_at_call 151; with_reducible refine (HS.out.n1 _).mono ?_; rintro r w2 ⟨rfl, rfl⟩)
      | (go_at_call 152; with_reducible refine (HS.out.d1 _).mono ?_; rintro r w2 ⟨rfl, rfl⟩)
      | fail)
    refine (HS.out.u2 _ w2 c0 c1 c2).mono ?_
    rintro r w3 ⟨rfl, hb3⟩
    obtain ⟨k3, _⟩ := bcell hb3
    have hz3 : w.heap.size < w3.heap.size := by have := hb3.size; omega
    have c0 : w3.cell? ⟨w.heap.size, 0, none⟩ = some (.int .u64 (tabHi (p + 348).toNat : Int)) := by rw [k3 _ _ hz2, c0]
    have c1 : w3.cell? ⟨w.heap.size, 1, none⟩ = some (.int .u64 (tabLo (p + 348).toNat : Int)) := by rw [k3 _ _ hz2, c1]
    have c2 : w3.cell? ⟨w.heap.size, 2, none⟩ = some (.int .i64 (-(e + l2 p + 3))) := by rw [k3 _ _ hz2, c2]
    clear k3
    have hb : Below w.heap.size w w3 := (hb1.trans (hb2.mono hb1.size)).trans (hb3.mono (by have := hb2.size; omega))
    rcases HPK.out with ⟨q1, q2⟩ | ⟨q1, ⟨q2, q3⟩ | ⟨q2, q3⟩⟩
    · go_wp2_with (first
        | (go_at_call 151; with_reducible refine (HS.out.n2 _).mono ?_; rintro r w3 ⟨rfl, rfl⟩)
        | (go_at_call 153; with_reducible refine (HS.out.d2 _).mono ?_; rintro r w3 ⟨rfl, rfl⟩)
        | fail)
      go_ret2
      exact ⟨by rw [q2, hQ]; rfl, hb⟩
    · go_wp2_with (first
        | (go_at_call 151; with_reducible refine (HS.out.n2 _).mono ?_; rintro r w3 ⟨rfl, rfl⟩)
        | (go_at_call 153; with_reducible refine (HS.out.d2 _).mono ?_; rintro r w3 ⟨rfl, rfl⟩)
        | fail)
      refine (HS.out.u3 _ w3 c0 c1 c2).mono ?_
      rintro r w4 ⟨rfl, hb4⟩
      go_wp2_with (first
        | (go_at_call 154; with_reducible refine (HS.out.d3 _).mono ?_; rintro r w4 ⟨rfl, rfl⟩)
        | fail)
      go_ret2
      exact ⟨by rw [q3]; rfl, hb.trans (hb4.mono hb.size)⟩
    · go_wp2_with (first
        | (go_at_call 151; with_reducible refine (HS.out.n2 _).mono ?_; rintro r w3 ⟨rfl, rfl⟩)
        | (go_at_call 153; with_reducible refine (HS.out.d2 _).mono ?_; rintro r w3 ⟨rfl, rfl⟩)
        | fail)
      go_ret2
      exact ⟨by rw [q3]; rfl, hb⟩
theorem short_any (m : Nat) (e : Int) (hm0 : 9223372036854775808 ≤ m) (hm1 : m < 18446744073709551616) (hn : -1085 ≤ e → m ≤ 18446744073709549568) (hd : e < -1085 → m % 2 ^ (-1074 - e).toNat = 0) (he0 : -1137 ≤ e) (he1 : e ≤ 1000) (w : World) (hg : 7 < w.heap.size) (hT : Pow w) :
    Calls Tryz.prog 125 #[.int .u64 (m : Int), .int .i64 e] w fun r w' => r = .returned (.tuple #[.int .u64 ((shortF m e).1 : Int), .int .i64 (shortF m e).2]) ∧ Below w.heap.size w w' := by
  unfold shortF
  by_cases h1 : m = 9223372036854775808 ∧ -1085 < e
  · rw [if_pos h1]
    obtain ⟨rfl, h2⟩ := h1
    exact shortS _ _ _ 0 e _ (by decide) (by decide) h2 he1 (by decide) (by decide) (by decide) (by decide) (by decide) rfl (by unfold skw; omega) (by unfold skw; omega) w hg hT
  · rw [if_neg h1]
    by_cases h2 : -1085 ≤ e
    · rw [if_pos h2]
      have hm2 := hn h2
      have ha := and_one_i (m / 2048) (by omega)
      rw [show ((m / 2048 : Nat) : Int) = (m : Int) / 2048 from by omega] at ha
      refine shortN m _ _ _ e _ hm0 hm2 h2 he1 ?_ (by omega) (by omega) ha (by omega) rfl (by unfold l10; omega) (by unfold l10; omega) w hg hT
      by_cases h3 : m = 9223372036854775808
      · exact Or.inr ⟨by rw [beq_iff_eq]; omega, by omega⟩
      · exact Or.inl (by rw [beq_eq_false_iff_ne]; omega)
    · rw [if_neg h2]
      obtain ⟨z, hz⟩ : ∃ z : Nat, (-1074 - e).toNat = z := ⟨_, rfl⟩
      obtain ⟨y, hy⟩ : ∃ y : Nat, (-1075 - e).toNat = y := ⟨_, rfl⟩
      have hd := hd (by omega)
      rw [hz] at hd
      rw [hz, hy]
      have hzy : z = y + 1 := by omega
      have hy62 : 2 ^ y ≤ 2 ^ 62 := Nat.pow_le_pow_right (by decide) (by omega)
      have hp : 0 < 2 ^ y := Nat.pow_pos (by decide)
      have hR : m / 2 ^ z < 9223372036854775808 := by
        rw [hzy, Nat.pow_succ]
        refine Nat.div_lt_of_lt_mul (Nat.lt_of_lt_of_le hm1 ?_)
        have := Nat.mul_le_mul_right 9223372036854775808 (show 2 ≤ 2 ^ y * 2 by omega)
        omega
      have hsum : m + 2 ^ y < 18446744073709551616 := by
        -- m is a multiple of 2^z below 2^64, so at most 2^64 - 2^z
        have e1 := Nat.div_add_mod m (2 ^ z)
        have e2 : 2 ^ z * 2 ^ (64 - z) = 18446744073709551616 := by rw [← Nat.pow_add, show z + (64 - z) = 64 from by omega]
        rw [hd, Nat.add_zero] at e1
        have e3 : m / 2 ^ z < 2 ^ (64 - z) := Nat.div_lt_of_lt_mul (by rw [e2]; exact hm1)
        have e4 : 2 ^ z * (m / 2 ^ z + 1) ≤ 2 ^ z * 2 ^ (64 - z) := Nat.mul_le_mul_left _ e3
        rw [Nat.mul_add, Nat.mul_one, e1, e2, hzy, Nat.pow_succ] at e4
        omega
      have hle : 2 ^ y ≤ m := by omega
      refine shortD m _ _ _ z y e _ hm0 hm1 (by omega) (by omega) (by omega) (by omega) (by omega) he0 (by omega) (2 ^ y) (by rw [Int.natCast_pow]; rfl) (by omega) (m / 2 ^ z) (div_cast m z) hR (by omega) (by omega) hsum (and_one_i _ hR) (by omega) rfl (by decide) (by decide) w hg hT
end Go.Proofs.YtoaaijohmfaphaaGreatDoor.Rl
/- THE DIGITS LAID INTO A ROW OF BYTES, and zeros behind them left out. Own work of the verifier. -/
namespace Go.Proofs.YtoaaijohmfaphaaGreatDoor.Rl
open Go.RowKit Go.Sort

def byteV (b : UInt8) : Value := .int .u8 (b.toNat : Int)
abbrev Tab (w : World) : Prop := Lib.TabIs Tryz.prog w "internal/strconv.uint64pow10" .u64 Lib.pow10Tab
def DigAt (g u : Nat) (w : World) : Prop := ∃ arr, w.heap[g]? = some (.cells arr 166) ∧ arr.size = 32 ∧ ∀ j (h : j < (Lib.decDigits u).length), arr[j]? = some (byteV (Lib.decDigits u)[j])
theorem DigAt.cell {g u : Nat} {w : World} (h : DigAt g u w) (j : Nat) (hj : j < (Lib.decDigits u).length) : w.cell? ⟨g, j, none⟩ = some (byteV (Lib.decDigits u)[j]) := by
  obtain ⟨arr, h1, h0, h2⟩ := h
  simp [World.cell?, h1, h2 j hj]
theorem drewN_heap (w : World) (q : Nat) : (w.drewN q).heap = w.heap := by
  induction q with
  | zero => rfl
  | succ q ih => exact ih
theorem drewN_rest (w : World) (q : Nat) : (w.drewN q).os = w.os ∧ (w.drewN q).tape = w.tape ∧ (w.drewN q).output = w.output := by
  induction q with
  | zero => exact ⟨rfl, rfl, rfl⟩
  | succ q ih => exact ih
theorem DigAt.drewN {g u : Nat} {w : World} (h : DigAt g u w) (q : Nat) : DigAt g u (w.drewN q) := by
  unfold DigAt at h ⊢
  rw [drewN_heap]; exact h
theorem grown_drewN {w w1 : World} {row : Option Nat} (h : w.grownBy w1 row) (q : Nat) : w.grownBy (w1.drewN q) row := by
  obtain ⟨a, b, c⟩ := drewN_rest w1 q
  exact ⟨a.trans h.os, b.trans h.tape, c.trans h.output, by rw [drewN_heap]; exact h.size, fun i hi hr => by rw [drewN_heap]; exact h.block i hi hr⟩
theorem laid_digits {g u n q v' : Nat} {w : World} {dk : Array UInt8} (hob : w.heap[g]? = some (.cells (Array.replicate 32 (.int .u8 0)) 166)) (hN : Lib.nDigits u = n) (hfi : Lib.FmtInv n u 0 v' dk) (hn : n ≤ 20) :
    DigAt g u ((putRow (fun (b : UInt8) => Value.int .u8 (b.toNat : Int)) w g 0 dk).drewN q) ∧ w.grownBy ((putRow (fun (b : UInt8) => Value.int .u8 (b.toNat : Int)) w g 0 dk).drewN q) (some g) ∧ ((putRow (fun (b : UInt8) => Value.int .u8 (b.toNat : Int)) w g 0 dk).drewN q).heap.size = w.heap.size := by
  have hg : g < w.heap.size := by
    rcases Nat.lt_or_ge g w.heap.size with h | h
    · exact h
    · rw [Array.getElem?_eq_none h] at hob; cases hob
  have hsz := hfi.size
  refine ⟨?_, grown_drewN ?_ q, by rw [drewN_heap]; simp⟩
  · refine DigAt.drewN ?_ q
    refine ⟨putCells (fun (b : UInt8) => Value.int .u8 (b.toNat : Int)) 0 dk (Array.replicate 32 (.int .u8 0)), ?_, by simp [putCells], ?_⟩
    · simp [putRow, mapBlock, Array.getElem?_modify, hob, onCells]
    · intro j hj
      have hj' : j < n := by rw [Lib.decDigits_length, hN] at hj; exact hj
      subst hN
      rw [Lib.row_is_numeral hfi j hj]
      simp [putCells, show j < 32 by omega, show j < dk.size by omega, byteV]
  · refine ⟨rfl, rfl, rfl, by simp, fun i hi hr => ?_⟩
    simp only [putRow, mapBlock]
    rw [Array.getElem?_modify, if_neg (fun h => hr (by rw [h]))]
set_option maxHeartbeats 1000000 in
set_option maxRecDepth 100000 in
theorem setDigits_any (g u : Nat) (p : Int) (w : World) (hob : w.heap[g]? = some (.cells (Array.replicate 32 (.int .u8 0)) 166)) (h2 : u < 18446744073709551616) (hp0 : -100000 ≤ p) (hp1 : p ≤ 100000) :
    Calls Tryz.prog 118 #[.slice (some ⟨g, 0, none⟩) 32 32, .int .u64 (u : Int), .int .i64 p, .int .i64 (Lib.nDigits u : Int)] w fun r w' => ∃ k : Nat, k ≤ Lib.nDigits u ∧ (∀ j (h : j < (Lib.decDigits u).length), k ≤ j → (Lib.decDigits u)[j] = 48) ∧ (k = 0 ∨ ∃ h : k - 1 < (Lib.decDigits u).length, (Lib.decDigits u)[k - 1] ≠ 48) ∧
      r = .returned (.tuple #[.int .i64 ((Lib.nDigits u : Int) + p), .int .i64 (k : Int)]) ∧ DigAt g u w' ∧ w.grownBy w' (some g) ∧ w'.heap.size = w.heap.size := by
  obtain ⟨n, hN⟩ : ∃ n, Lib.nDigits u = n := ⟨_, rfl⟩
  have hn : n ≤ 20 := by rw [← hN]; exact Lib.nDigits_le20 u h2
  have hlen : (Lib.decDigits u).length = n := by rw [Lib.decDigits_length, hN]
  have HLEN : Hid _ := hlen
  clear hlen
  have hH : Holds (fun (b : UInt8) => Value.int .u8 (b.toNat : Int)) w g 0 (Array.replicate n (0 : UInt8)) := by
    intro j hj
    simp at hj
    have : j < 32 := by omega
    refine ⟨?_, ?_⟩
    · simp [World.cell?, hob, this, hj]
    · simp [World.frozen?, hob]
  have hF := Tryz.internal_strconv_formatBase10 g 0 32 u (Array.replicate n (0 : UInt8)) w hH (by simp; rw [← hN]; exact Lib.lt_pow_nDigits u) h2 (by simp; omega)
  rw [Array.size_replicate] at hF
  have HF : Hid (Calls Tryz.prog 127 #[.slice (some ⟨g, 0, none⟩) n 32, .int .u64 (u : Int)] w fun e w' =>
      e = .returned (.tuple #[]) ∧ ∃ (q v' : Nat) (dk : Array UInt8), w' = (putRow (fun (b : UInt8) => Value.int .u8 (b.toNat : Int)) w g 0 dk).drewN q ∧ Lib.FmtInv n u 0 v' dk) := hF
  clear hF
  rw [hN]
  go_enter Tryz.func118, Tryz.ntmps118
  go_wp2_with fail
  refine HF.out.mono ?_
  rintro r w1 ⟨rfl, q, v', dk, hw1, hfi⟩
  obtain ⟨hD, hgr, hsz⟩ := laid_digits (q := q) hob hN hfi hn
  rw [← hw1] at hD hgr hsz
  clear hw1 hfi HF hH hob
  go_wp2
  go_loopw [3] (fun a wr => ∃ k : Nat, k ≤ n ∧ a = .int .i64 k ∧ (∀ j (h : j < (Lib.decDigits u).length), k ≤ j → (Lib.decDigits u)[j] = 48) ∧ wr = w1) (fun a _ => (intOf a).toNat)
  case atStart => exact ⟨n, Nat.le_refl _, rfl, fun j h hj => by have := HLEN.out; omega, rfl⟩
  case round =>
    obtain ⟨k, hk, rfl, hz, rfl⟩ := hrel
    have HZ : Hid _ := hz
    clear hz
    cases k with
    | zero =>
      go_wp2
      go_ret2
      exact ⟨0, by omega, HZ.out, Or.inl rfl, rfl, hD, hgr, hsz⟩
    | succ j =>
      have hj : j < (Lib.decDigits u).length := by have := HLEN.out; omega
      have hc := hD.cell j hj
      unfold byteV at hc
      obtain ⟨b, hb⟩ : ∃ b, (Lib.decDigits u)[j] = b := ⟨_, rfl⟩
      rw [hb] at hc
      have HB : Hid ((Lib.decDigits u)[j] = b) := hb
      have hbl : b.toNat < 256 := b.toNat_lt
      clear hb
      by_cases h48 : b.toNat = 48
      · rw [h48] at hc
        go_wp2
        go_roundw
        case rel =>
          refine ⟨j, by omega, by go_num, fun i hi hji => ?_, by first | rfl | trivial⟩
          rcases Nat.lt_or_eq_of_le hji with h | h
          · exact HZ.out i hi h
          · subst h; rw [HB.out]; exact UInt8.toNat_inj.1 h48
        case measure => simp [intOf]
      · have hne : ((b.toNat : Int) == 48) = false := by rw [beq_eq_false_iff_ne]; omega
        go_wp2
        go_ret2
        refine ⟨j + 1, hk, HZ.out, Or.inr ⟨hj, ?_⟩, rfl, hD, hgr, hsz⟩
        intro h
        have h : (Lib.decDigits u)[j] = 48 := h
        rw [HB.out] at h
        rw [h] at h48
        exact h48 rfl
end Go.Proofs.YtoaaijohmfaphaaGreatDoor.Rl
/- A ROW OF BYTES THAT GROWS, and the digits beside it. Own work of the verifier. -/
namespace Go.Proofs.YtoaaijohmfaphaaGreatDoor.Rl
open Go.RowKit Go.Sort

structure Buf (B : Nat) (o : Option (Nat × Nat)) (W0 : World) (v : Value) (zs : List Int) (w : World) : Prop where
  own : w.ownsRow B 5 1 v zs.length (zs.map (Value.int .u8))
  nz : v ≠ .slice none 0 0
  below : Below B W0 w
  size : B ≤ w.heap.size
  len : zs.length ≤ 1000
  dig : ∀ g u, o = some (g, u) → DigAt g u w
theorem own_of {w : World} {B : Nat} {e : TypeId} {v : Value} {n : Nat} {xs : List Value} (h : w.ownsRow B e 1 v n xs) (hn : v ≠ .slice none 0 0) : ∃ g cap cur, v = .slice (some ⟨g, 0, none⟩) n cap ∧ B ≤ g ∧ w.heap[g]? = some (.cells cur e) := by
  rcases h.2 with h2 | ⟨g, cap, cur, hv, hg, hh, _⟩
  · exact absurd h2.1 hn
  · exact ⟨g, cap, cur, hv, hg, hh⟩
theorem Buf.grow {B : Nat} {o : Option (Nat × Nat)} {W0 w w1 w' : World} {v v' : Value} {zs news : List Int} (h : Buf B o W0 v zs w) (hw : w.grownBy w1 none) (m : Nat) (hm : news.length = m)
    (hown : w'.ownsRow B 5 1 v' (zs.length + m) (zs.map (Value.int .u8) ++ news.map (Value.int .u8))) (hg : w1.grownBy w' v.ownBlock) (hnil : v' = .slice none 0 0 ↔ v = .slice none 0 0 ∧ m = 0) (hl : (zs ++ news).length ≤ 1000) : Buf B o W0 v' (zs ++ news) w' := by
  obtain ⟨gv, cap, cur, rfl, hB, hcur⟩ := own_of h.own h.nz
  have hg' : w1.grownBy w' (some gv) := hg
  have hlt : gv < w.heap.size := by
    rcases Nat.lt_or_ge gv w.heap.size with k | k
    · exact k
    · rw [Array.getElem?_eq_none k] at hcur; cases hcur
  have s1 := hw.size
  have s2 := hg'.size
  refine ⟨?_, fun e => h.nz (hnil.1 e).1, ?_, by have := h.size; omega, hl, ?_⟩
  · rw [List.length_append, hm, List.map_append]; exact hown
  · exact (h.below.grown hw h.size (fun k e => by cases e)).grown hg' (by have := h.size; omega) (fun k e => by cases e; exact hB)
  · intro g u e
    obtain ⟨arr, h1, h0, h2⟩ := h.dig g u e
    have hne : g ≠ gv := fun e => by rw [e, hcur] at h1; cases h1
    have hgl : g < w.heap.size := by
      rcases Nat.lt_or_ge g w.heap.size with k | k
      · exact k
      · rw [Array.getElem?_eq_none k] at h1; cases h1
    refine ⟨arr, ?_, h0, h2⟩
    rw [hg'.block g (by omega) (fun e => hne (Option.some.inj e)), hw.block g hgl (by simp), h1]
theorem Buf.push {B : Nat} {o : Option (Nat × Nat)} {W0 w w' : World} {v v' : Value} {zs : List Int} {z : Int} (h : Buf B o W0 v zs w) (ob : Obj)
    (hown : w'.ownsRow B 5 1 v' (zs.length + 1) (zs.map (Value.int .u8) ++ [.int .u8 z])) (hg : (w.alloc ob).grownBy w' v.ownBlock) (hnil : v' = .slice none 0 0 ↔ v = .slice none 0 0 ∧ 1 = 0) (hl : (zs ++ [z]).length ≤ 1000) : Buf B o W0 v' (zs ++ [z]) w' :=
  h.grow (World.grownBy_alloc w ob none) 1 rfl hown hg hnil hl
theorem infoByte : (Tryz.prog.info? 5).map (fun i => (i.zero, i.size, i.bytes)) = some (some (.int .u8 0), 1, 1) := by kernel_rfl
end Go.Proofs.YtoaaijohmfaphaaGreatDoor.Rl
/- THE TEXT WITH AN EXPONENT, as the library writes it. Own work of the verifier. -/
namespace Go.Proofs.YtoaaijohmfaphaaGreatDoor.Rl
open Go.RowKit Go.Sort

def dI (u : Nat) : List Int := (Lib.decDigits u).map fun b => (b.toNat : Int)
theorem dI_length (u : Nat) : (dI u).length = Lib.nDigits u := by rw [dI, List.length_map, Lib.decDigits_length]
theorem DigAt.int {g u : Nat} {w : World} (h : DigAt g u w) (j : Nat) (hj : j < (dI u).length) : w.cell? ⟨g, j, none⟩ = some (.int .u8 ((dI u)[j])) := by
  have hj' : j < (Lib.decDigits u).length := by simpa [dI] using hj
  rw [h.cell j hj']
  simp [dI, byteV]
theorem cell_two_new (w : World) (x y : Value) (t : TypeId) : ∀ j u, [x, y][j]? = some u → (w.alloc (.cells #[x, y] t)).cell? ((⟨w.heap.size, 0, none⟩ : Addr).add j) = some u := by
  intro j u hj
  match j, hj with
  | 0, hj => simp at hj; subst hj; simp [go_sem]
  | 1, hj => simp at hj; subst hj; simp [go_sem]
  | k + 2, hj => simp at hj
theorem cell_three_new (w : World) (x y z : Value) (t : TypeId) : ∀ j u, [x, y, z][j]? = some u → (w.alloc (.cells #[x, y, z] t)).cell? ((⟨w.heap.size, 0, none⟩ : Addr).add j) = some u := by
  intro j u hj
  match j, hj with
  | 0, hj => simp at hj; subst hj; simp [go_sem]
  | 1, hj => simp at hj; subst hj; simp [go_sem]
  | 2, hj => simp at hj; subst hj; simp [go_sem]
  | k + 3, hj => simp at hj
theorem Buf.push2 {B : Nat} {o : Option (Nat × Nat)} {W0 w w' : World} {v v' : Value} {zs : List Int} {x y : Int} (h : Buf B o W0 v zs w) (ob : Obj)
    (hown : w'.ownsRow B 5 1 v' (zs.length + 2) (zs.map (Value.int .u8) ++ [.int .u8 x, .int .u8 y])) (hg : (w.alloc ob).grownBy w' v.ownBlock) (hnil : v' = .slice none 0 0 ↔ v = .slice none 0 0 ∧ 2 = 0) (hl : (zs ++ [x, y]).length ≤ 1000) : Buf B o W0 v' (zs ++ [x, y]) w' :=
  h.grow (World.grownBy_alloc w ob none) 2 rfl hown hg hnil hl
theorem Buf.push3 {B : Nat} {o : Option (Nat × Nat)} {W0 w w' : World} {v v' : Value} {zs : List Int} {x y z : Int} (h : Buf B o W0 v zs w) (ob : Obj)
    (hown : w'.ownsRow B 5 1 v' (zs.length + 3) (zs.map (Value.int .u8) ++ [.int .u8 x, .int .u8 y, .int .u8 z])) (hg : (w.alloc ob).grownBy w' v.ownBlock) (hnil : v' = .slice none 0 0 ↔ v = .slice none 0 0 ∧ 3 = 0) (hl : (zs ++ [x, y, z]).length ≤ 1000) : Buf B o W0 v' (zs ++ [x, y, z]) w' :=
  h.grow (World.grownBy_alloc w ob none) 3 rfl hown hg hnil hl
theorem Buf.mid {B g u : Nat} {W0 w : World} {v : Value} {zs mid : List Int} (h : Buf B (some (g, u)) W0 v zs w) (a : Nat) (hm : ∀ j (hj : j < mid.length), (dI u)[a + j]? = some mid[j]) :
    ∀ j x, (mid.map (Value.int .u8))[j]? = some x → w.cell? ((⟨g, a, none⟩ : Addr).add j) = some x := by
  intro j x hx
  have hj : j < mid.length := by simpa using (List.getElem?_eq_some_iff.1 hx).1
  have e := hm j hj
  obtain ⟨hlt, e⟩ := List.getElem?_eq_some_iff.1 e
  have := (h.dig g u rfl).int (a + j) hlt
  rw [e] at this
  rw [Addr.add_lit, this]
  simp [hj] at hx
  rw [hx]
theorem Buf.at0 {B g u : Nat} {W0 w : World} {v : Value} {zs : List Int} {d0 : Int} (h : Buf B (some (g, u)) W0 v zs w) (h0 : (dI u)[0]? = some d0) : w.cell? ⟨g, 0, none⟩ = some (.int .u8 d0) := by
  obtain ⟨hlt, e⟩ := List.getElem?_eq_some_iff.1 h0
  rw [(h.dig g u rfl).int 0 hlt, e]
def eDig (E : Nat) : List Int := if E < 10 then [48, (E : Int) + 48] else if E < 100 then [(E : Int) / 10 + 48, (E : Int) % 10 + 48] else [(E : Int) / 100 + 48, (E : Int) / 10 % 10 + 48, (E : Int) % 10 + 48]
def eTail (dp : Int) : List Int := if dp - 1 < 0 then 101 :: 45 :: eDig (1 - dp).toNat else 101 :: 43 :: eDig (dp - 1).toNat

set_option maxHeartbeats 4000000 in
set_option maxRecDepth 100000 in
theorem fmtE_one (neg : Bool) (B g u E : Nat) (dp d0 : Int) (W0 w : World) (v : Value) (hbuf : Buf B (some (g, u)) W0 v [] w) (h0 : (dI u)[0]? = some d0) (hdp : dp - 1 = (E : Int) ∨ dp - 1 < 0 ∧ 1 - dp = (E : Int)) (hE : E ≤ 400) :
    Calls Tryz.prog 115 #[v, .bool neg, .slice (some ⟨g, 0, none⟩) 32 32, .int .i64 dp, .int .i64 1, .int .i64 0, .int .u8 101, .bool true] w fun r w' => ∃ v', r = .returned v' ∧ Buf B (some (g, u)) W0 v' ((if neg then [45, d0] else [d0]) ++ eTail dp) w' := by
  obtain ⟨i0, hi, hz0, hz1, hz2⟩ := info_parts infoByte
  have ht : (dp - 1 = (E : Int) ∧ eTail dp = 101 :: 43 :: eDig E) ∨ (dp - 1 < 0 ∧ -(dp - 1) = (E : Int) ∧ eTail dp = 101 :: 45 :: eDig E) := by
    unfold eTail
    rcases hdp with h | ⟨h, k⟩
    · rw [if_neg (by omega), show (dp - 1).toNat = E from by omega]; exact Or.inl ⟨h, rfl⟩
    · rw [if_pos h, show (1 - dp).toNat = E from by omega]; exact Or.inr ⟨h, by omega, rfl⟩
  have hr : (E < 10 ∧ eDig E = [48, (E : Int) + 48]) ∨ (10 ≤ E ∧ E < 100 ∧ eDig E = [(E : Int) / 10 + 48, (E : Int) % 10 + 48]) ∨ (100 ≤ E ∧ eDig E = [(E : Int) / 100 + 48, (E : Int) / 10 % 10 + 48, (E : Int) % 10 + 48]) := by
    unfold eDig
    by_cases h1 : E < 10
    · exact Or.inl ⟨h1, if_pos h1⟩
    · rw [if_neg h1]
      by_cases h2 : E < 100
      · exact Or.inr (Or.inl ⟨by omega, h2, if_pos h2⟩)
      · exact Or.inr (Or.inr ⟨by omega, if_neg h2⟩)
  clear hdp
  have hd := hbuf.at0 h0
  have H0 : Hid _ := h0
  clear h0
  cases neg
  all_goals
    rcases ht with ⟨hp, ht⟩ | ⟨hp0, hp, ht⟩
    all_goals
      rcases hr with ⟨r1, r2⟩ | ⟨r0, r1, r2⟩ | ⟨r0, r2⟩
      all_goals
        rw [ht, r2]
        clear ht r2
        go_enter Tryz.func115, Tryz.ntmps115
        go_wp2_with (first
          | (at_builtin; refine wpList_append_own _ rfl _ _ 52 rfl B 5 i0 (.int .u8 0) 1 1 Tryz.underlying52 hi hz0 hz1 hz2 rfl (by decide) _ _ _ rfl (hbuf.own.alloc _) ⟨_, 0, none⟩ 1 1 [_] rfl rfl (cell_one_new _ _ _) (by intro u hu; simp at hu; subst hu; rfl) (by have := hbuf.len; unfold maxLen; omega) (by have := hbuf.len; omega) (by have := hbuf.size; simp; omega) ?_; intro v w hown hgrow hnil; have hbuf := hbuf.push _ hown hgrow hnil (by simp); have hd := hbuf.at0 H0.out; clear hown hgrow hnil)
          | (at_builtin; refine wpList_append_own _ rfl _ _ 52 rfl B 5 i0 (.int .u8 0) 1 1 Tryz.underlying52 hi hz0 hz1 hz2 rfl (by decide) _ _ _ rfl (hbuf.own.alloc _) ⟨_, 0, none⟩ 2 2 [_, _] rfl rfl (cell_two_new _ _ _ _) (by intro u hu; simp at hu; rcases hu with rfl | rfl <;> rfl) (by have := hbuf.len; unfold maxLen; omega) (by have := hbuf.len; omega) (by have := hbuf.size; simp; omega) ?_; intro v w hown hgrow hnil; have hbuf := hbuf.push2 _ hown hgrow hnil (by simp); clear hown hgrow hnil)
          | (at_builtin; refine wpList_append_own _ rfl _ _ 52 rfl B 5 i0 (.int .u8 0) 1 1 Tryz.underlying52 hi hz0 hz1 hz2 rfl (by decide) _ _ _ rfl (hbuf.own.alloc _) ⟨_, 0, none⟩ 3 3 [_, _, _] rfl rfl (cell_three_new _ _ _ _ _) (by intro u hu; simp at hu; rcases hu with rfl | rfl | rfl <;> rfl) (by have := hbuf.len; unfold maxLen; omega) (by have := hbuf.len; omega) (by have := hbuf.size; simp; omega) ?_; intro v w hown hgrow hnil; have hbuf := hbuf.push3 _ hown hgrow hnil (by simp); clear hown hgrow hnil)
          | fail)
        go_ret
        exact ⟨_, rfl, by simpa using hbuf⟩
end Go.Proofs.YtoaaijohmfaphaaGreatDoor.Rl
/- THE TEXT WITHOUT AN EXPONENT, as the library writes it. Own work of the verifier. -/
namespace Go.Proofs.YtoaaijohmfaphaaGreatDoor.Rl
open Go.RowKit Go.Sort

theorem take_one (l : List Int) (j : Nat) (h : j < l.length) : l.take (j + 1) = l.take j ++ [l[j]] := List.take_succ_eq_append_getElem h
theorem rep_one (j : Nat) : List.replicate (j + 1) (48 : Int) = List.replicate j 48 ++ [48] := List.replicate_succ'
set_option maxHeartbeats 4000000 in
set_option maxRecDepth 100000 in
theorem fmtF_whole (neg : Bool) (B g u k D : Nat) (W0 w : World) (v : Value) (hbuf : Buf B (some (g, u)) W0 v [] w) (hk0 : 1 ≤ k) (hk : k ≤ (dI u).length) (hk2 : k ≤ 20) (hkD : k ≤ D) (hD : D ≤ 400) :
    Calls Tryz.prog 115 #[v, .bool neg, .slice (some ⟨g, 0, none⟩) 32 32, .int .i64 (D : Int), .int .i64 (k : Int), .int .i64 0, .int .u8 102, .bool true] w fun r w' => ∃ v', r = .returned v' ∧ Buf B (some (g, u)) W0 v' ((if neg then [45] else []) ++ (dI u).take k ++ List.replicate (D - k) 48) w' := by
  obtain ⟨i0, hi, hz0, hz1, hz2⟩ := info_parts infoByte
  have hmin : min (k : Int) (D : Int) = (k : Int) := by omega
  have hD0 : decide (0 < D) = true := decide_eq_true (by omega)
  obtain ⟨R, hR⟩ : ∃ R : Nat, D - k = R := ⟨_, rfl⟩
  have hRi : (D : Int) - (k : Int) = (R : Int) := by omega
  have hR2 : R ≤ 400 := by omega
  rw [hR]
  obtain ⟨pre, HPRE⟩ : ∃ pre : List Int, Hid (pre = if neg then [45] else []) := ⟨_, rfl⟩
  have hpl : pre.length ≤ 1 := by rw [HPRE.out]; cases neg <;> decide
  rw [← HPRE.out]
  cases neg
  all_goals
    go_enter Tryz.func115, Tryz.ntmps115
    go_wp2_with (first
      | (at_builtin; refine wpList_append_own _ rfl _ _ 52 rfl B 5 i0 (.int .u8 0) 1 1 Tryz.underlying52 hi hz0 hz1 hz2 rfl (by decide) _ _ _ rfl (hbuf.own.alloc _) ⟨_, 0, none⟩ 1 1 [_] rfl rfl (cell_one_new _ _ _) (by intro u hu; simp at hu; subst hu; rfl) (by have := hbuf.len; unfold maxLen; omega) (by have := hbuf.len; omega) (by have := hbuf.size; simp; omega) ?_; intro v w hown hgrow hnil; have hbuf := hbuf.push _ hown hgrow hnil (by simp); clear hown hgrow hnil)
      | fail)
    have hbuf : Buf B (some (g, u)) W0 v pre w := by rw [HPRE.out]; exact hbuf
    go_loopw [191, 0, 25] (fun a v _ wr => ∃ j : Nat, j ≤ k ∧ a = .int .i64 j ∧ Buf B (some (g, u)) W0 v (pre ++ (dI u).take j) wr) (fun a _ _ _ => k - (intOf a).toNat)
    case atStart => exact ⟨0, Nat.zero_le _, rfl, by simpa using hbuf⟩
    case round =>
      obtain ⟨j, hj, rfl, hbuf⟩ := hrel
      rcases Nat.lt_or_eq_of_le hj with hlt | heq
      · have hc := (hbuf.dig g u rfl).int j (by omega)
        have HX : Hid _ := take_one (dI u) j (by omega)
        generalize (dI u)[j] = x at *
        go_wp2_with (first
          | (at_builtin; refine wpList_append_own _ rfl _ _ 52 rfl B 5 i0 (.int .u8 0) 1 1 Tryz.underlying52 hi hz0 hz1 hz2 rfl (by decide) _ _ _ rfl (hbuf.own.alloc _) ⟨_, 0, none⟩ 1 1 [_] rfl rfl (cell_one_new _ _ _) (by intro u hu; simp at hu; subst hu; rfl) (by have := hbuf.len; unfold maxLen; omega) (by have := hbuf.len; omega) (by have := hbuf.size; simp; omega) ?_; intro v w hown hgrow hnil; have hbuf := hbuf.push _ hown hgrow hnil (by simp; omega); clear hown hgrow hnil)
          | fail)
        go_roundw
        case rel => exact ⟨j + 1, by omega, by go_num, by rw [HX.out, ← List.append_assoc]; exact hbuf⟩
        case measure => simp [intOf]; omega
      · subst heq
        have hlen : (pre ++ (dI u).take j).length ≤ 21 := by simp; omega
        obtain ⟨zs, hzs⟩ : ∃ zs, pre ++ (dI u).take j = zs := ⟨_, rfl⟩
        rw [hzs] at hbuf hlen
        have HZ : Hid _ := hzs
        clear hzs
        go_wp2_with fail
        go_loopw [203, 0] (fun a v wr => ∃ i : Nat, i ≤ R ∧ a = .int .i64 i ∧ Buf B (some (g, u)) W0 v (zs ++ List.replicate i 48) wr) (fun a _ _ => R - (intOf a).toNat)
        case atStart => exact ⟨0, Nat.zero_le _, rfl, by simpa using hbuf⟩
        case round =>
          obtain ⟨i, hir, rfl, hbuf⟩ := hrel
          rcases Nat.lt_or_eq_of_le hir with hlt2 | heq2
          · go_wp2_with (first
              | (at_builtin; refine wpList_append_own _ rfl _ _ 52 rfl B 5 i0 (.int .u8 0) 1 1 Tryz.underlying52 hi hz0 hz1 hz2 rfl (by decide) _ _ _ rfl (hbuf.own.alloc _) ⟨_, 0, none⟩ 1 1 [_] rfl rfl (cell_one_new _ _ _) (by intro u hu; simp at hu; subst hu; rfl) (by have := hbuf.len; unfold maxLen; omega) (by have := hbuf.len; omega) (by have := hbuf.size; simp; omega) ?_; intro v w hown hgrow hnil; have hbuf := hbuf.push _ hown hgrow hnil (by simp; omega); clear hown hgrow hnil)
              | fail)
            go_roundw
            case rel => exact ⟨i + 1, by omega, by go_num, by rw [rep_one, ← List.append_assoc]; exact hbuf⟩
            case measure => simp [intOf]; omega
          · subst heq2
            go_wp2_with fail
            go_ret
            exact ⟨_, rfl, by rw [HZ.out]; exact hbuf⟩
end Go.Proofs.YtoaaijohmfaphaaGreatDoor.Rl
/- THE TEXT OF A FLOAT BELOW 1, as the library writes it. Own work of the verifier. -/
namespace Go.Proofs.YtoaaijohmfaphaaGreatDoor.Rl
open Go.RowKit Go.Sort

set_option maxHeartbeats 4000000 in
set_option maxRecDepth 100000 in
theorem fmtF_below (neg : Bool) (B g u k Z P : Nat) (dp : Int) (W0 w : World) (v : Value) (hbuf : Buf B (some (g, u)) W0 v [] w) (hk0 : 1 ≤ k) (hk : k ≤ (dI u).length) (hk2 : k ≤ 20) (hZ : Z ≤ 400) (hdp : -dp = (Z : Int)) (hP : P = k + Z) :
    Calls Tryz.prog 115 #[v, .bool neg, .slice (some ⟨g, 0, none⟩) 32 32, .int .i64 dp, .int .i64 (k : Int), .int .i64 (P : Int), .int .u8 102, .bool true] w fun r w' => ∃ v', r = .returned v' ∧ Buf B (some (g, u)) W0 v' ((if neg then [45] else []) ++ [48, 46] ++ List.replicate Z 48 ++ (dI u).take k) w' := by
  obtain ⟨i0, hi, hz0, hz1, hz2⟩ := info_parts infoByte
  have hdp1 : decide (0 < dp) = false := decide_eq_false (by omega)
  have hP0 : decide (0 < P) = true := decide_eq_true (by omega)
  have hmax1 : max (0 : Int) (Z : Int) = (Z : Int) := by omega
  have hmin1 : min (P : Int) (Z : Int) = (Z : Int) := by omega
  have hoff : dp + (Z : Int) = 0 := by omega
  have hmax2 : max (0 : Int) (k : Int) = (k : Int) := by omega
  have hsub : (P : Int) - (Z : Int) = (k : Int) := by omega
  have hb0 : -400 ≤ dp := by omega
  have hb1 : dp ≤ 0 := by omega
  have hPb : P ≤ 420 := by omega
  have HDP : Hid _ := hP
  clear hP
  obtain ⟨pre, HPRE⟩ : ∃ pre : List Int, Hid (pre = ((if neg then [45] else []) ++ [48, 46] : List Int)) := ⟨(if neg then [45] else []) ++ [48, 46], rfl⟩
  have hpl : pre.length ≤ 3 := by rw [HPRE.out]; cases neg <;> decide
  rw [← HPRE.out]
  cases neg
  all_goals
    go_enter Tryz.func115, Tryz.ntmps115
    go_wp2_with (first
      | (at_builtin; refine wpList_append_own _ rfl _ _ 52 rfl B 5 i0 (.int .u8 0) 1 1 Tryz.underlying52 hi hz0 hz1 hz2 rfl (by decide) _ _ _ rfl (hbuf.own.alloc _) ⟨_, 0, none⟩ 1 1 [_] rfl rfl (cell_one_new _ _ _) (by intro u hu; simp at hu; subst hu; rfl) (by have := hbuf.len; unfold maxLen; omega) (by have := hbuf.len; omega) (by have := hbuf.size; simp; omega) ?_; intro v w hown hgrow hnil; have hbuf := hbuf.push _ hown hgrow hnil (by simp); clear hown hgrow hnil)
      | fail)
    have hbuf : Buf B (some (g, u)) W0 v pre w := by rw [HPRE.out]; exact hbuf
    go_loopw [240, 0] (fun a v wr => ∃ i : Nat, i ≤ Z ∧ a = .int .i64 i ∧ Buf B (some (g, u)) W0 v (pre ++ List.replicate i 48) wr) (fun a _ _ => Z - (intOf a).toNat)
    case atStart => exact ⟨0, Nat.zero_le _, rfl, by simpa using hbuf⟩
    case round =>
      obtain ⟨i, hir, rfl, hbuf⟩ := hrel
      rcases Nat.lt_or_eq_of_le hir with hlt2 | heq2
      · go_wp2_with (first
          | (at_builtin; refine wpList_append_own _ rfl _ _ 52 rfl B 5 i0 (.int .u8 0) 1 1 Tryz.underlying52 hi hz0 hz1 hz2 rfl (by decide) _ _ _ rfl (hbuf.own.alloc _) ⟨_, 0, none⟩ 1 1 [_] rfl rfl (cell_one_new _ _ _) (by intro u hu; simp at hu; subst hu; rfl) (by have := hbuf.len; unfold maxLen; omega) (by have := hbuf.len; omega) (by have := hbuf.size; simp; omega) ?_; intro v w hown hgrow hnil; have hbuf := hbuf.push _ hown hgrow hnil (by simp; omega); clear hown hgrow hnil)
          | fail)
        go_roundw
        case rel => exact ⟨i + 1, by omega, by go_num, by rw [rep_one, ← List.append_assoc]; exact hbuf⟩
        case measure => simp [intOf]; omega
      · subst heq2
        have hlen : (pre ++ List.replicate i (48 : Int)).length ≤ 403 := by simp; omega
        obtain ⟨zs, hzs⟩ : ∃ zs, pre ++ List.replicate i (48 : Int) = zs := ⟨_, rfl⟩
        rw [hzs] at hbuf hlen
        have HZ : Hid _ := hzs
        clear hzs
        go_wp2_with fail
        go_loopw [247, 0, 30] (fun a v _ wr => ∃ j : Nat, j ≤ k ∧ a = .int .i64 j ∧ Buf B (some (g, u)) W0 v (zs ++ (dI u).take j) wr) (fun a _ _ _ => k - (intOf a).toNat)
        case atStart => exact ⟨0, Nat.zero_le _, rfl, by simpa using hbuf⟩
        case round =>
          obtain ⟨j, hj, rfl, hbuf⟩ := hrel
          rcases Nat.lt_or_eq_of_le hj with hlt3 | heq3
          · have hc := (hbuf.dig g u rfl).int j (by omega)
            have HX : Hid _ := take_one (dI u) j (by omega)
            generalize (dI u)[j] = x at *
            go_wp2_with (first
              | (at_builtin; refine wpList_append_own _ rfl _ _ 52 rfl B 5 i0 (.int .u8 0) 1 1 Tryz.underlying52 hi hz0 hz1 hz2 rfl (by decide) _ _ _ rfl (hbuf.own.alloc _) ⟨_, 0, none⟩ 1 1 [_] rfl rfl (cell_one_new _ _ _) (by intro u hu; simp at hu; subst hu; rfl) (by have := hbuf.len; unfold maxLen; omega) (by have := hbuf.len; omega) (by have := hbuf.size; simp; omega) ?_; intro v w hown hgrow hnil; have hbuf := hbuf.push _ hown hgrow hnil (by simp; omega); clear hown hgrow hnil)
              | fail)
            go_roundw
            case rel => exact ⟨j + 1, by omega, by go_num, by rw [HX.out, ← List.append_assoc]; exact hbuf⟩
            case measure => simp [intOf]; omega
          · subst heq3
            go_wp2_with fail
            go_loopw [261, 0] (fun a v wr => a = .int .i64 0 ∧ Buf B (some (g, u)) W0 v (zs ++ (dI u).take j) wr) (fun _ _ _ => 0)
            case atStart => exact ⟨rfl, hbuf⟩
            case round =>
              obtain ⟨rfl, hbuf⟩ := hrel
              go_wp2_with fail
              go_ret
              exact ⟨_, rfl, by rw [HZ.out]; exact hbuf⟩
end Go.Proofs.YtoaaijohmfaphaaGreatDoor.Rl
