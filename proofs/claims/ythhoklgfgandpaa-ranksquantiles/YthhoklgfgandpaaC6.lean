/- AtMost, Quantile, the document's. Own work of the verifier. -/
import Derived.Test.YthhoklgfgandpaaC5
namespace Go.Proofs.Ythhoklgfgandpaa
open Go.RowKit

theorem below_drew (w : World) (n : Nat) : Below w.heap.size w (w.drewN n) := by
  induction n with
  | zero => exact Below.refl _ _
  | succ n ih => exact ih.drew
/-- The greatest value of a bucket. -/
def hiV (p i : Nat) : Nat := lo (2 ^ p) i + 2 ^ kk (2 ^ p) i - 1
def amN (p : Nat) (L : List Cn) (v : Int) : Nat := (L.map fun c => if (hiV p c.1.toNat : Int) ≤ v then c.2 else 0).sum
theorem amN_take (p : Nat) (L : List Cn) (v : Int) (i : Nat) (h : i < L.length) : amN p (L.take (i + 1)) v = amN p (L.take i) v + (if (hiV p L[i].1.toNat : Int) ≤ v then L[i].2 else 0) := by
  unfold amN
  rw [List.take_succ_eq_append_getElem h, List.map_append, List.sum_append]
  simp
theorem amN_le (p : Nat) (L : List Cn) (v : Int) : amN p L v ≤ sumN L := by
  unfold amN sumN
  induction L with
  | nil => simp
  | cons c L ih =>
    simp only [List.map_cons, List.sum_cons]
    split <;> omega
theorem sumN_mono (L : List Cn) (i : Nat) : sumN (L.take i) ≤ sumN L := by
  unfold sumN
  induction L generalizing i with
  | nil => simp
  | cons c L ih =>
    cases i with
    | zero => simp
    | succ i => have := ih i; simp only [List.take_succ_cons, List.map_cons, List.sum_cons]; omega
/-- Counts that may be. -/
theorem may_ok {p : Int} {L : List Cn} (h : MayIs p L 0) : (1 ≤ p ∧ p ≤ 14) ∧ sumN L ≤ 9223372036854775807 ∧ ∀ i (hi : i < L.length), 0 ≤ L[i].1 ∧ L[i].1 < (((64 - p.toNat) * 2 ^ p.toNat : Nat) : Int) ∧ L[i].2 ≠ 0 := by
  rcases h with ⟨_, h⟩ | ⟨hp, h⟩
  · exact absurd h (by decide)
  · rcases h with ⟨i, _, _, h3, h4⟩ | ⟨h1, h2⟩
    · exact absurd h4.symm h3
    · refine ⟨hp, ?_, fun i hi => ?_⟩
      · by_cases c : 9223372036854775807 < sumN L
        · rw [if_pos c] at h2; exact absurd h2 (by decide)
        · omega
      · have hb := h1 i hi
        unfold bad at hb
        rw [show L.getD i (0, 1) = L[i] from by simp [List.getD, hi]] at hb
        by_cases c1 : L[i].1 < 0 ∨ (((64 - p.toNat) * 2 ^ p.toNat : Nat) : Int) ≤ L[i].1
        · rw [if_pos c1] at hb; exact absurd hb (by decide)
        · rw [if_neg c1] at hb
          by_cases c2 : 0 < i ∧ L[i].1 ≤ (L.getD (i - 1) (0, 1)).1
          · rw [if_pos c2] at hb; exact absurd hb (by decide)
          · rw [if_neg c2] at hb
            by_cases c3 : L[i].2 = 0
            · rw [if_pos c3] at hb; exact absurd hb (by decide)
            · exact ⟨by omega, by omega, c3⟩
theorem rhigh_at (p : Nat) (h1 : 1 ≤ p) (h2 : p ≤ 14) (x : Int) (hx : 0 ≤ x) (hx' : x < (((64 - p) * 2 ^ p : Nat) : Int)) (w : World) :
    Calls Try.prog 45 #[.int .i64 (p : Int), .int .i64 x] w fun e w' => (∃ n, w' = w.drewN n) ∧ e = two (hiV p x.toNat : Nat) 0 := by
  obtain ⟨i, rfl⟩ := Int.eq_ofNat_of_zero_le hx
  exact rhigh_yes p i h1 h2 (by omega) w
set_option maxHeartbeats 1000000 in
theorem ratmost_ok (ao : Option Addr) (b o cap : Nat) (p : Nat) (L : List Cn) (hao : L ≠ [] → ao = some ⟨b, o, none⟩) (hW : Wc L) (hl : L.length ≤ 9223372036854775807) (hx : MayIs (p : Int) L 0) (v : Int) (w : World) (hR : RowC w b o L) :
    Calls Try.prog 23 #[.int .i64 (p : Int), .slice ao L.length cap, .int .i64 v] w fun e w' => e = twoU (amN p L v : Nat) 0 ∧ ∃ n, w' = w.drewN n := by
  obtain ⟨hp, hsum, hidx⟩ := may_ok hx
  have HM : Hid (∀ W, RowC W b o L → _) := fun W k => rmay_is ao b o cap (p : Int) L hao hW hl hx W k
  have HH : Hid (∀ i (hi : i < L.length) W, _) := fun i hi W => rhigh_at p (by omega) (by omega) L[i].1 (hidx i hi).1 (by have := (hidx i hi).2.1; simpa using this) W
  have HR : Hid (∀ n, RowC (w.drewN n) b o L) := fun n => hR
  clear hidx
  go_enter Try.func23, Try.ntmps23
  go_wp2_with (go_at_call 12; with_reducible refine (HM.out _ hR).mono ?_; rintro e w1 ⟨rfl, n1, rfl⟩)
  go_loopw [9, 10] (fun a c wr => ∃ i n t : Nat, i ≤ L.length ∧ a = .int .u64 (t : Int) ∧ c = .int .i64 (i : Int) ∧ wr = w.drewN n ∧ Hid (t = amN p (L.take i) v)) (fun _ c _ => L.length - (intOf c).toNat)
  case atStart => exact ⟨0, n1, 0, by omega, rfl, rfl, rfl, by simp [Hid, amN]⟩
  case round =>
    obtain ⟨i, n, t, hi, rfl, rfl, rfl, hT⟩ := hrel
    by_cases hlt : i < L.length
    · have hlt' : (i : Int) < (L.length : Int) := by omega
      obtain rfl := hao (by intro e; rw [e] at hlt; simp at hlt)
      obtain ⟨q1, q2⟩ := hR i hlt
      have HS : Hid _ := amN_take p L v i hlt
      have hle : t + L[i].2 < 18446744073709551616 := by
        have a1 := amN_le p (L.take i) v
        have a2 := sumN_take L i hlt
        have a3 := sumN_mono L (i + 1)
        have := hT.out
        omega
      have HI : Hid (∀ W, _) := HH.out i hlt
      generalize L[i] = c at *
      obtain ⟨x, y⟩ := c
      by_cases hv : (hiV p x.toNat : Int) ≤ v
      · have HN : Hid (t + y = amN p (L.take (i + 1)) v) := by unfold Hid; rw [HS.out, if_pos hv, hT.out]
        clear HS
        generalize hiV p x.toNat = h at *
        go_wp2_with (go_at_call 45; with_reducible refine (HI.out _).mono ?_; rintro e w2 ⟨⟨n2, rfl⟩, rfl⟩)
        exact ⟨⟨i + 1, _, t + y, by omega, by go_num, by go_num, rfl, HN⟩, by simp [intOf]; omega⟩
      · have HN : Hid (t = amN p (L.take (i + 1)) v) := by unfold Hid; rw [HS.out, if_neg hv, hT.out]; rfl
        clear HS
        generalize hiV p x.toNat = h at *
        go_wp2_with (go_at_call 45; with_reducible refine (HI.out _).mono ?_; rintro e w2 ⟨⟨n2, rfl⟩, rfl⟩)
        exact ⟨⟨i + 1, _, t, by omega, rfl, by go_num, rfl, HN⟩, by simp [intOf]; omega⟩
    · obtain rfl : i = L.length := by omega
      have hlt' : ¬ (L.length : Int) < (L.length : Int) := by omega
      have HT : Hid (t = amN p L v) := by unfold Hid; rw [hT.out, List.take_length]
      go_wp2_with fail
      go_ret2
      exact ⟨twoU_of (by rw [HT.out]), n, rfl⟩
theorem ratmost_not (ao : Option Addr) (b o cap : Nat) (p : Int) (L : List Cn) (hao : L ≠ [] → ao = some ⟨b, o, none⟩) (hW : Wc L) (hl : L.length ≤ 9223372036854775807) {x : Int} (hx : MayIs p L x) (h0 : x ≠ 0) (v : Int) (w : World) (hR : RowC w b o L) :
    Calls Try.prog 23 #[.int .i64 p, .slice ao L.length cap, .int .i64 v] w fun e w' => e = twoU 0 x ∧ ∃ n, w' = w.drewN n := by
  have HM : Hid (∀ W, RowC W b o L → _) := fun W k => rmay_is ao b o cap p L hao hW hl hx W k
  have t1 : (x != 0) = true := by rw [bne_iff_ne]; exact h0
  clear h0 hx
  go_enter Try.func23, Try.ntmps23
  go_wp2_with (go_at_call 12; with_reducible refine (HM.out _ hR).mono ?_; rintro e w1 ⟨rfl, n1, rfl⟩)
  go_ret2
  exact ⟨rfl, n1, rfl⟩
theorem rquant_not (ao : Option Addr) (b o cap : Nat) (p : Int) (L : List Cn) (hao : L ≠ [] → ao = some ⟨b, o, none⟩) (hW : Wc L) (hl : L.length ≤ 9223372036854775807) {x : Int} (hx : MayIs p L x) (h0 : x ≠ 0) (num den : Int) (w : World) (hR : RowC w b o L) :
    Calls Try.prog 21 #[.int .i64 p, .slice ao L.length cap, .int .i64 num, .int .i64 den] w fun e w' => e = two 0 x ∧ Below w.heap.size w w' := by
  have HM : Hid (∀ W, RowC W b o L → _) := fun W k => rmay_is ao b o cap p L hao hW hl hx W k
  have t1 : (x != 0) = true := by rw [bne_iff_ne]; exact h0
  clear h0 hx
  go_enter Try.func21, Try.ntmps21
  go_wp2_with (go_at_call 12; with_reducible refine (HM.out _ hR).mono ?_; rintro e w1 ⟨rfl, n1, rfl⟩)
  go_ret2
  exact ⟨rfl, below_drew _ _⟩
end Go.Proofs.Ythhoklgfgandpaa
