/- Quantile, the document's. Own work of the verifier. -/
import Derived.Test.YthhoklgfgandpaaC6
namespace Go.Proofs.Ythhoklgfgandpaa
open Go.RowKit

theorem atF_ok : ∀ (L : List Cn) (r : Nat), 1 ≤ r → r ≤ sumN L → ∃ c ∈ L, atF L r = (c.1, 0)
  | [], r, h1, h2 => by simp [sumN] at h2; omega
  | c :: L, r, h1, h2 => by
    simp only [atF]
    rw [if_neg (by omega)]
    by_cases h : r ≤ c.2
    · rw [if_pos h]; exact ⟨c, by simp, rfl⟩
    · rw [if_neg h]
      have : sumN (c :: L) = c.2 + sumN L := by simp [sumN]
      obtain ⟨d, hd, he⟩ := atF_ok L (r - c.2) (by omega) (by omega)
      exact ⟨d, by simp [hd], he⟩
theorem bt {w W W1 : World} (h : Below w.heap.size w W) (k : Below W.heap.size W W1) : Below w.heap.size w W1 := h.trans (k.mono h.size)
theorem tot_sum {L : List Cn} (h : sumN L ≤ 9223372036854775807) : tot L = sumN L := Nat.mod_eq_of_lt (by show sumN L < _; omega)
/-- What the document's Quantile tells of counts that may be. -/
def qF (p : Nat) (L : List Cn) (num den : Int) : Int × Int := if (rkF (sumN L) num den).2 = 0 then ((hiV p (atF L (rkF (sumN L) num den).1).1.toNat : Nat), 0) else (0, (rkF (sumN L) num den).2)
theorem rkF_ok {n : Nat} {num den : Int} (h : (rkF n num den).2 = 0) : 1 ≤ (rkF n num den).1 ∧ (rkF n num den).1 ≤ n := by
  unfold rkF at *
  by_cases h1 : 1 ≤ den ∧ 0 ≤ num ∧ num ≤ den
  · rw [if_pos h1] at h ⊢
    by_cases h0 : n = 0
    · rw [if_pos h0] at h; exact absurd h (by decide)
    · rw [if_neg h0]
      refine ⟨?_, (rkN_le (by omega) (by omega) (by omega)).1⟩
      show 1 ≤ rkN _ _ _
      unfold rkN
      omega
  · rw [if_neg h1] at h; exact absurd h (by decide)
set_option maxHeartbeats 1000000 in
theorem rquant_ok (ao : Option Addr) (b o cap : Nat) (p : Nat) (L : List Cn) (hao : L ≠ [] → ao = some ⟨b, o, none⟩) (hW : Wc L) (hl : L.length ≤ 9223372036854775807) (hx : MayIs (p : Int) L 0) (num den : Int) (hd : den < 9223372036854775808) (w : World) (hR : RowC w b o L) :
    Calls Try.prog 21 #[.int .i64 (p : Int), .slice ao L.length cap, .int .i64 num, .int .i64 den] w fun e w' => e = two (qF p L num den).1 (qF p L num den).2 ∧ Below w.heap.size w w' := by
  obtain ⟨hp, hsum, hidx⟩ := may_ok hx
  have HM : Hid (∀ W, RowC W b o L → _) := fun W k => rmay_is ao b o cap (p : Int) L hao hW hl hx W k
  have HT : Hid (∀ W, RowC W b o L → _) := fun W k => rtotal_any ao b o cap L hao hW hl W k
  rw [tot_sum hsum] at HT
  have HK : Hid (∀ W, _) := rrank_any (sumN L) num den (by omega) hd
  have HRb : Hid (∀ W, Below w.heap.size w W → RowC W b o L) := fun W k => hR.below k (fun h => hR.lt h)
  have HQ : Hid _ := rkF_ok (n := sumN L) (num := num) (den := den)
  unfold qF
  by_cases he : (rkF (sumN L) num den).2 = 0
  · rw [if_pos he]
    obtain ⟨q1, q2⟩ := HQ.out he
    obtain ⟨c, hc, hat⟩ := atF_ok L _ q1 q2
    obtain ⟨j, hj, rfl⟩ := List.getElem_of_mem hc
    have HA : Hid (∀ W, RowC W b o L → _) := fun W k => rat_any ao b o cap L hao hl (rkF (sumN L) num den).1 (by omega) W k
    rw [he] at HK
    rw [hat] at HA ⊢
    have HH : Hid (∀ W, _) := rhigh_at p (by omega) (by omega) L[j].1 (hidx j hj).1 (by have := (hidx j hj).2.1; simpa using this)
    clear hat hc hidx he HQ q1 q2
    generalize L[j].1 = x at *
    generalize (rkF (sumN L) num den).1 = r at *
    generalize sumN L = S at *
    generalize hiV p x.toNat = h at *
    go_enter Try.func21, Try.ntmps21
    go_wp2_with (first
      | (go_at_call 12; with_reducible refine (HM.out _ hR).mono ?_; rintro e w1 ⟨rfl, n1, rfl⟩; have hb1 := below_drew w n1)
      | (go_at_call 14; with_reducible refine (HT.out _ (HRb.out _ hb1)).mono ?_; rintro e w2 ⟨rfl, rfl⟩)
      | (go_at_call 19; with_reducible refine (HK.out _).mono ?_; rintro e w3 ⟨rfl, hb3⟩; have hb3' := bt hb1 hb3)
      | (go_at_call 10; with_reducible refine (HA.out _ (HRb.out _ hb3')).mono ?_; rintro e w4 ⟨rfl, n4, rfl⟩)
      | (go_at_call 45; with_reducible refine (HH.out _).mono ?_; rintro e w5 ⟨⟨n5, rfl⟩, rfl⟩))
    go_ret2
    exact ⟨rfl, bt hb3' (below_drew _ _)⟩
  · rw [if_neg he]
    have t1 : ((rkF (sumN L) num den).2 != 0) = true := by rw [bne_iff_ne]; exact he
    clear hidx he HQ
    generalize (rkF (sumN L) num den).2 = x at *
    generalize (rkF (sumN L) num den).1 = r at *
    generalize sumN L = S at *
    go_enter Try.func21, Try.ntmps21
    go_wp2_with (first
      | (go_at_call 12; with_reducible refine (HM.out _ hR).mono ?_; rintro e w1 ⟨rfl, n1, rfl⟩; have hb1 := below_drew w n1)
      | (go_at_call 14; with_reducible refine (HT.out _ (HRb.out _ hb1)).mono ?_; rintro e w2 ⟨rfl, rfl⟩)
      | (go_at_call 19; with_reducible refine (HK.out _).mono ?_; rintro e w3 ⟨rfl, hb3⟩; have hb3' := bt hb1 hb3))
    go_ret2
    exact ⟨rfl, hb3'⟩
end Go.Proofs.Ythhoklgfgandpaa
