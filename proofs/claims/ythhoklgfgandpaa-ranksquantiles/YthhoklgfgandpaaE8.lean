/- THE FACTS OF THE QUANTILES' LAW. Own work of the verifier. -/
import Derived.Test.YthhoklgfgandpaaE7
namespace Go.Proofs.Ythhoklgfgandpaa
open Go.RowKit

theorem hiV_top {p i : Nat} (hp : p ≤ 14) (h : i < (64 - p) * 2 ^ p) : hiV p i < 9223372036854775808 := by
  have := hi_top h hp
  unfold hiV
  have := Nat.two_pow_pos (kk (2 ^ p) i)
  omega
theorem le_sumN {O : List Cn} {c : Cn} (h : c ∈ O) : c.2 ≤ sumN O := by
  unfold sumN
  induction O with
  | nil => cases h
  | cons d O ih =>
    rw [List.map_cons, List.sum_cons]
    rcases List.mem_cons.1 h with rfl | h
    · exact Nat.le_add_right _ _
    · exact Nat.le_trans (ih h) (Nat.le_add_left _ _)
theorem quant_facts {p num den n : Nat} {S ks : List Int} {O : List Cn} (h1 : 1 ≤ p) (h2 : p ≤ 14) (h3 : 1 ≤ den) (h4 : num ≤ den) (hn : 1 ≤ n) (hl : n ≤ 17592186043904) (hS : ∀ x ∈ S, 0 ≤ x ∧ x < 9223372036854775808) (hs : SrtI S) (hSn : S.length = n) (hC : CI ks O) (hK : KsOf p S ks) :
    ∃ r q a y : Nat, r = rkN n num den ∧ 1 ≤ r ∧ r ≤ n ∧ (∃ h : r - 1 < S.length, S[r - 1] = (y : Int)) ∧ qF p O num den = ((q : Int), 0) ∧ rkF n num den = (r, 0) ∧ amN p O q = a ∧ r ≤ a ∧ a ≤ n ∧ y ≤ q ∧ q - y ≤ y / 2 ^ p ∧ q < 9223372036854775808 ∧ MayIs (p : Int) O 0 ∧ Wc O ∧ O.length ≤ 4194304 := by
  have hkn : ks.length = n := by rw [hK.1, hSn]
  have hr := rkN_le (n := n) hn h4 h3
  have hr1 : 1 ≤ rkN n num den := by unfold rkN; omega
  have hrk : rkF n num den = (rkN n num den, 0) := by
    unfold rkF
    rw [if_pos ⟨by omega, by omega, by omega⟩, if_neg (by omega), Int.toNat_natCast, Int.toNat_natCast]
  generalize hrr : rkN n num den = r at *
  have b1 : r - 1 < ks.length := by omega
  have b2 : r - 1 < S.length := by omega
  have hix := hK.2 (r - 1) b1 b2
  have hv := hS _ (List.getElem_mem b2)
  have hin := ix_in h2 hix hv.2
  have hw := ix_wide hix
  have hat := hC.at hr1 b1
  have hmost := counted_most hC hK hs hr1 b1
  have hq : qF p O num den = (((hiV p ks[r - 1].toNat : Nat) : Int), 0) := by
    unfold qF
    rw [hC.sum, hkn, hrk]
    show (if (0 : Int) = 0 then _ else _) = _
    rw [if_pos rfl, hat]
  have htop := hiV_top h2 (show ks[r - 1].toNat < (64 - p) * 2 ^ p by omega)
  have ham := amN_le p O (hiV p ks[r - 1].toNat : Nat)
  rw [hC.sum, hkn] at ham
  have hmy := counted_may h1 h2 (by omega) hS hC hK
  obtain ⟨y, hy⟩ := Int.eq_ofNat_of_zero_le hv.1
  rw [hy, ← Int.natCast_ediv] at hw
  refine ⟨r, hiV p ks[r - 1].toNat, _, y, rfl, hr1, hr.1, ⟨b2, hy⟩, hq, hrk, rfl, hmost, ham, by omega, ?_, htop, hmy, ?_, by have := ci_few h2 (fun y hy => (hS y hy).2) hC hK; omega⟩
  · generalize y / 2 ^ p = z at *
    omega
  · intro c hc
    obtain ⟨v, hv, hx⟩ := hK.mem (hC.mem hc)
    have hi := ix_in h2 hx (hS v hv).2
    have hN : (64 - p) * 2 ^ p < 9223372036854775808 := by
      have : 2 ^ p ≤ 2 ^ 14 := Nat.pow_le_pow_right (by decide) h2
      have : (64 - p) * 2 ^ p ≤ 64 * 2 ^ 14 := Nat.mul_le_mul (by omega) this
      omega
    have hsum : c.2 ≤ sumN O := le_sumN hc
    rw [hC.sum, hkn] at hsum
    exact ⟨by omega, by omega, by omega⟩
end Go.Proofs.Ythhoklgfgandpaa
