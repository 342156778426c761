/- WHAT COUNTED COUNTS COME TO: ranks, quantiles. Own work of the verifier. -/
import Derived.Test.YthhoklgfgandpaaE4
namespace Go.Proofs.Ythhoklgfgandpaa
open Go.RowKit

theorem ex_cons (c : Cn) (O : List Cn) : ex (c :: O) = List.replicate c.2 c.1 ++ ex O := List.flatMap_cons
theorem atF_ex : ∀ (O : List Cn) (r : Nat) (_ : 1 ≤ r) (h : r - 1 < (ex O).length), atF O r = ((ex O)[r - 1], 0)
  | [], r, _, h => by simp [ex] at h
  | c :: O, r, h1, h => by
    simp only [atF]
    rw [if_neg (by omega)]
    have e := ex_cons c O
    by_cases k : r ≤ c.2
    · rw [if_pos k]
      have g : (ex (c :: O))[r - 1] = c.1 := by
        rw [List.getElem_of_eq e, List.getElem_append_left (by rw [List.length_replicate]; omega), List.getElem_replicate]
      rw [g]
    · rw [if_neg k]
      have hl : (ex (c :: O)).length = c.2 + (ex O).length := by rw [e, List.length_append, List.length_replicate]
      rw [atF_ex O (r - c.2) (by omega) (by omega)]
      have g : (ex (c :: O))[r - 1] = (ex O)[r - c.2 - 1]'(by omega) := by
        rw [List.getElem_of_eq e, List.getElem_append_right (by rw [List.length_replicate]; omega)]
        congr 1
        rw [List.length_replicate]
        omega
      rw [g]
theorem amN_ex (p : Nat) (v : Int) : ∀ O : List Cn, amN p O v = (ex O).countP (fun k => decide ((hiV p k.toNat : Int) ≤ v))
  | [] => rfl
  | c :: O => by
    rw [ex_cons, List.countP_append, List.countP_replicate, ← amN_ex p v O]
    unfold amN
    rw [List.map_cons, List.sum_cons]
    simp
theorem CI.sum {ks : List Int} {O : List Cn} (h : CI ks O) : sumN O = ks.length := by rw [← h.all, ex_length]; rfl
theorem CI.at {ks : List Int} {O : List Cn} (h : CI ks O) {r : Nat} (h1 : 1 ≤ r) (h2 : r - 1 < ks.length) : atF O r = (ks[r - 1], 0) := by
  have e := h.all
  subst e
  exact atF_ex O r h1 h2
theorem lo_mono {P i j : Nat} (hP : 0 < P) (h : i ≤ j) : lo P i ≤ lo P j := by
  obtain ⟨d, rfl⟩ := Nat.exists_eq_add_of_le h
  clear h
  induction d with
  | zero => exact Nat.le_refl _
  | succ d ih =>
    have := lo_next (i + d) hP
    rw [← Nat.add_assoc, this]
    exact Nat.le_trans ih (Nat.le_add_right _ _)
theorem hiV_mono {p i j : Nat} (h : i ≤ j) : hiV p i ≤ hiV p j := by
  have hP := Nat.two_pow_pos p
  unfold hiV
  rw [← lo_next i hP, ← lo_next j hP]
  have := lo_mono hP (show i + 1 ≤ j + 1 by omega)
  omega
theorem ix_uniq {p : Nat} {v k k' : Int} (h : IxIs p v k) (h' : IxIs p v k') : k = k' := Int.le_antisymm (ix_mono h h' (Int.le_refl _)) (ix_mono h' h (Int.le_refl _))
/-- A value stands between the ends of its bucket. -/
theorem ix_wide {p : Nat} {v k : Int} (h : IxIs p v k) : v ≤ (hiV p k.toNat : Int) ∧ (hiV p k.toNat : Int) - v ≤ v / ((2 ^ p : Nat) : Int) := by
  obtain ⟨x, q, rfl, i1, rfl⟩ := h
  rw [Int.toNat_natCast, ← Int.natCast_ediv]
  have a1 := lo_le i1
  have a2 := wide_ok i1
  unfold hiV
  rw [kk_idx i1]
  have := Nat.two_pow_pos q
  generalize x / 2 ^ p = y at *
  generalize lo (2 ^ p) (idx (2 ^ p) x q) = l at *
  omega
theorem srtI_get {S : List Int} (h : SrtI S) {i j : Nat} (hij : i ≤ j) (hj : j < S.length) : S[i]'(by omega) ≤ S[j] := by
  rcases Nat.lt_or_ge i j with k | k
  · exact List.pairwise_iff_getElem.1 h i j (by omega) hj k
  · have : i = j := by omega
    subst this
    exact Int.le_refl _
theorem getD_at {O : List Cn} {j : Nat} (h : j < O.length) : O.getD j (0, 1) = O[j] := by simp [List.getD, h]
theorem counted_may {p : Nat} {S ks : List Int} {O : List Cn} (h1 : 1 ≤ p) (h2 : p ≤ 14) (hl : S.length ≤ 17592186043904) (hS : ∀ x ∈ S, 0 ≤ x ∧ x < 9223372036854775808) (hC : CI ks O) (hK : KsOf p S ks) : MayIs (p : Int) O 0 := by
  refine Or.inr ⟨by omega, Or.inr ⟨fun j hj => ?_, ?_⟩⟩
  · rw [Int.toNat_natCast]
    obtain ⟨v, hv, hix⟩ := hK.mem (hC.mem (List.getElem_mem hj))
    have hin := ix_in h2 hix (hS v hv).2
    have hpos := hC.pos _ (List.getElem_mem hj)
    unfold bad
    rw [getD_at hj]
    rw [if_neg (by omega), if_neg, if_neg (by omega)]
    rintro ⟨k1, k2⟩
    rw [getD_at (show j - 1 < O.length by omega)] at k2
    have := List.pairwise_iff_getElem.1 hC.rise (j - 1) j (by omega) hj (by omega)
    omega
  · rw [if_neg]
    rw [hC.sum, hK.1]
    omega
/-- At the quantile's own value at least so many. -/
theorem counted_most {p r : Nat} {S ks : List Int} {O : List Cn} (hC : CI ks O) (hK : KsOf p S ks) (hs : SrtI S) (h1 : 1 ≤ r) (hr : r - 1 < ks.length) : r ≤ amN p O (hiV p ks[r - 1].toNat : Nat) := by
  rw [amN_ex, hC.all]
  have e := List.take_append_drop r ks
  have hc : (ks.take r).countP (fun k => decide ((hiV p k.toNat : Int) ≤ (hiV p ks[r - 1].toNat : Nat))) = (ks.take r).length := by
    rw [List.countP_eq_length]
    intro k hk
    obtain ⟨i, hi, rfl⟩ := List.mem_iff_getElem.1 hk
    rw [List.length_take] at hi
    rw [List.getElem_take]
    refine decide_eq_true ?_
    have hl := hK.1
    have hix := hK.2 i (by omega) (by omega)
    have hix2 := hK.2 (r - 1) hr (by omega)
    have := ix_mono hix hix2 (srtI_get hs (by omega) (by omega))
    have := hiV_mono (p := p) (Int.toNat_le_toNat this)
    omega
  have : (ks.take r).countP (fun k => decide ((hiV p k.toNat : Int) ≤ (hiV p ks[r - 1].toNat : Nat))) ≤ ks.countP (fun k => decide ((hiV p k.toNat : Int) ≤ (hiV p ks[r - 1].toNat : Nat))) := List.Sublist.countP_le (List.take_sublist _ _)
  rw [hc, List.length_take] at this
  omega
end Go.Proofs.Ythhoklgfgandpaa
