/- WHAT THE DOCUMENT'S CALLS TELL, in one place; whoever keeps to it. Own work of the verifier. -/
import Derived.Test.YthhoklgfgandpaaE7
namespace Go.Proofs.Ythhoklgfgandpaa
open Go.RowKit

/-- Calls that keep to the document. -/
structure Doc (fMay fTotal fAt fMerge fRank fQuant fMost : FuncId) : Prop where
  may : ∀ (W : World) (v : Value) (L : List Cn) (p x : Int), SN W v L → Wc L → L.length ≤ 4194304 → MayIs p L x → Calls Try.prog fMay #[.int .i64 p, v] W fun e w' => e = .returned (.int .i64 x) ∧ Below W.heap.size W w'
  total : ∀ (W : World) (v : Value) (L : List Cn), SN W v L → Wc L → L.length ≤ 4194304 → Calls Try.prog fTotal #[v] W fun e w' => e = .returned (.int .u64 (tot L : Nat)) ∧ Below W.heap.size W w'
  at_ : ∀ (W : World) (v : Value) (L : List Cn) (r : Nat), SN W v L → Wc L → L.length ≤ 4194304 → r < 18446744073709551616 → Calls Try.prog fAt #[v, .int .u64 (r : Int)] W fun e w' => e = two (atF L r).1 (atF L r).2 ∧ Below W.heap.size W w'
  merge : ∀ (W : World) (v v' : Value) (A C : List Cn), SN W v A → SN W v' C → Wc (A ++ C) → A.length ≤ 1048576 → C.length ≤ 1048576 → Calls Try.prog fMerge #[v, v'] W fun e w' => Md W (A ++ C) e w'
  rank : ∀ (W : World) (n : Nat) (num den : Int), n < 18446744073709551616 → den < 9223372036854775808 → Calls Try.prog fRank #[.int .u64 (n : Int), .int .i64 num, .int .i64 den] W fun e w' => e = twoU (rkF n num den).1 (rkF n num den).2 ∧ Below W.heap.size W w'
  quant : ∀ (W : World) (v : Value) (L : List Cn) (p num den x : Int), SN W v L → Wc L → L.length ≤ 4194304 → MayIs p L x → den < 9223372036854775808 → Calls Try.prog fQuant #[.int .i64 p, v, .int .i64 num, .int .i64 den] W fun e w' => e = two (if x = 0 then (qF p.toNat L num den).1 else 0) (if x = 0 then (qF p.toNat L num den).2 else x) ∧ Below W.heap.size W w'
  most : ∀ (W : World) (v : Value) (L : List Cn) (p y x : Int), SN W v L → Wc L → L.length ≤ 4194304 → MayIs p L x → Calls Try.prog fMost #[.int .i64 p, v, .int .i64 y] W fun e w' => e = twoU (if x = 0 then (amN p.toNat L y : Nat) else 0) x ∧ Below W.heap.size W w'
/-- The document's own do. -/
theorem doc_ref : Doc 12 14 10 17 19 21 23 := by
  constructor
  · intro W v L p x h hW hl hx
    obtain ⟨ao, b, o, cap, rfl, hao, hr⟩ := h.sc
    refine Calls.mono (rmay_is ao b o cap p L hao hW (by omega) hx W hr) ?_
    rintro e w' ⟨rfl, n, rfl⟩
    exact ⟨rfl, below_drew W n⟩
  · intro W v L h hW hl
    obtain ⟨ao, b, o, cap, rfl, hao, hr⟩ := h.sc
    refine Calls.mono (rtotal_any ao b o cap L hao hW (by omega) W hr) ?_
    rintro e w' ⟨rfl, rfl⟩
    exact ⟨rfl, Below.refl _ _⟩
  · intro W v L r h hW hl hr
    obtain ⟨ao, b, o, cap, rfl, hao, hR⟩ := h.sc
    refine Calls.mono (rat_any ao b o cap L hao (by omega) r hr W hR) ?_
    rintro e w' ⟨rfl, n, rfl⟩
    exact ⟨rfl, below_drew W n⟩
  · intro W v v' A C hA hC hW lA lC
    rcases hA with ⟨rfl, rfl⟩ | ⟨b, o, cap, rfl, _, hr⟩
    · rcases hC with ⟨rfl, rfl⟩ | ⟨b', o', cap', rfl, _, hr'⟩
      · exact merge_none W
      · exact merge_left _ C cap' lC W hr'.cells hW
    · rcases hC with ⟨rfl, rfl⟩ | ⟨b', o', cap', rfl, _, hr'⟩
      · exact merge_right _ A cap lA W hr.cells hW
      · exact merge_some _ A cap _ C cap' lA lC W hr.cells (fun W' hW' => (hr'.below hW' (fun k => hr'.lt k)).cells) hW
  · intro W n num den hn hd
    exact rrank_any n num den hn hd W
  · intro W v L p num den x h hW hl hx hd
    obtain ⟨ao, b, o, cap, rfl, hao, hr⟩ := h.sc
    by_cases h0 : x = 0
    · subst h0
      have hp := (may_ok hx).1
      obtain ⟨P, rfl⟩ := Int.eq_ofNat_of_zero_le (by omega : 0 ≤ p)
      exact rquant_ok ao b o cap P L hao hW (by omega) hx num den hd W hr
    · rw [if_neg h0, if_neg h0]
      exact rquant_not ao b o cap p L hao hW (by omega) hx h0 num den W hr
  · intro W v L p y x h hW hl hx
    obtain ⟨ao, b, o, cap, rfl, hao, hr⟩ := h.sc
    by_cases h0 : x = 0
    · subst h0
      have hp := (may_ok hx).1
      obtain ⟨P, rfl⟩ := Int.eq_ofNat_of_zero_le (by omega : 0 ≤ p)
      refine Calls.mono (ratmost_ok ao b o cap P L hao hW (by omega) hx y W hr) ?_
      rintro e w' ⟨rfl, n, rfl⟩
      exact ⟨rfl, below_drew W n⟩
    · rw [if_neg h0]
      refine Calls.mono (ratmost_not ao b o cap p L hao hW (by omega) hx h0 y W hr) ?_
      rintro e w' ⟨rfl, n, rfl⟩
      exact ⟨rfl, below_drew W n⟩
/-- What the law of quantiles asks. -/
theorem told_of {fT fA fM : FuncId} (D : Doc 11 fT fA fM 18 20 22) (F : ∀ W : World, Calls Try.prog 8 #[] W fun e w' => e = .returned (.bool true) ∧ Below W.heap.size W w') : Told :=
  ⟨D.may, D.rank, fun W v L p num den h hW hl hx hd => D.quant W v L p num den 0 h hW hl hx hd, fun W v L p y h hW hl hx => D.most W v L p y 0 h hW hl hx, F⟩
theorem GC.len {B : Nat} {W0 w : World} {v : Value} {xs : List Cn} (h : GC B W0 v xs w) : xs.length ≤ 9223372036854775807 := by
  rcases h.own.2 with ⟨_, k⟩ | ⟨g, cap, cur, hv, _, _, hc, hm, _⟩
  · omega
  · unfold maxLen at hm; omega
/-- Same, of slices. -/
theorem same_sn {w : World} {v v' : Value} {A C : List Cn} (h : SN w v A) (h' : SN w v' C) (hl : A.length ≤ 9223372036854775807) (hl' : C.length ≤ 9223372036854775807) : Calls Try.prog 15 #[v, v'] w fun e w' => e = .returned (.bool (decide (A = C))) ∧ Below w.heap.size w w' := by
  obtain ⟨ao, b, o, cap, rfl, hao, hr⟩ := h.sc
  obtain ⟨ao', b', o', cap', rfl, hao', hr'⟩ := h'.sc
  refine Calls.mono (same_any ao b o cap A hao ao' b' o' cap' C hao' hl hl' w hr hr') ?_
  rintro e w' ⟨rfl, n, rfl⟩
  exact ⟨rfl, below_drew w n⟩
end Go.Proofs.Ythhoklgfgandpaa
