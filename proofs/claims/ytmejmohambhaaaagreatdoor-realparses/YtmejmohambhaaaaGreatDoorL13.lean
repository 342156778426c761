/- FormatFloat AT THREE FLOATS: 1e21, 0.1 and 1. Own work of the verifier. -/
import Derived.Test.YtmejmohambhaaaaGreatDoorL12
namespace Go.Proofs.YtmejmohambhaaaaGreatDoor
open Go.RowKit Go.Sort

theorem nd15 : Lib.nDigits 1000000000000000 = 16 := Lib.nDigits_unique 15 _ (by decide) (by decide)
theorem dd15 : Lib.decDigits 1000000000000000 = [49, 48, 48, 48, 48, 48, 48, 48, 48, 48, 48, 48, 48, 48, 48, 48] := by rw [Lib.decDigits_eq, nd15]; decide +kernel
theorem dI15 : dI 1000000000000000 = [49, 48, 48, 48, 48, 48, 48, 48, 48, 48, 48, 48, 48, 48, 48, 48] := by rw [dI, dd15]; decide +kernel
theorem trim15 {k : Nat} (h : Trim 1000000000000000 k) : k = 1 := by
  obtain ⟨h1, h2, h3⟩ := h
  rw [nd15] at h1
  have hl : (Lib.decDigits 1000000000000000).length = 16 := by rw [dd15]; rfl
  have g : ∀ i, 1 ≤ i → i < 16 → (Lib.decDigits 1000000000000000)[i]? = some 48 := by
    rw [dd15]
    have : ∀ i, i < 16 → 1 ≤ i → ([49, 48, 48, 48, 48, 48, 48, 48, 48, 48, 48, 48, 48, 48, 48, 48] : List UInt8)[i]? = some 48 := by decide +kernel
    exact fun i a b => this i b a
  have g0 : (Lib.decDigits 1000000000000000)[0]? = some 49 := by rw [dd15]; rfl
  rcases h3 with h3 | ⟨hk, h3⟩
  · subst h3
    have := h2 0 (by rw [hl]; decide) (Nat.le_refl _)
    rw [List.getElem?_eq_getElem (by rw [hl]; decide), this] at g0
    exact absurd g0 (by decide)
  · by_cases h : 1 < k
    · have := g (k - 1) (by omega) (by omega)
      rw [List.getElem?_eq_getElem hk] at this
      exact absurd (Option.some.inj this) h3
    · by_cases h0 : k = 0
      · subst h0
        have := h2 0 (by rw [hl]; decide) (Nat.le_refl _)
        rw [List.getElem?_eq_getElem (by rw [hl]; decide), this] at g0
        exact absurd g0 (by decide)
      · omega
theorem fmt_1e21 (w : World) (hGl : Glob w) : Calls Tryz.prog 19 #[.float .f64 4921056587992461136, .int .u8 101, .int .i64 (-1), .int .i64 64] w fun r w' => r = .returned (.string ⟨#[49, 101, 43, 50, 49]⟩) ∧ Below w.heap.size w w' := by
  refine Format_of 4921056587992461136 101 [49, 101, 43, 50, 49] w hGl (fun v W hbuf hG => ?_)
  refine ftoaE_w false 4921056587992461136 1092 3125794903879504 7629394531250000 15625000000000000000 1000000000000000 6 6 _ _ _ v _ hbuf hG (by decide +kernel) (by decide +kernel) (by decide +kernel) (by decide) (by decide) (by decide) (by decide +kernel) (by decide) (by decide) (by decide +kernel) (by decide) (by decide) (by decide +kernel) (by decide) (by decide) (by decide) (by decide) ?_
  intro g k W' ht hb
  obtain rfl := trim15 ht
  have h := fmtE_one false _ g 1000000000000000 21 22 49 _ W' v hb (by rw [dI15]; rfl) (Or.inl (by decide)) (by decide)
  rw [show (if false = true then [45, 49] else [49]) ++ eTail 22 = asI [49, 101, 43, 50, 49] from by decide +kernel] at h
  rw [nd15, show ((16 : Nat) : Int) + 6 = 22 from by decide, show max (((1 : Nat) : Int) - 1) 0 = 0 from by decide, show ((1 : Nat) : Int) = 1 from rfl]
  exact h.mono fun r w' ⟨v', h1, h2⟩ => ⟨v', _, h1, h2⟩
theorem fmt_tenth (w : World) (hGl : Glob w) : Calls Tryz.prog 19 #[.float .f64 4591870180066957722, .int .u8 102, .int .i64 (-1), .int .i64 64] w fun r w' => r = .returned (.string ⟨#[48, 46, 49]⟩) ∧ Below w.heap.size w w' := by
  refine Format_of 4591870180066957722 102 [48, 46, 49] w hGl (fun v W hbuf hG => ?_)
  refine ftoaF_w false 4591870180066957722 1019 2702159776422298 7205759403792794 14757395258967642112 1000000000000000 (-67) (-16) _ _ _ v _ hbuf hG (by decide +kernel) (by decide +kernel) (by decide +kernel) (by decide) (by decide) (by decide) (by decide +kernel) (by decide) (by decide) (by decide +kernel) (by decide) (by decide) (by decide +kernel) (by decide) (by decide) (by decide) (by decide) ?_
  intro g k W' ht hb
  obtain rfl := trim15 ht
  have h := fmtF_below false _ g 1000000000000000 1 0 1 0 _ W' v hb (by decide) (by rw [dI15]; decide) (by decide) (by decide) (by decide) (by decide)
  rw [show (if false = true then [45] else []) ++ [48, 46] ++ List.replicate 0 48 ++ (dI 1000000000000000).take 1 = asI [48, 46, 49] from by rw [dI15]; decide +kernel] at h
  rw [nd15, show ((16 : Nat) : Int) + -16 = 0 from by decide, show max (((1 : Nat) : Int) - 0) 0 = ((1 : Nat) : Int) from by decide]
  exact h.mono fun r w' ⟨v', h1, h2⟩ => ⟨v', _, h1, h2⟩
theorem fmt_one (w : World) (hGl : Glob w) : Calls Tryz.prog 19 #[.float .f64 4607182418800017408, .int .u8 102, .int .i64 (-1), .int .i64 64] w fun r w' => r = .returned (.string ⟨#[49]⟩) ∧ Below w.heap.size w w' := by
  refine Format_of 4607182418800017408 102 [49] w hGl (fun v W hbuf hG => ?_)
  refine ftoaF_w false 4607182418800017408 1023 0 4503599627370496 9223372036854775808 1000000000000000 (-63) (-15) _ _ _ v _ hbuf hG (by decide +kernel) (by decide +kernel) (by decide +kernel) (by decide) (by decide) (by decide) (by decide +kernel) (by decide) (by decide) (by decide +kernel) (by decide) (by decide) (by decide +kernel) (by decide) (by decide) (by decide) (by decide) ?_
  intro g k W' ht hb
  obtain rfl := trim15 ht
  have h := fmtF_whole false _ g 1000000000000000 1 1 _ W' v hb (by decide) (by rw [dI15]; decide) (by decide) (by decide) (by decide)
  rw [show (if false = true then [45] else []) ++ (dI 1000000000000000).take 1 ++ List.replicate (1 - 1) 48 = asI [49] from by rw [dI15]; decide +kernel] at h
  rw [nd15, show ((16 : Nat) : Int) + -15 = ((1 : Nat) : Int) from by decide, show max (((1 : Nat) : Int) - ((1 : Nat) : Int)) 0 = 0 from by decide]
  exact h.mono fun r w' ⟨v', h1, h2⟩ => ⟨v', _, h1, h2⟩
end Go.Proofs.YtmejmohambhaaaaGreatDoor
