/- PARTS: like, where it holds. Own work of the verifier. -/
import Derived.Test.YtbgdmlekhobjdaaGreatV2
namespace Go.Proofs.YtbgdmlekhobjdaaGreat
open Go.RowKit

theorem hid_keptB {k : Nat} {W W' : World} {o : Obj} (h : Hid (W.heap[k]? = some o)) (hb : Below W.heap.size W W') : Hid (W'.heap[k]? = some o) := hid_below h hb (Array.getElem?_eq_some_iff.1 h).1
set_option maxRecDepth 10000 in
set_option maxHeartbeats 4000000 in
theorem like_true (hi lo : Int) (a1 a2 : Option Addr) (m1 c1 m2 c2 n s c u d mn mx mn' mx' : Nat) (L : List Cn) (w : World) (hA : SN w (.slice a1 m1 c1) L) (hC : SN w (.slice a2 m2 c2) L) (hl : L.length ≤ 9223372036854775807)
    (hs : s < 18446744073709551616) (hc : c < 18446744073709551616) (hu : u < 18446744073709551616) (hd : d < 18446744073709551616) (h1 : mn < 18446744073709551616) (h2 : mx < 18446744073709551616) (h3 : mn' < 18446744073709551616) (h4 : mx' < 18446744073709551616)
    (e1 : Soft.one s = Soft.one u) (e2 : Soft.one c = Soft.one d) (e3 : Soft.one mn = Soft.one mn') (e4 : Soft.one mx = Soft.one mx') :
    Calls Tryz.prog 10 #[rpart hi lo (.slice a1 m1 c1) n s c mn mx, rpart hi lo (.slice a2 m2 c2) n u d mn' mx'] w fun e w' => e = .returned (.bool true) ∧ Below w.heap.size w w' := by
  obtain ⟨w2, hw2⟩ : ∃ w2, (w.alloc (.cells #[.int .i64 hi, .int .u64 lo, .slice a1 m1 c1, .int .u64 (n : Int), .int .u64 (s : Int), .int .u64 (c : Int), .int .u64 (mn : Int), .int .u64 (mx : Int)] 37)).alloc (.cells #[.int .i64 hi, .int .u64 lo, .slice a2 m2 c2, .int .u64 (n : Int), .int .u64 (u : Int), .int .u64 (d : Int), .int .u64 (mn' : Int), .int .u64 (mx' : Int)] 37) = w2 := ⟨_, rfl⟩
  have hb2 : Below w.heap.size w w2 := by rw [← hw2]; exact bel2 _ _ _
  have HX : Hid (w2.heap[w.heap.size]? = some (.cells #[.int .i64 hi, .int .u64 lo, .slice a1 m1 c1, .int .u64 (n : Int), .int .u64 (s : Int), .int .u64 (c : Int), .int .u64 (mn : Int), .int .u64 (mx : Int)] 37 (0, 0))) := by rw [← hw2]; exact Pr.new1 _ _ _
  have HY : Hid (w2.heap[w.heap.size + 1]? = some (.cells #[.int .i64 hi, .int .u64 lo, .slice a2 m2 c2, .int .u64 (n : Int), .int .u64 (u : Int), .int .u64 (d : Int), .int .u64 (mn' : Int), .int .u64 (mx' : Int)] 37 (0, 0))) := by rw [← hw2]; exact Pr.new2 _ _ _
  have HSC : Hid (∀ _ : Unit, Calls Tryz.prog 33 #[.slice a1 m1 c1, .slice a2 m2 c2] w2 fun e w' => e = .returned (.bool true) ∧ Below w2.heap.size w2 w') := fun _ => by
    have := scounts_sn (hA.below hb2) (hC.below hb2) hl hl
    rw [decide_eq_true (rfl : L = L)] at this
    exact this
  have HE1 : Hid (∀ W, Calls Tryz.prog 34 #[.int .u64 (s : Int), .int .u64 (u : Int)] W fun e w' => e = .returned (.bool true) ∧ w' = W) := fun W => by
    have := Pr.zsame s u hs hu W
    rw [decide_eq_true e1] at this
    exact this
  have HE2 : Hid (∀ W, Calls Tryz.prog 34 #[.int .u64 (c : Int), .int .u64 (d : Int)] W fun e w' => e = .returned (.bool true) ∧ w' = W) := fun W => by
    have := Pr.zsame c d hc hd W
    rw [decide_eq_true e2] at this
    exact this
  have HE3 : Hid (∀ W, Calls Tryz.prog 34 #[.int .u64 (mn : Int), .int .u64 (mn' : Int)] W fun e w' => e = .returned (.bool true) ∧ w' = W) := fun W => by
    have := Pr.zsame mn mn' h1 h3 W
    rw [decide_eq_true e3] at this
    exact this
  have HE4 : Hid (∀ W, Calls Tryz.prog 34 #[.int .u64 (mx : Int), .int .u64 (mx' : Int)] W fun e w' => e = .returned (.bool true) ∧ w' = W) := fun W => by
    have := Pr.zsame mx mx' h2 h4 W
    rw [decide_eq_true e4] at this
    exact this
  have HB2 : Hid (Below w.heap.size w w2) := hb2
  obtain ⟨x0, x1, x2, x3, x4, x5, x6, x7⟩ := eight_cells HX
  obtain ⟨y0, y1, y2, y3, y4, y5, y6, y7⟩ := eight_cells HY
  clear hA hC hb2 e1 e2 e3 e4
  go_enter Tryz.func10, Tryz.ntmps10
  go_wp2_with (first
    | (go_at_call 33; with_reducible refine Calls.mono (HSC.out ()) ?_; rintro e w3 ⟨rfl, hb3⟩; have HX3 := hid_keptB HX hb3; have HY3 := hid_keptB HY hb3; obtain ⟨x0, x1, x2, x3, x4, x5, x6, x7⟩ := eight_cells HX3; obtain ⟨y0, y1, y2, y3, y4, y5, y6, y7⟩ := eight_cells HY3)
    | (go_at_call 34; (first | (with_reducible refine Calls.mono (HE1.out _) ?_) | (with_reducible refine Calls.mono (HE2.out _) ?_) | (with_reducible refine Calls.mono (HE3.out _) ?_) | (with_reducible refine Calls.mono (HE4.out _) ?_)); rintro e w3 ⟨rfl, rfl⟩))
  go_ret
  exact ⟨rfl, bt HB2.out hb3⟩
end Go.Proofs.YtbgdmlekhobjdaaGreat
