/- WideParts: THE WALK. Own work of the verifier. -/
import Derived.Test.YtbobhjgndgaoaaaDoorT12
import Derived.Test.YtbobhjgndgaoaaaDoorP2
namespace Go.Proofs.YtbobhjgndgaoaaaDoor
open Go.RowKit Go.Sort

/-- What the two divisions are asked at: one answer of both. -/
theorem parts_of (a b c q r e : Int) (a0 : 0 ≤ a) (a1 : a < 18446744073709551616) (b0 : 0 ≤ b) (b1 : b < 18446744073709551616)
    (hd : ∀ W, Calls Tryd.prog 33 #[.int .u64 a, .int .u64 b, .int .u64 c] W fun x w' => x = .returned (.tuple #[.int .u64 q, .int .u64 r, .int .i64 e]) ∧ Below W.heap.size W w')
    (hr : ∀ W, Calls Tryd.prog 34 #[.int .u64 a, .int .u64 b, .int .u64 c] W fun x w' => x = .returned (.tuple #[.int .u64 q, .int .u64 r, .int .i64 e]) ∧ Below W.heap.size W w')
    (w : World) (htab : Tab w) :
    Calls Tryd.prog 7 #[.int .u64 a, .int .u64 b, .int .u64 c] w fun x w' => x = .returned (.bool true) ∧ Below w.heap.size w w' := by
  have HD : Hid _ := hd
  have HR : Hid _ := hr
  have HM : Hid _ := mul_any a b a0 a1 b0 b1
  have HN : Hid _ := refmul_any a b a0 a1 b0 b1
  clear hd hr
  generalize hiOf (a * b) = mh at *
  generalize loOf (a * b) = ml at *
  go_enter Tryd.func7, Tryd.ntmps7
  go_wp2_with fail
  refine (HM.out _).mono ?_
  rintro e w1 ⟨rfl, rfl⟩
  go_wp2_with fail
  refine (HN.out _).mono ?_
  rintro e w2 ⟨rfl, rfl⟩
  go_wp2_with fail
  refine (HD.out _).mono ?_
  rintro e w3 ⟨rfl, hb3⟩
  go_wp2_with fail
  refine (HR.out _).mono ?_
  rintro e w4 ⟨rfl, hb4⟩
  go_wp2_with fail
  refine (fixed_any _ ((htab.below hb3).below hb4)).mono ?_
  rintro e w5 ⟨rfl, hb5⟩
  go_wp2
  go_ret
  exact ⟨rfl, (hb3.trans (hb4.mono hb3.size)).trans (hb5.mono (Nat.le_trans hb3.size hb4.size))⟩
theorem parts_walk (a : Int) (a0 : 0 ≤ a) (a1 : a < 18446744073709551616) (b : Int) (b0 : 0 ≤ b) (b1 : b < 18446744073709551616) (c : Int) (c0 : 0 ≤ c) (c1 : c < 18446744073709551616) (w : World) (htab : Tab w) :
    Calls Tryd.prog 7 #[.int .u64 a, .int .u64 b, .int .u64 c] w fun x w' => x = .returned (.bool true) ∧ Below w.heap.size w w' := by
  by_cases z : c = 0
  · subst z
    exact parts_of a b 0 0 0 1 a0 a1 b0 b1 (div_zero a b) (refdiv_zero a b) w htab
  · by_cases g : c ≤ a
    · exact parts_of a b c 0 0 2 a0 a1 b0 b1 (div_range a b c (by omega) g) (refdiv_range a b c (by omega) g) w htab
    · exact parts_of a b c _ _ 0 a0 a1 b0 b1 (div_any a b c a0 b0 b1 (by omega) c1) (refdiv_any a b c a0 b0 b1 (by omega) c1) w htab
end Go.Proofs.YtbobhjgndgaoaaaDoor
