/- RealShort: AT EVERY WORD. Own work of the verifier. -/
import Derived.Test.YtiaidedhgceikaaGreatDoorVC
import Derived.Test.YtiaidedhgceikaaGreatDoorS2
namespace Go.Proofs.YtiaidedhgceikaaGreatDoor
open Go.RowKit

theorem cut_nan (x y t : Nat) : (Question.nanBits .f64 x y).cut t < 18446744073709551616 ∧ isN ((Question.nanBits .f64 x y).cut t) = true := by
  show (t % 2) * 2 ^ 63 + 0x7ff0000000000000 + 1 + (t / 2) % (2 ^ 52 - 1) < _ ∧ isN ((t % 2) * 2 ^ 63 + 0x7ff0000000000000 + 1 + (t / 2) % (2 ^ 52 - 1)) = true
  rw [show (2 : Nat) ^ 63 = 9223372036854775808 from by decide, show (2 : Nat) ^ 52 - 1 = 4503599627370495 from by decide]
  unfold isN
  have h1 : t % 2 = 0 ∨ t % 2 = 1 := by omega
  have h2 : (t / 2) % 4503599627370495 < 4503599627370495 := by omega
  generalize (t / 2) % 4503599627370495 = q at *
  rcases h1 with h1 | h1 <;> rw [h1]
  · exact ⟨by omega, decide_eq_true (by omega)⟩
  · exact ⟨by omega, decide_eq_true (by omega)⟩
theorem short_all (a : Nat) (ha : a < 18446744073709551616) (w : World) (hG : Glob2 w) (hP : P10 w) :
    Calls Tryz.prog 3 #[.int .u64 (a : Int)] w fun e w' => e = .returned (.bool true) ∧ Below w.heap.size w w' := by
  have o := ord_self ha
  cases hn : isN a
  · rw [hn] at o
    have hn' := of_decide_eq_false hn
    by_cases hi : a % 9223372036854775808 = 9218868437227405312
    · refine short_inf a o (sub_inf a ha hi) (fun W => ?_) w hG hP
      have hc := cut_nan a a (W.tape W.drawn (.nanBits .f64 a a))
      unfold nanOf
      rw [(ord_nan hc.1 hc.2 0).1]
      decide
    · have hf : a % 9223372036854775808 < 9218868437227405312 := by omega
      obtain ⟨w1, w2⟩ := win_x a hf
      refine short_fin a ((a + 1) % 18446744073709551616) ((a + 18446744073709551615) % 18446744073709551616) ?_ ?_ o (sub_self a ha hf) (pText a) _ _ (up_unlike a ha hf) (down_unlike a ha hf) w2 (print_all a ha) (print_all _ (by omega)) (print_all _ (by omega)) (digits_any _ w2 w1) w hG hP
      · rw [IntKind.wrap_u64]; omega
      · rw [IntKind.wrap_u64]; omega
  · rw [hn] at o
    exact short_nan a o w hG hP
end Go.Proofs.YtiaidedhgceikaaGreatDoor
