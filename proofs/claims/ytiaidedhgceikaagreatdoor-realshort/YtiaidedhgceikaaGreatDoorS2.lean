/- RealShort: THE WALK. Own work of the verifier. -/
import Derived.Test.YtiaidedhgceikaaGreatDoorL28
import Derived.Test.YtiaidedhgceikaaGreatDoorL19
import Derived.Test.YtiaidedhgceikaaGreatDoorSoftA
namespace Go.Proofs.YtiaidedhgceikaaGreatDoor
open Go.RowKit

def KG (w : World) (W : World) : Prop := Glob2 W ∧ Below w.heap.size w W
theorem keepG {w W W1 : World} (hb : Below W.heap.size W W1) (h : KG w W) : KG w W1 := ⟨h.1.below hb, h.2.trans (hb.mono h.2.size)⟩
theorem kg1 {w W : World} (h : KG w W) : Glob2 W := h.1
theorem kg0 {w : World} (h : Glob2 w) : KG w w := ⟨h, Below.refl _ _⟩
set_option maxRecDepth 10000 in
set_option maxHeartbeats 4000000 in
theorem short_fin (a u d : Nat) (hu : IntKind.u64.wrap ((a : Int) + 1) = (u : Int)) (hd : IntKind.u64.wrap ((a : Int) - 1) = (d : Int)) (o1 : (FloatKind.f64.format.order a a != some .eq) = false) (hsub : Ieee.double.sub a a = some 0) (S U D : List UInt8)
    (h1 : S ≠ U) (h2 : S ≠ D) (h3 : S.length ≤ 25) (Ha : ∀ W, Glob2 W → Calls Tryz.prog 6 #[.float .f64 a] W fun r w' => r = .returned (.string ⟨S.toArray⟩) ∧ Below W.heap.size W w') (Hu : ∀ W, Glob2 W → Calls Tryz.prog 6 #[.float .f64 u] W fun r w' => r = .returned (.string ⟨U.toArray⟩) ∧ Below W.heap.size W w')
    (Hd : ∀ W, Glob2 W → Calls Tryz.prog 6 #[.float .f64 d] W fun r w' => r = .returned (.string ⟨D.toArray⟩) ∧ Below W.heap.size W w') (Hg : ∀ w, Calls Tryz.prog 7 #[.string ⟨S.toArray⟩] w fun e w' => (∃ d : Int, e = .returned (.int .i64 d) ∧ d ≤ 17) ∧ w' = w) (w : World) (hG : Glob2 w) (hP : P10 w) :
    Calls Tryz.prog 3 #[.int .u64 (a : Int)] w fun e w' => e = .returned (.bool true) ∧ Below w.heap.size w w' := by
  have HA : Hid (∀ W, W = w → _) := fun W e => awake_any W (e ▸ hG.glob) (e ▸ hP)
  have H1 : Hid _ := Ha
  have H2 : Hid _ := Hu
  have H3 : Hid _ := Hd
  have H4 : Hid _ := Hg
  have HG : Hid (Glob2 w) := hG
  have HS := fun (t : TypeId) (W : World) => run_float_arith (P := Tryz.prog) W .sub t .f64 a a 0 hsub
  have o2 : (FloatKind.f64.format.order 0 0 != some .eq) = false := by decide +kernel
  have K1 : Hid _ := h1
  have K2 : Hid _ := h2
  clear Ha Hu Hd Hg hG hP hsub h1 h2
  go_enter Tryz.func3, Tryz.ntmps3
  go_wp2_with (first
    | simp only [mf64from]
    | simp only [HS]
    | (go_at_call 4; with_reducible refine (HA.out _ rfl).mono ?_; rintro e w1 ⟨rfl, hb1⟩; have hG1 : KG w w1 := keepG hb1 (kg0 HG.out))
    | (go_at_call 6; with_reducible refine (H1.out _ (kg1 hG1)).mono ?_; rintro e w2 ⟨rfl, hb2⟩; have hG2 := keepG hb2 hG1)
    | (go_at_call 6; with_reducible refine (H2.out _ (kg1 hG2)).mono ?_; rintro e w3 ⟨rfl, hb3⟩; have hG3 := keepG hb3 hG2)
    | (go_at_call 6; with_reducible refine (H3.out _ (kg1 hG3)).mono ?_; rintro e w4 ⟨rfl, hb4⟩; have hG4 := keepG hb4 hG3)
    | (go_at_call 7; with_reducible refine (H4.out _).mono ?_; rintro e w5 ⟨⟨k, rfl, hk⟩, rfl⟩))
  go_ret
  refine ⟨?_, hG4.2⟩
  have e1 : (!S == U) = true := by simpa using K1.out
  have e2 : (!S == D) = true := by simpa using K2.out
  rw [e1, e2]
  have e3 : decide ((S.length : Int) ≤ 25) = true := decide_eq_true (by omega)
  rw [e3]
  rfl
set_option maxRecDepth 10000 in
set_option maxHeartbeats 1000000 in
theorem short_nan (a : Nat) (o1 : (FloatKind.f64.format.order a a != some .eq) = true) (w : World) (hG : Glob2 w) (hP : P10 w) :
    Calls Tryz.prog 3 #[.int .u64 (a : Int)] w fun e w' => e = .returned (.bool true) ∧ Below w.heap.size w w' := by
  have HA : Hid (∀ W, W = w → _) := fun W e => awake_any W (e ▸ hG.glob) (e ▸ hP)
  clear hG hP
  go_enter Tryz.func3, Tryz.ntmps3
  go_wp2_with (first
    | simp only [mf64from]
    | (go_at_call 4; with_reducible refine (HA.out _ rfl).mono ?_; rintro e w1 ⟨rfl, hb1⟩))
  go_ret
  exact ⟨rfl, hb1⟩
/-- The NaN that x - x gives. -/
def nanOf (a : Nat) (W : World) : Nat := (Question.nanBits .f64 a a).cut (W.tape W.drawn (.nanBits .f64 a a))
theorem nan_run (a : Nat) (h : Ieee.double.sub a a = none) (t : TypeId) (W : World) : (binOp .sub t (.float .f64 a) (.float .f64 a)).run Tryz.prog W = .ok (.float .f64 (nanOf a W)) W.drew := by
  simp [binOp, Op.floatArith, show FloatKind.f64.format = Ieee.double from rfl, h, go_sem, Question.forced]
  rfl
set_option maxRecDepth 10000 in
set_option maxHeartbeats 1000000 in
theorem short_inf (a : Nat) (o1 : (FloatKind.f64.format.order a a != some .eq) = false) (hsub : Ieee.double.sub a a = none) (o2 : ∀ W, (FloatKind.f64.format.order (nanOf a W) 0 != some .eq) = true) (w : World) (hG : Glob2 w) (hP : P10 w) :
    Calls Tryz.prog 3 #[.int .u64 (a : Int)] w fun e w' => e = .returned (.bool true) ∧ Below w.heap.size w w' := by
  have HA : Hid (∀ W, W = w → _) := fun W e => awake_any W (e ▸ hG.glob) (e ▸ hP)
  have HS := fun (t : TypeId) (W : World) => nan_run a hsub t W
  clear hG hP hsub
  go_enter Tryz.func3, Tryz.ntmps3
  go_wp2_with (first
    | simp only [mf64from]
    | simp only [HS]
    | (go_at_call 4; with_reducible refine (HA.out _ rfl).mono ?_; rintro e w1 ⟨rfl, hb1⟩))
  go_ret
  exact ⟨rfl, hb1.drew⟩
end Go.Proofs.YtiaidedhgceikaaGreatDoor
