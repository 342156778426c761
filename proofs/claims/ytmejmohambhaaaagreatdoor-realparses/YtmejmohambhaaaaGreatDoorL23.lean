/- ftoa64 AT INFINITIES AND NaN. Own work of the verifier. -/
import Derived.Test.YtmejmohambhaaaaGreatDoorL11
import Derived.Lib.AppendStr
namespace Go.Proofs.YtmejmohambhaaaaGreatDoor
open Go.RowKit Go.Sort

set_option maxHeartbeats 1000000 in
set_option maxRecDepth 100000 in
theorem ftoaF_special (neg nan : Bool) (x f : Nat) (B : Nat) (W0 w : World) (v : Value) (hbuf : Buf B none W0 v [] w)
    (hneg : ((x : Int) / 9223372036854775808 != 0) = neg) (hE : bits .and .i64 ((x : Int) / 4503599627370496) 2047 = 2047) (hf : bits .and .u64 (x : Int) 4503599627370495 = (f : Int)) (hn : ((f : Int) != 0) = nan) (hx : x < 18446744073709551616) :
    Calls Tryz.prog 43 #[v, .float .f64 x, .int .u8 102, .int .i64 (-1)] w fun r w' => ∃ v' o, r = .returned v' ∧ Buf B o W0 v' (if nan then [78, 97, 78] else if neg then [45, 73, 110, 102] else [43, 73, 110, 102]) w' := by
  obtain ⟨i0, hi, hz0, hz1, hz2⟩ := info_parts infoByte
  obtain ⟨T, HT⟩ : ∃ T : List Int, Hid ((if nan then [78, 97, 78] else if neg then [45, 73, 110, 102] else [43, 73, 110, 102]) = T) := ⟨_, rfl⟩
  rw [HT.out]
  cases nan
  · cases neg
    all_goals
      go_enter Tryz.func43, Tryz.ntmps43
      go_wp2_with (first
        | simp only [f64bits]
        | fail)
      go_quiet (fail)
      have hbuf := hbuf.step (Below.drewN' (Below.refl _ _) nq)
      go_wp2_with (first
        | (at_builtin; refine Lib.wpList_append_own_string _ rfl _ _ 58 9 rfl B 5 i0 Tryz.underlying58 Tryz.underlying9 hi hz0 hz1 hz2 _ _ _ rfl hbuf.own _ rfl (by decide) (by decide) hbuf.size ?_; intro v w hown hgrow hnil)
        | fail)
      go_ret
      refine ⟨_, none, rfl, ?_⟩
      rw [← HT.out]
      exact hbuf.grow (World.grownBy.refl _ _) 4 rfl hown hgrow hnil (by decide)
  · go_enter Tryz.func43, Tryz.ntmps43
    go_wp2_with (first
      | simp only [f64bits]
      | fail)
    go_quiet (fail)
    have hbuf := hbuf.step (Below.drewN' (Below.refl _ _) nq)
    go_wp2_with (first
      | (at_builtin; refine Lib.wpList_append_own_string _ rfl _ _ 58 9 rfl B 5 i0 Tryz.underlying58 Tryz.underlying9 hi hz0 hz1 hz2 _ _ _ rfl hbuf.own _ rfl (by decide) (by decide) hbuf.size ?_; intro v w hown hgrow hnil)
      | fail)
    go_ret
    refine ⟨_, none, rfl, ?_⟩
    rw [← HT.out]
    exact hbuf.grow (World.grownBy.refl _ _) 3 rfl hown hgrow hnil (by decide)
end Go.Proofs.YtmejmohambhaaaaGreatDoor
