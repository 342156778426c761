/- ExpoKeeps: THE CARD. Own work of the verifier. -/
import Derived.Test.YtlgfgeacphkhnaaGreatDoorWBW
import Derived.Test.YtlgfgeacphkhnaaGreatDoorCards
import Derived.Test.YtlgfgeacphkhnaaGreatDoorTie
import Derived.SevenTiedAt
import Derived.Stop.Joined
namespace Go.Proofs.YtlgfgeacphkhnaaGreatDoor
open Go.ChangeShapes Go.WideShapes Go.ChangeAt Go.RowKit

theorem xx_band {a b : Bool} (ha : a = true) (hb : b = true) : (a && b) = true := by rw [ha, hb]; rfl
set_option maxHeartbeats 0 in
set_option maxRecDepth 100000 in
theorem xx_closed : joinedFacts Tryz.prog 3 Tryz.f3 Rows.expoKeepsSpec Rows.expoKeepsRow = true := by
 unfold joinedFacts
 repeat' (with_reducible refine xx_band ?_ ?_)
 all_goals (as_aux_lemma => kernel_rfl)
theorem xx_named : Tryz.prog.funcNamed Rows.expoKeepsRow.func = some 3 := by kernel_rfl
theorem xx_inst : Tryz.f3.isInstance Tryz.prog Rows.expoKeepsRow.origin Rows.expoKeepsRow.targs := of_decide_eq_true (by kernel_rfl)
theorem xx_wrap : Tryz.f3.isWrapper Tryz.prog Rows.expoKeepsRow.wrapper Rows.expoKeepsRow.mainSum := by unfold Func.isWrapper; first | (rw [if_pos (by decide +kernel)]; kernel_rfl) | (rw [if_neg (by decide +kernel)]; exact ⟨rfl, rfl⟩)
theorem expoKeeps_holds : Rows.ExpoKeepsSaid :=
 OpenClaim.holds_of_wide 3 Tryz.f3 rfl rfl rfl rfl rfl rfl rfl ⟨rfl, rfl, rfl, rfl, rfl⟩ rfl rfl rfl rfl rfl xx_named Tryz.func3 xx_closed xx_inst xx_wrap
  (fun os started H enc _ => expoKeeps_lifted os started H enc)
theorem expoKeeps_card : Rows.ExpoKeepsCardSaid :=
 Claim7.holds_tied_plain_at .later [] [.data, .data, .data, .data, .sentinel, .sentinel, .pinned, .pinned] true Rows.expoKeepsCard.stood.harness true
  expoKeeps_holds (fun _ h => by cases h) (by kernel_rfl) (fun _ h => by cases h) expoKeeps_row_tie rfl ⟨rfl, rfl⟩ (by kernel_rfl) rfl
  (fun f fn hf hfn => by
   obtain rfl : f = 3 := Option.some.inj (xx_named.symm.trans hf) |>.symm
   obtain rfl : fn = Tryz.f3 := (Option.some.inj (Tryz.func3.symm.trans hfn)).symm
   exact ⟨by kernel_rfl, fun j t ht => by
    rw [Tryz.params3] at ht
    have hm : t ∈ [25] := by simpa using Array.mem_of_getElem? ht
    have hall : ([25].all fun u => !Tryz.prog.wantsStandIn u) = true := by kernel_rfl
    exact (show Tryz.prog.wantsStandIn t = false by simpa using List.all_eq_true.1 hall t hm)⟩)
  (by kernel_rfl)
end Go.Proofs.YtlgfgeacphkhnaaGreatDoor
