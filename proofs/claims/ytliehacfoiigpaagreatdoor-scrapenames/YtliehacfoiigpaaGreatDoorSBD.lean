/- ScrapeNames: THE CARD. Own work of the verifier. -/
import Derived.Test.YtliehacfoiigpaaGreatDoorSBC
import Derived.Test.YtliehacfoiigpaaGreatDoorCards
import Derived.Test.YtliehacfoiigpaaGreatDoorTie
import Derived.SevenTiedAt
import Derived.Stop.Joined
namespace Go.Proofs.YtliehacfoiigpaaGreatDoor
open Go.ChangeShapes Go.WideShapes Go.ChangeAt Go.RowKit

theorem xm_band {a b : Bool} (ha : a = true) (hb : b = true) : (a && b) = true := by rw [ha, hb]; rfl
set_option maxHeartbeats 0 in
set_option maxRecDepth 100000 in
theorem xm_closed : joinedFacts Tryz.prog 3 Tryz.f3 Rows.scrapeNamesSpec Rows.scrapeNamesRow = true := by
  unfold joinedFacts
  repeat' (with_reducible refine xm_band ?_ ?_)
  all_goals (as_aux_lemma => kernel_rfl)
theorem xm_named : Tryz.prog.funcNamed Rows.scrapeNamesRow.func = some 3 := by kernel_rfl
theorem xm_inst : Tryz.f3.isInstance Tryz.prog Rows.scrapeNamesRow.origin Rows.scrapeNamesRow.targs := of_decide_eq_true (by kernel_rfl)
theorem xm_wrap : Tryz.f3.isWrapper Tryz.prog Rows.scrapeNamesRow.wrapper Rows.scrapeNamesRow.mainSum := by unfold Func.isWrapper; first | (rw [if_pos (by decide +kernel)]; kernel_rfl) | (rw [if_neg (by decide +kernel)]; exact ⟨rfl, rfl⟩)
theorem scrapeNames_holds : Rows.ScrapeNamesSaid :=
  OpenClaim.holds_of_wide 3 Tryz.f3 rfl rfl rfl rfl rfl rfl rfl ⟨rfl, rfl, rfl, rfl, rfl⟩ rfl rfl rfl rfl rfl xm_named Tryz.func3 xm_closed xm_inst xm_wrap
    (fun os started H enc _ => scrapeNames_lifted os started H enc)
theorem scrapeNames_card : Rows.ScrapeNamesCardSaid :=
  Claim7.holds_tied_plain_at .later [] [.data, .data, .widerDeep, .widerDeep, .data, .data, .data, .data, .data, .sentinel, .sentinel, .pinned, .pinned] true Rows.scrapeNamesCard.stood.harness true
    scrapeNames_holds (fun _ h => by cases h) (by kernel_rfl) (fun _ h => by cases h) scrapeNames_row_tie rfl ⟨rfl, rfl⟩ (by kernel_rfl) rfl
    (fun f fn hf hfn => by
      obtain rfl : f = 3 := Option.some.inj (xm_named.symm.trans hf) |>.symm
      obtain rfl : fn = Tryz.f3 := (Option.some.inj (Tryz.func3.symm.trans hfn)).symm
      exact ⟨by kernel_rfl, fun j t ht => by
        rw [Tryz.params3] at ht
        simp at ht⟩)
    (by kernel_rfl)
end Go.Proofs.YtliehacfoiigpaaGreatDoor
