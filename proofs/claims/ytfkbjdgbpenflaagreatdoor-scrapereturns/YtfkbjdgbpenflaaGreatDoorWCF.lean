/- ScrapeReturns: THE CARD. Own work of the verifier. -/
import Derived.Test.YtfkbjdgbpenflaaGreatDoorWCE
import Derived.Test.YtfkbjdgbpenflaaGreatDoorCards
import Derived.Test.YtfkbjdgbpenflaaGreatDoorTie
import Derived.SevenTiedAt
import Derived.Stop.Joined
set_option maxRecDepth 100000
set_option maxHeartbeats 0
namespace Go.Proofs.YtfkbjdgbpenflaaGreatDoor
open Go.ChangeShapes Go.WideShapes Go.ChangeAt Go.RowKit
theorem xp_band {a b:Bool} (ha:a=true) (hb:b=true):(a && b)=true:=by rw [ha,hb];rfl
theorem xp_closed:joinedFacts Tryz.prog 3 Tryz.f3 Rows.scrapeReturnsSpec Rows.scrapeReturnsRow=true:=by
 unfold joinedFacts
 repeat' (with_reducible refine xp_band ?_ ?_)
 all_goals (as_aux_lemma=>kernel_rfl)
theorem xp_named:Tryz.prog.funcNamed Rows.scrapeReturnsRow.func=some 3:=by kernel_rfl
theorem xp_inst:Tryz.f3.isInstance Tryz.prog Rows.scrapeReturnsRow.origin Rows.scrapeReturnsRow.targs:=of_decide_eq_true (by kernel_rfl)
theorem xp_wrap:Tryz.f3.isWrapper Tryz.prog Rows.scrapeReturnsRow.wrapper Rows.scrapeReturnsRow.mainSum:=by unfold Func.isWrapper;first | (rw [if_pos (by decide +kernel)];kernel_rfl) | (rw [if_neg (by decide +kernel)];exact ⟨rfl,rfl⟩)
theorem scrapeReturns_holds:Rows.ScrapeReturnsSaid :=
 OpenClaim.holds_of_wide 3 Tryz.f3 rfl rfl rfl rfl rfl rfl rfl ⟨rfl,rfl,rfl,rfl,rfl⟩ rfl rfl rfl rfl rfl xp_named Tryz.func3 xp_closed xp_inst xp_wrap
  (fun os started H enc _=>scrapeReturns_lifted os started H enc)
theorem scrapeReturns_card:Rows.ScrapeReturnsCardSaid :=
 Claim7.holds_tied_plain_at .later [] [.data,.data,.widerDeep,.widerDeep,.data,.data,.data,.data,.data,.sentinel,.sentinel,.pinned,.pinned] true Rows.scrapeReturnsCard.stood.harness true
  scrapeReturns_holds (fun _ h=>by cases h) (by kernel_rfl) (fun _ h=>by cases h) scrapeReturns_row_tie rfl ⟨rfl,rfl⟩ (by kernel_rfl) rfl
  (fun f fn hf hfn=>by
   obtain rfl:f=3:=Option.some.inj (xp_named.symm.trans hf) |>.symm
   obtain rfl:fn=Tryz.f3:=(Option.some.inj (Tryz.func3.symm.trans hfn)).symm
   exact ⟨by kernel_rfl,fun j t ht=>by
    rw [Tryz.params3] at ht
    have hm:t ∈ [25]:=by simpa using Array.mem_of_getElem? ht
    have hall:([25].all fun u=>!Tryz.prog.wantsStandIn u)=true:=by kernel_rfl
    exact (show Tryz.prog.wantsStandIn t=false by simpa using List.all_eq_true.1 hall t hm)⟩)
  (by kernel_rfl)
end Go.Proofs.YtfkbjdgbpenflaaGreatDoor
