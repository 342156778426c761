/- RecorderDoes: THE CARD. Own work of the verifier. -/
import Derived.Test.YtaeapikhhbjlnaaGreatDoorLE
import Derived.Test.YtaeapikhhbjlnaaGreatDoorCards
import Derived.Test.YtaeapikhhbjlnaaGreatDoorTie
import Derived.SevenTiedAt
namespace Go.Proofs.YtaeapikhhbjlnaaGreatDoor
open Go.ChangeShapes Go.WideShapes Go.ChangeAt Go.RowKit Go.Joins

theorem lf_band {a b : Bool} (ha : a = true) (hb : b = true) : (a && b) = true := by rw [ha, hb]; rfl
set_option maxHeartbeats 0 in
set_option maxRecDepth 100000 in
theorem lf_closed : joinedFacts Tryz.prog 3 Tryz.f3 Rows.recorderDoesSpec Rows.recorderDoesRow = true := by
  unfold joinedFacts
  repeat' (with_reducible refine lf_band ?_ ?_)
  all_goals (as_aux_lemma => kernel_rfl)
theorem lf_named : Tryz.prog.funcNamed Rows.recorderDoesRow.func = some 3 := by kernel_rfl
theorem lf_inst : Tryz.f3.isInstance Tryz.prog Rows.recorderDoesRow.origin Rows.recorderDoesRow.targs := of_decide_eq_true (by kernel_rfl)
theorem lf_wrap : Tryz.f3.isWrapper Tryz.prog Rows.recorderDoesRow.wrapper Rows.recorderDoesRow.mainSum := by unfold Func.isWrapper; first | (rw [if_pos (by decide +kernel)]; kernel_rfl) | (rw [if_neg (by decide +kernel)]; exact ⟨rfl, rfl⟩)
theorem recorderDoes_holds : Rows.RecorderDoesSaid :=
  OpenClaim.holds_of_wide 3 Tryz.f3 rfl rfl rfl rfl rfl rfl rfl ⟨rfl, rfl, rfl, rfl, rfl⟩ rfl rfl rfl rfl rfl lf_named Tryz.func3 lf_closed lf_inst lf_wrap
    (fun os started H enc _ => recorderDoes_lifted os started H enc)
/-- A tied card of a row whose program may start goroutines elsewhere. -/
theorem ld_card_goes {s : OpenSpec} {c : OpenClaim} (har : Bool × String) (lk : Bool)
    (hc : c.holds Tryz.pinned s) (hw : c.wfByText s = true) (htie : c.laidByTextAt .later Tryz.pinned [.sentinel] true)
    (hst : c.start = .entering) (hnb : c.noBlocks = false ∧ c.again = false) (hm : Tryz.pinned.checked.prog.mainIs = some (har.1, har.2.toList)) (hn : (!har.1 && har.2.isEmpty && !lk) = false)
    (hl : ∀ f fn, Tryz.pinned.checked.prog.funcNamed c.func = some f → Tryz.pinned.checked.prog.funcs[f]? = some fn → lk = Tryz.pinned.checked.prog.looks [] ∧ ∀ (j : Nat) t, fn.params[j]? = some t → Tryz.pinned.checked.prog.wantsStandIn t = false)
    (hg : true = c.goesBy Tryz.pinned.checked.prog) :
    Claim7.holds Tryz.pinned (.plain s) { stood := { row := c, standIns := [], harness := har, looks := lk }, kinds := [], alts := [], goes := true, laidByText := true, laidKinds := [.sentinel], laidTests := true, laidLooks := .later } := by
  have h6 : ∀ r : OpenClaim, Claim7.isSixth { stood := { row := r, standIns := [], harness := har, looks := lk }, kinds := [] } = false := fun r => by simpa [Claim7.isSixth] using hn
  exact ⟨Claim7.tied_new_at .later [.sentinel] true (Claim7.new_of_sixth hc har lk hst hnb hm (h6 c) hl) hw, (fun D hD => by cases hD), htie, (fun h => by cases h), hg⟩
theorem recorderDoes_card : Rows.RecorderDoesCardSaid :=
  ld_card_goes Rows.recorderDoesCard.stood.harness false recorderDoes_holds (by kernel_rfl) recorderDoes_row_tie rfl ⟨rfl, rfl⟩ (by kernel_rfl) rfl
    (fun f fn hf hfn => by
      obtain rfl : f = 3 := Option.some.inj (lf_named.symm.trans hf) |>.symm
      obtain rfl : fn = Tryz.f3 := (Option.some.inj (Tryz.func3.symm.trans hfn)).symm
      exact ⟨by kernel_rfl, fun j t ht => by
        rw [Tryz.params3] at ht
        have hm : t ∈ [3, 3, 22, 23] := by simpa using Array.mem_of_getElem? ht
        have hall : ([3, 3, 22, 23].all fun u => !Tryz.prog.wantsStandIn u) = true := by kernel_rfl
        exact (show Tryz.prog.wantsStandIn t = false by simpa using List.all_eq_true.1 hall t hm)⟩)
    (by kernel_rfl)
end Go.Proofs.YtaeapikhhbjlnaaGreatDoor
