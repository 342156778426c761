/- RegistryNames: THE ROW and THE CARD. Own work of the verifier. -/
import Derived.Test.YtaeapikhhbjlnaaGreatDoorZRK
import Derived.Test.YtaeapikhhbjlnaaGreatDoorRows
import Derived.Test.YtaeapikhhbjlnaaGreatDoorCards
import Derived.Test.YtaeapikhhbjlnaaGreatDoorTie
import Derived.Lib.SmallJoins
import Derived.Carry
import Derived.SizedLaws
import Derived.ProofKit
import Derived.OpenShut
import Derived.Lay
import Derived.LaidOnce
import Derived.LaidMore
import Derived.SevenTiedAt
namespace Go.Proofs.YtaeapikhhbjlnaaGreatDoor
open Go.ChangeShapes Go.WideShapes Go.ChangeAt Go.RowKit Go.Joins

theorem rn_own : ownKnob Tryz.prog.godebug = none := by kernel_rfl
abbrev rn_laids : List (String × DataW Unit) := [("gnomon/gate.errLetGo", Rows.laid_gnomon_gate_errLetGo)]
set_option maxRecDepth 100000 in
theorem rn_met (os : Os) (args : Array Value) : laidMetH Tryz.prog rn_laids ((World.laidAll Tryz.prog os rn_laids).forCall (fun _ _ => 0) ⟨#[], args, []⟩).memory := by
  rw [MakeChecks.laidMetH_plain _ _ _ (by kernel_rfl)]; exact laidMet_laidAll _ (by kernel_rfl) (by kernel_rfl)
set_option maxRecDepth 100000 in
theorem rn_shaped (os : Os) (args : Array Value) : ((World.laidAll Tryz.prog os rn_laids).forCall (fun _ _ => 0) ⟨#[], args, []⟩).Shaped Tryz.prog := World.shaped_of_ZipB (by kernel_rfl) (by kernel_rfl)
set_option maxRecDepth 100000 in
theorem registryNames_lifted (os : Os) (started : os.Started) (H : Type) (enc : TypeId × Value → H) :
    ReturnsInHanded {} Tryz.checked os 4 .any (fun w args => (Rows.registryNamesSpec.pre enc Tryz.prog Tryz.f4 [] false w args ∧ laidMetH Tryz.prog rn_laids w) ∧ sizedMet enc Tryz.prog Tryz.f4 (OpenSpec.ofChange Rows.registryNamesSpec) false w args)
      (Rows.registryNamesSpec.post enc Tryz.prog Tryz.f4 false true false false) := by
  refine returnsInHanded_of_change_and (C := Tryz.checked) (X := fun w _ => laidMetH Tryz.prog rn_laids w) (fun _ _ _ hh h => h.of_heap hh) rn_own started (by kernel_rfl) Tryz.func4
    (ChangeSpec.witness_shaped (enc := enc) (C := Tryz.checked) (os := os) (X := fun w _ => laidMetH Tryz.prog rn_laids w) false (World.laidAll Tryz.prog os rn_laids) #[] 8 (World.laidAll_os _ _ _) (rn_shaped os _) (by kernel_rfl) (by kernel_rfl) (by kernel_rfl) (rn_met os _)) ?_
  intro W base args ds gs before hval0 hW _ _ _ _
  have hW' := hW
  obtain ⟨p, q, hA0, hV, rfl, hfz, hnd⟩ := hW
  have hA : DataW.TrodAll enc Tryz.prog W 0 (fun _ => true) true Tryz.f4.params.toList args.toList ds p := hA0
  rw [Tryz.params4] at hA
  obtain ⟨rfl, rfl, rfl⟩ := trodAll_none hA
  obtain ⟨rfl, rfl⟩ := trodVars_none hV
  clear hA0 hval0
  simp only [List.append_nil] at hW'
  refine (rnames_walk W).mono fun e W' ⟨he, hb⟩ => ?_
  subst he
  exact ⟨_, rfl, _, _, _, [], [], [], hW', trodAll_mk1 (shut_bool Tryz.underlying4 _), trodAll_mk0, rfl, hb.frame _, fun h => by cases h⟩
theorem rn_band {a b : Bool} (ha : a = true) (hb : b = true) : (a && b) = true := by rw [ha, hb]; rfl
set_option maxHeartbeats 0 in
set_option maxRecDepth 100000 in
theorem rn_closed : joinedFacts Tryz.prog 4 Tryz.f4 Rows.registryNamesSpec Rows.registryNamesRow = true := by
  unfold joinedFacts
  repeat' (with_reducible refine rn_band ?_ ?_)
  all_goals (as_aux_lemma => kernel_rfl)
theorem rn_named : Tryz.prog.funcNamed Rows.registryNamesRow.func = some 4 := by kernel_rfl
theorem rn_inst : Tryz.f4.isInstance Tryz.prog Rows.registryNamesRow.origin Rows.registryNamesRow.targs := of_decide_eq_true (by kernel_rfl)
theorem rn_wrap : Tryz.f4.isWrapper Tryz.prog Rows.registryNamesRow.wrapper Rows.registryNamesRow.mainSum := by unfold Func.isWrapper; first | (rw [if_pos (by decide +kernel)]; kernel_rfl) | (rw [if_neg (by decide +kernel)]; exact ⟨rfl, rfl⟩)
theorem registryNames_holds : Rows.RegistryNamesSaid :=
  OpenClaim.holds_of_wide 4 Tryz.f4 rfl rfl rfl rfl rfl rfl rfl ⟨rfl, rfl, rfl, rfl, rfl⟩ rfl rfl rfl rfl rfl rn_named Tryz.func4 rn_closed rn_inst rn_wrap
    (fun os started H enc _ => registryNames_lifted os started H enc)
/-- A tied card of a row whose program may start goroutines elsewhere. -/
theorem rn_card_goes {s : OpenSpec} {c : OpenClaim} (har : Bool × String) (lk : Bool)
    (hc : c.holds Tryz.pinned s) (hw : c.wfByText s = true) (htie : c.laidByTextAt .later Tryz.pinned [.sentinel] true)
    (hst : c.start = .entering) (hnb : c.noBlocks = false ∧ c.again = false) (hm : Tryz.pinned.checked.prog.mainIs = some (har.1, har.2.toList)) (hn : (!har.1 && har.2.isEmpty && !lk) = false)
    (hl : ∀ f fn, Tryz.pinned.checked.prog.funcNamed c.func = some f → Tryz.pinned.checked.prog.funcs[f]? = some fn → lk = Tryz.pinned.checked.prog.looks [] ∧ ∀ (j : Nat) t, fn.params[j]? = some t → Tryz.pinned.checked.prog.wantsStandIn t = false)
    (hg : true = c.goesBy Tryz.pinned.checked.prog) :
    Claim7.holds Tryz.pinned (.plain s) { stood := { row := c, standIns := [], harness := har, looks := lk }, kinds := [], alts := [], goes := true, laidByText := true, laidKinds := [.sentinel], laidTests := true, laidLooks := .later } := by
  have h6 : ∀ r : OpenClaim, Claim7.isSixth { stood := { row := r, standIns := [], harness := har, looks := lk }, kinds := [] } = false := fun r => by simpa [Claim7.isSixth] using hn
  exact ⟨Claim7.tied_new_at .later [.sentinel] true (Claim7.new_of_sixth hc har lk hst hnb hm (h6 c) hl) hw, (fun D hD => by cases hD), htie, (fun h => by cases h), hg⟩
theorem registryNames_card : Rows.RegistryNamesCardSaid :=
  rn_card_goes Rows.registryNamesCard.stood.harness false registryNames_holds (by kernel_rfl) registryNames_row_tie rfl ⟨rfl, rfl⟩ (by kernel_rfl) rfl
    (fun f fn hf hfn => by
      obtain rfl : f = 4 := Option.some.inj (rn_named.symm.trans hf) |>.symm
      obtain rfl : fn = Tryz.f4 := (Option.some.inj (Tryz.func4.symm.trans hfn)).symm
      exact ⟨by kernel_rfl, fun j t ht => by
        rw [Tryz.params4] at ht
        cases Array.mem_of_getElem? ht with
        | mk h => cases h⟩)
    (by kernel_rfl)
end Go.Proofs.YtaeapikhhbjlnaaGreatDoor
