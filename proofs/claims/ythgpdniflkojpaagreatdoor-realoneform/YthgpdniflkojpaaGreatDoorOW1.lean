/- RealOneForm: THE WALK, THE ROW AND THE CARD. Own work of the verifier. -/
import Derived.Test.YthgpdniflkojpaaGreatDoorOD1
import Derived.Test.YthgpdniflkojpaaGreatDoorOR1
namespace Go.Proofs.YthgpdniflkojpaaGreatDoor
open Go.ChangeShapes Go.WideShapes Go.ChangeAt Go.RowKit

/-- What the walk keeps. -/
def KO (w W : World) : Prop := Glob2 W ∧ GlobR W ∧ Errs W ∧ Blks W ∧ Below w.heap.size w W
theorem keepO {w W W1 : World} (hb : Below W.heap.size W W1) (h : KO w W) : KO w W1 := by
  obtain ⟨h1, h2, h3, h4, h5⟩ := h
  have hk := h4.below hb
  exact ⟨h1.below hb, h2.below hb hk.eq, h3.below hb, hk, h5.trans (hb.mono h5.size)⟩
set_option maxHeartbeats 2000000 in
set_option maxRecDepth 100000 in
theorem oneForm_walk (l : List UInt8) (hlen : l.length ≤ 9223372036854775807) (w : World) (hK : KO w w) :
    Calls Tryz.prog 4 #[.string ⟨l.toArray⟩] w fun e w' => e = .returned (.bool true) ∧ Below w.heap.size w w' := by
  have HA : Hid (∀ W, KO w W → Calls Tryz.prog 5 #[] W fun e w' => e = .returned (.bool true) ∧ KO w w') := fun W h => (awake_any W h.1.glob (P10_of h.2.1.p10)).mono fun e w' k => ⟨k.1, keepO k.2 h⟩
  have HQ : Hid (∀ W, KO w W → Calls Tryz.prog 6 #[.string ⟨l.toArray⟩] W fun e w' => TellsT l e ∧ KO w w') := fun W h => (Parse_every l hlen W h.1 h.2.2.1 h.2.1 (fun h25 => read_some l h25)).mono fun e w' k => ⟨k.1, keepO k.2 h⟩
  have HP : Hid (∀ u, u < 18446744073709551616 → ∀ W, KO w W → Calls Tryz.prog 10 #[.float .f64 u] W fun e w' => e = .returned (.string ⟨(pText u).toArray⟩) ∧ KO w w') := fun u hu W h => (print_all u hu W h.1).mono fun e w' k => ⟨k.1, keepO k.2 h⟩
  have HK : Hid _ := hK
  clear hK
  go_enter Tryz.func4, Tryz.ntmps4
  go_wp2_with fail
  refine (HA.out _ HK.out).mono ?_
  rintro e w1 ⟨rfl, HK1⟩
  go_wp2_with fail
  refine (HQ.out _ HK1).mono ?_
  rintro e w2 ⟨hT, HK2⟩
  rcases hT with rfl | ⟨u, rfl, hu, ht⟩
  · have hbel := HK2.2.2.2.2
    clear HA HQ HP HK HK1 HK2
    as_aux_lemma =>
      go_wp2_with (first | simp only [mf64bits] | fail)
      go_ret
      exact ⟨rfl, hbel⟩
  · have HT : Hid _ := ht
    clear ht
    go_wp2_with fail
    refine (HP.out u hu _ HK2).mono ?_
    rintro e w3 ⟨rfl, HK3⟩
    have hbel := HK3.2.2.2.2
    rw [HT.out]
    clear HA HQ HP HK HK1 HK2 HK3
    as_aux_lemma =>
      go_wp2_with fail
      go_ret
      exact ⟨rfl, hbel⟩
set_option maxRecDepth 100000 in
theorem realOneForm_lifted (os : Os) (started : os.Started) (H : Type) (enc : TypeId × Value → H) :
    ReturnsInHanded {} Tryz.checked os 4 .any (fun w args => (Rows.realOneFormSpec.pre enc Tryz.prog Tryz.f4 [] false w args ∧ laidMetH Tryz.prog laids w) ∧ sizedMet enc Tryz.prog Tryz.f4 (OpenSpec.ofChange Rows.realOneFormSpec) false w args)
      (Rows.realOneFormSpec.post enc Tryz.prog Tryz.f4 false true false false) := by
  refine returns_and_shaped (C := Tryz.checked) (X := fun w _ => laidMetH Tryz.prog laids w) (fun _ _ _ hh h => h.of_heap hh) own started (by kernel_rfl) Tryz.func4
    (ChangeSpec.witness_shaped (enc := enc) (C := Tryz.checked) (os := os) (X := fun w _ => laidMetH Tryz.prog laids w) false (World.laidAll Tryz.prog os laids) #[.string ⟨#[]⟩] 8 (World.laidAll_os _ _ _) (start_shaped os _) (by kernel_rfl) (by kernel_rfl) (by kernel_rfl) (start_met os _)) ?_
  intro W base args ds gs before hval0 hW _ _ hL hSh _
  have hval : ∀ (j : Nat) t v, Tryz.f4.params[j]? = some t → args[j]? = some v → Value.okWide Tryz.prog W .any base t v := hval0
  have hW' := hW
  obtain ⟨p, q, hA0, hV, rfl, hfz, hnd⟩ := hW
  have hA : DataW.TrodAll enc Tryz.prog W 0 (fun _ => true) true Tryz.f4.params.toList args.toList ds p := hA0
  rw [Tryz.params4] at hA hval
  obtain ⟨v0, d0, rfl, rfl, h0⟩ := trodAll_one hA
  obtain ⟨rfl, rfl⟩ := trodVars_none hV
  obtain ⟨x0, rfl, rfl, rfl, wx0⟩ := Go.ChangeMaps.open_string Tryz.underlying9 (hval 0 9 v0 rfl rfl) h0
  obtain ⟨hGl, _⟩ := glob_of_laid hL
  have hP := ten_of_laid hL
  have hBk := blks_of hSh
  have hK : KO W W := ⟨⟨hGl, maxLen_cell hSh⟩, ⟨hGl, hP, cheat_of_laid hL, info_of_laid hL, hBk.eq⟩, errs_of_laid hL, hBk, Below.refl _ _⟩
  clear hA0 hval0
  simp only [List.append_nil] at hW'
  obtain ⟨l, rfl⟩ : ∃ l : List UInt8, x0 = ⟨l.toArray⟩ := ⟨x0.data.toList, ByteArray.ext (by simp)⟩
  have hlen : l.length ≤ 9223372036854775807 := by
    have h : (ByteArray.mk l.toArray).size ≤ 9223372036854775807 := Nat.le_trans wx0 (by decide)
    simpa [ByteArray.size] using h
  refine (oneForm_walk l hlen W hK).mono fun e W' ⟨he, hb⟩ => ?_
  subst he
  exact ⟨_, rfl, _, _, _, [], [], [], hW', trodAll_mk1 (shut_bool Tryz.underlying4 _), trodAll_mk1 (Go.ChangeMaps.shut_string Tryz.underlying9 wx0), rfl, hb.frame _, fun h => by cases h⟩
theorem realOneForm_holds : Rows.RealOneFormSaid :=
  OpenClaim.holds_of_wide 4 Tryz.f4 rfl rfl rfl rfl rfl rfl rfl ⟨rfl, rfl, rfl, rfl, rfl⟩ rfl rfl rfl rfl rfl (by kernel_rfl) Tryz.func4 (by kernel_rfl)
    (of_decide_eq_true (by kernel_rfl)) (by unfold Func.isWrapper; first | (rw [if_pos (by decide +kernel)]; kernel_rfl) | (rw [if_neg (by decide +kernel)]; exact ⟨rfl, rfl⟩))
    (fun os started H enc _ => realOneForm_lifted os started H enc)
theorem realOneForm_card : Rows.RealOneFormCardSaid :=
  Claim7.holds_tied_plain_at .later [] [.data, .data, .widerDeep, .widerDeep, .data, .data, .data, .data, .data, .sentinel, .sentinel, .pinned, .pinned] true Rows.realOneFormCard.stood.harness true
    realOneForm_holds (fun _ h => by cases h) (by kernel_rfl) (fun _ h => by cases h) realOneForm_row_tie rfl ⟨rfl, rfl⟩ (by kernel_rfl) rfl
    (fun f fn hf hfn => by
      obtain rfl : f = 4 := Option.some.inj ((show Tryz.prog.funcNamed Rows.realOneFormRow.func = some 4 by kernel_rfl).symm.trans hf) |>.symm
      obtain rfl : fn = Tryz.f4 := (Option.some.inj (Tryz.func4.symm.trans hfn)).symm
      exact ⟨by kernel_rfl, fun j t ht => by
        rw [Tryz.params4] at ht
        have hm : t ∈ [9] := by simpa using Array.mem_of_getElem? ht
        have hall : ([9].all fun u => !Tryz.prog.wantsStandIn u) = true := by kernel_rfl
        exact (show Tryz.prog.wantsStandIn t = false by simpa using List.all_eq_true.1 hall t hm)⟩)
    (by kernel_rfl)
end Go.Proofs.YthgpdniflkojpaaGreatDoor
