/- LabelNames: walk and row. Own work of the verifier. -/
import Derived.Test.YtmphajfhilpgeaaCC0
import Derived.Test.YtmphajfhilpgeaaCC1
namespace Go.Proofs.Ytmphajfhilpgeaa
open Go.ChangeShapes Go.WideShapes Go.ChangeAt Go.RowKit Go.Joins

/-- What a law over texts keeps. -/
structure KT (w : World) (b o : Nat) (L : List (List UInt8)) (W : World) : Prop where
  r : RowS W b o L
  bl : Below w.heap.size w W
theorem KT.below {w W W1 : World} {b o : Nat} {L : List (List UInt8)} (h : KT w b o L W) (hb : Below W.heap.size W W1) : KT w b o L W1 := ⟨h.r.below hb, h.bl.trans (hb.mono h.bl.size)⟩
set_option maxHeartbeats 2000000 in
set_option maxRecDepth 100000 in
theorem names_walk (ao : Option Addr) (b o cap : Nat) (L : List (List UInt8)) (hao : L ≠ [] → ao = some ⟨b, o, none⟩) (hs : ∀ x ∈ L, x.length ≤ 140737488351232) (hl : L.length ≤ 9223372036854775807) (w : World) (hR : RowS w b o L) :
    Calls Try.prog 4 #[.slice ao L.length cap] w fun r w' => r = .returned (.bool true) ∧ Below w.heap.size w w' := by
  have HA : HidC _ _ _ _ _ := awake_any w
  have HRw : Hid (RowS w b o L) := hR
  have H1 : Hid (∀ l : List UInt8, l.length ≤ 140737488351232 → ∀ W, Calls Try.prog 10 #[.string ⟨l.toArray⟩] W fun r w' => r = .returned (.bool (nameB l)) ∧ w' = W) := fun l h W => cname_any l (by omega) W
  have H2 : Hid (∀ l : List UInt8, l.length ≤ 140737488351232 → ∀ W, Calls Try.prog 11 #[.string ⟨l.toArray⟩] W fun r w' => r = .returned (.bool (nameB l)) ∧ w' = W) := fun l h W => name_any l (by omega) W
  have H3 : Hid (∀ l : List UInt8, l.length ≤ 140737488351232 → ∀ W, Calls Try.prog 12 #[.string ⟨l.toArray⟩] W fun r w' => r = .returned (.bool (lnameB l)) ∧ w' = W) := fun l h W => clname_any l (by omega) W
  have H4 : Hid (∀ l : List UInt8, l.length ≤ 140737488351232 → ∀ W, Calls Try.prog 13 #[.string ⟨l.toArray⟩] W fun r w' => r = .returned (.bool (lnameB l)) ∧ w' = W) := fun l h W => lname_any l (by omega) W
  have HSz : Hid _ := hs
  clear hR hs
  go_enter Try.func4, Try.ntmps4
  go_wp2_with fail
  refine (HA.out).mono ?_
  rintro e w1 ⟨rfl, hb⟩
  have HK0 : Hid (KT w b o L w1) := ⟨RowS.below HRw.out hb, hb⟩
  clear HA HRw hb
  go_wp2_with fail
  go_loopw [9] (fun a W => ∃ i : Nat, i ≤ L.length ∧ a = .int .i64 (i : Int) ∧ Hid (KT w b o L W)) (fun a _ => L.length - (intOf a).toNat)
  case atStart => exact ⟨0, by omega, rfl, HK0⟩
  case round =>
    clear HK0
    obtain ⟨i, hi, rfl, HK⟩ := hrel
    by_cases hlt : i < L.length
    · have hlt' : (i : Int) < (L.length : Int) := by omega
      obtain rfl := hao (by intro k; rw [k] at hlt; simp at hlt)
      have q1 := HK.out.r i hlt
      have m1 := HSz.out L[i] (List.getElem_mem hlt)
      have C1 : Hid _ := H1.out L[i] m1
      have C2 : Hid _ := H2.out L[i] m1
      have C3 : Hid _ := H3.out L[i] m1
      have C4 : Hid _ := H4.out L[i] m1
      generalize nameB L[i] = n1 at *
      generalize lnameB L[i] = n2 at *
      generalize L[i] = x at *
      clear H1 H2 H3 H4 HSz
      have e1 : (n1 != n1) = false := by simp
      have e2 : (n2 != n2) = false := by simp
      as_aux_lemma =>
        go_wp2_with (first | (go_at_call 10; refine (C1.out _).mono ?_; rintro e1 w1 ⟨rfl, hw⟩; subst w1) | (go_at_call 11; refine (C2.out _).mono ?_; rintro e1 w1 ⟨rfl, hw⟩; subst w1) | (go_at_call 12; refine (C3.out _).mono ?_; rintro e1 w1 ⟨rfl, hw⟩; subst w1) | (go_at_call 13; refine (C4.out _).mono ?_; rintro e1 w1 ⟨rfl, hw⟩; subst w1))
        exact ⟨⟨i + 1, by omega, by go_num, HK⟩, by simp [intOf]; omega⟩
    · have hlt' : ¬ (i : Int) < (L.length : Int) := by omega
      have hbl := HK.out.bl
      clear H1 H2 H3 H4 HSz HK
      as_aux_lemma =>
        go_wp2_with fail
        go_ret
        exact ⟨rfl, hbl⟩
set_option maxRecDepth 100000 in
theorem labelNames_lifted (os : Os) (started : os.Started) (H : Type) (enc : TypeId × Value → H) :
    ReturnsInHanded {} Try.checked os 4 .any (Rows.labelNamesSpec.pre6 enc Try.prog Try.f4 Rows.labelNamesRow.domain false) (Rows.labelNamesSpec.post enc Try.prog Try.f4 false true false false) := by
  refine returnsInHanded_of_change_sized (C := Try.checked) own started (by kernel_rfl) Try.func4
    (ChangeSpec.witness6 (enc := enc) (C := Try.checked) false ⟨#[], #[.slice none 0 0], []⟩ 8 (by kernel_rfl) (by kernel_rfl) (by kernel_rfl) (by kernel_rfl)) ?_
  intro W base args ds gs before hval0 hW _ hsz0 _
  have hsz : (DataW.weightsEach Try.prog (Try.f4.params.toList ++ Rows.labelNamesSpec.plain.varTypes Try.prog) (ds ++ gs)).all (· ≤ reachBytes) = true := hsz0
  have hval : ∀ (j : Nat) t v, Try.f4.params[j]? = some t → args[j]? = some v → Value.okWide Try.prog W .any base t v := hval0
  have hW' := hW
  obtain ⟨p, q, hA0, hV, rfl, hfz, hnd⟩ := hW
  have hA : DataW.TrodAll enc Try.prog W 0 (fun _ => true) true Try.f4.params.toList args.toList ds p := hA0
  rw [Try.params4] at hA hval hsz
  obtain ⟨v0, d0, rfl, rfl, h0⟩ := trodAll_one hA
  obtain ⟨rfl, rfl⟩ := trodVars_none hV
  clear hA0 hval0 hsz0
  simp only [List.append_nil] at hW'
  have hlt : ∀ x ∈ p, x.block < W.heap.size := fun x hx => by simpa using hW'.lt x hx
  have hw0 : (d0.weights Try.prog 23).all (· ≤ reachBytes) = true := by
    simp only [List.append_nil, List.cons_append, List.nil_append, DataW.weightsEach, List.all_append, Bool.and_eq_true] at hsz
    exact hsz.1
  have hargs : ∀ (W' : World), Below W.heap.size W W' → DataW.TrodAll enc Try.prog W' 0 (fun b => decide (b < W.heap.size)) true [23] [v0] [d0] p := fun W' hn =>
    trodAll_mk1 (Below.trod laidOut (by kernel_rfl) (of_decide_eq_true (by kernel_rfl)) h0 hn (fun x hx => hlt x hx))
  obtain ⟨ao, b, o, cap, L, rfl, e1, e2, e3, e4, _⟩ := open_texts (hval 0 23 v0 rfl rfl) h0 hw0
  refine (names_walk ao b o cap L e1 e2 e3 W e4).mono fun e W' ⟨he, hb⟩ => ?_
  subst he
  exact ⟨_, rfl, _, _, _, [], _, [], hW', trodAll_mk1 (shut_bool Try.underlying4 _), hargs W' hb, rfl, hb.frame _, fun h => by cases h⟩
theorem labelNames_holds : Rows.LabelNamesSaid :=
  OpenClaim.holds_of_wide 4 Try.f4 rfl rfl rfl rfl rfl rfl rfl ⟨rfl, rfl, rfl, rfl, rfl⟩ rfl rfl rfl rfl rfl (by kernel_rfl) Try.func4 (by kernel_rfl)
    (of_decide_eq_true (by kernel_rfl)) (by unfold Func.isWrapper; first | (rw [if_pos (by decide +kernel)]; kernel_rfl) | (rw [if_neg (by decide +kernel)]; exact ⟨rfl, rfl⟩))
    (fun os started H enc _ => labelNames_lifted os started H enc)
end Go.Proofs.Ytmphajfhilpgeaa
