/- LabelParses: walk and row. Own work of the verifier. -/
import Derived.Test.YtmphajfhilpgeaaCC3
import Derived.Test.YtmphajfhilpgeaaDA2
namespace Go.Proofs.Ytmphajfhilpgeaa
open Go.ChangeShapes Go.WideShapes Go.ChangeAt Go.RowKit Go.Joins

/-- Lists of labels of calls' own, held against each other. -/
theorem same_own {B B' : Nat} {v v' : Value} {L : List Lb} {W : World} (h : OwnL B v L W) (h' : OwnL B' v' L W) :
    Calls Try.prog 25 #[v, v'] W fun e w' => e = .returned (.bool true) ∧ Below W.heap.size W w' := by
  obtain ⟨ao, b, cap, rfl, h1, h2, h3, h4⟩ := h.open
  obtain ⟨ao', b', cap', rfl, k1, k2, _, _⟩ := h'.open
  refine (samel_any ao b 0 cap L h1 ao' b' 0 cap' L k1 (by omega) W h2 k2).mono ?_
  rintro e w' ⟨rfl, n, rfl⟩
  exact ⟨by simp, below_drewN W n⟩
set_option maxHeartbeats 4000000 in
set_option maxRecDepth 100000 in
theorem parses_walk (ao : Option Addr) (b o cap : Nat) (L : List (List UInt8)) (hao : L ≠ [] → ao = some ⟨b, o, none⟩) (hs : ∀ x ∈ L, x.length ≤ 140737488351232) (hl : L.length ≤ 9223372036854775807) (w : World) (hR : RowS w b o L) :
    Calls Try.prog 7 #[.slice ao L.length cap] w fun r w' => r = .returned (.bool true) ∧ Below w.heap.size w w' := by
  have HA : HidC _ _ _ _ _ := awake_any w
  have HRw : Hid (RowS w b o L) := hR
  have H1 : Hid (∀ l : List UInt8, l.length ≤ 140737488351232 → ∀ W, Calls Try.prog 23 #[.string ⟨l.toArray⟩] W fun r w' => TellsC l W.heap.size r w' ∧ Below W.heap.size W w') := fun l h W => cparse_any l (by omega) W
  have H2 : Hid (∀ l : List UInt8, l.length ≤ 140737488351232 → ∀ W, Calls Try.prog 24 #[.string ⟨l.toArray⟩] W fun r w' => TellsD l W.heap.size r w' ∧ Below W.heap.size W w') := fun l h W => dparse_any l (by omega) W
  have HSz : Hid _ := hs
  clear hR hs
  go_enter Try.func7, Try.ntmps7
  go_wp2_with fail
  refine (HA.out).mono ?_
  rintro e w1 ⟨rfl, hb⟩
  have HK0 : Hid (KT w b o L w1) := ⟨RowS.below HRw.out hb, hb⟩
  clear HA HRw hb
  go_wp2_with fail
  go_loopw [16] (fun a W => ∃ i : Nat, i ≤ L.length ∧ a = .int .i64 (i : Int) ∧ Hid (KT w b o L W)) (fun a _ => L.length - (intOf a).toNat)
  case atStart => exact ⟨0, by omega, rfl, HK0⟩
  case round =>
    clear HK0
    obtain ⟨i, hi, rfl, HK⟩ := hrel
    by_cases hlt : i < L.length
    · have hlt' : (i : Int) < (L.length : Int) := by omega
      obtain rfl := hao (by intro k; rw [k] at hlt; simp at hlt)
      have q1 := HK.out.r i hlt
      have m1 := HSz.out L[i] (List.getElem_mem hlt)
      have C1 : Hid _ := H1.out L[i] m1
      have C2 : Hid _ := H2.out L[i] m1
      generalize L[i] = x at *
      clear H1 H2 HSz
      as_aux_lemma =>
      go_wp2_with fail
      refine (C1.out _).mono ?_
      rintro e w2 ⟨hT1, hb2⟩
      have HK2 : Hid (KT w b o L w2) := HK.out.below hb2
      clear HK hb2 C1
      rcases hT1 with ⟨z, k, ho, hz, rfl⟩ | ⟨n, A, v, ho, rfl, hown⟩
      · have HO : Hid (parR x = .error (z, k)) := ho
        clear ho hz
        as_aux_lemma =>
          go_wp2_with fail
          refine (C2.out _).mono ?_
          rintro e w3 ⟨hT2, hb3⟩
          have HK3 : Hid (KT w b o L w3) := HK2.out.below hb3
          clear HK2 hb3 C2
          rcases hT2 with ⟨z2, k2, ho2, rfl⟩ | ⟨n2, A2, v2, ho2, _⟩
          · have hzk : z2 = z ∧ k2 = k := by rw [HO.out] at ho2; cases ho2; exact ⟨rfl, rfl⟩
            obtain ⟨rfl, rfl⟩ := hzk
            have HK4 : Hid (∀ o', KT w b o L (w3.alloc o')) := fun o' => HK3.out.below (bel1 w3 o')
            have HSm : Hid (∀ W, Calls Try.prog 25 #[.slice none 0 0, .slice none 0 0] W fun e w' => e = .returned (.bool true) ∧ Below W.heap.size W w') := fun W => same_own (OwnL.nil 0 W) (OwnL.nil 0 W)
            have ez : (z2 != z2) = false := by simp
            have ek : ((k2 : Int) != (k2 : Int)) = false := by simp
            clear ho2 HO HK3
            go_wp2_with (go_at_call 25; refine (HSm.out _).mono ?_; rintro e1 w5 ⟨rfl, hb5⟩)
            have HK5 : Hid (KT w b o L w5) := (HK4.out _).below hb5
            exact ⟨⟨i + 1, by omega, by go_num, HK5⟩, by simp [intOf]; omega⟩
          · rw [HO.out] at ho2; cases ho2
      · have HO : Hid (parR x = .ok (n, A)) := ho
        have HW : Hid (OwnL wr.heap.size v A w2) := hown
        clear ho hown
        as_aux_lemma =>
          go_wp2_with fail
          refine (C2.out _).mono ?_
          rintro e w3 ⟨hT2, hb3⟩
          have HK3 : Hid (KT w b o L w3) := HK2.out.below hb3
          have HW3 : Hid (OwnL wr.heap.size v A w3) := OwnL.below HW.out hb3
          clear HK2 hb3 C2 HW
          rcases hT2 with ⟨z2, k2, ho2, rfl⟩ | ⟨n2, A2, v2, ho2, rfl, hown2⟩
          · rw [HO.out] at ho2; cases ho2
          · have hzk : n2 = n ∧ A2 = A := by rw [HO.out] at ho2; cases ho2; exact ⟨rfl, rfl⟩
            obtain ⟨rfl, rfl⟩ := hzk
            have HK4 : Hid (∀ o', KT w b o L (w3.alloc o')) := fun o' => HK3.out.below (bel1 w3 o')
            have HSm : Hid (∀ o', Calls Try.prog 25 #[v, v2] (w3.alloc o') fun e w' => e = .returned (.bool true) ∧ Below (w3.alloc o').heap.size (w3.alloc o') w') := fun o' => same_own (OwnL.below HW3.out (bel1 w3 o')) (hown2.below (bel1 w3 o'))
            have en : (n2 != n2) = false := by simp
            clear ho2 HO HK3 HW3 hown2
            go_wp2_with (go_at_call 25; refine (HSm.out _).mono ?_; rintro e1 w5 ⟨rfl, hb5⟩)
            have HK5 : Hid (KT w b o L w5) := (HK4.out _).below hb5
            exact ⟨⟨i + 1, by omega, by go_num, HK5⟩, by simp [intOf]; omega⟩
    · have hlt' : ¬ (i : Int) < (L.length : Int) := by omega
      have hbl := HK.out.bl
      clear H1 H2 HSz HK
      as_aux_lemma =>
        go_wp2_with fail
        go_ret
        exact ⟨rfl, hbl⟩
set_option maxRecDepth 100000 in
theorem labelParses_lifted (os : Os) (started : os.Started) (H : Type) (enc : TypeId × Value → H) :
    ReturnsInHanded {} Try.checked os 7 .any (Rows.labelParsesSpec.pre6 enc Try.prog Try.f7 Rows.labelParsesRow.domain false) (Rows.labelParsesSpec.post enc Try.prog Try.f7 false true false false) := by
  refine returnsInHanded_of_change_sized (C := Try.checked) own started (by kernel_rfl) Try.func7
    (ChangeSpec.witness6 (enc := enc) (C := Try.checked) false ⟨#[], #[.slice none 0 0], []⟩ 8 (by kernel_rfl) (by kernel_rfl) (by kernel_rfl) (by kernel_rfl)) ?_
  intro W base args ds gs before hval0 hW _ hsz0 _
  have hsz : (DataW.weightsEach Try.prog (Try.f7.params.toList ++ Rows.labelParsesSpec.plain.varTypes Try.prog) (ds ++ gs)).all (· ≤ reachBytes) = true := hsz0
  have hval : ∀ (j : Nat) t v, Try.f7.params[j]? = some t → args[j]? = some v → Value.okWide Try.prog W .any base t v := hval0
  have hW' := hW
  obtain ⟨p, q, hA0, hV, rfl, hfz, hnd⟩ := hW
  have hA : DataW.TrodAll enc Try.prog W 0 (fun _ => true) true Try.f7.params.toList args.toList ds p := hA0
  rw [Try.params7] at hA hval hsz
  obtain ⟨v0, d0, rfl, rfl, h0⟩ := trodAll_one hA
  obtain ⟨rfl, rfl⟩ := trodVars_none hV
  clear hA0 hval0 hsz0
  simp only [List.append_nil] at hW'
  have hlt : ∀ x ∈ p, x.block < W.heap.size := fun x hx => by simpa using hW'.lt x hx
  have hw0 : (d0.weights Try.prog 23).all (· ≤ reachBytes) = true := by
    simp only [List.append_nil, List.cons_append, List.nil_append, DataW.weightsEach, List.all_append, Bool.and_eq_true] at hsz
    exact hsz.1
  have hargs : ∀ (W' : World), Below W.heap.size W W' → DataW.TrodAll enc Try.prog W' 0 (fun b => decide (b < W.heap.size)) true [23] [v0] [d0] p := fun W' hn =>
    trodAll_mk1 (Below.trod laidOut (by kernel_rfl) (of_decide_eq_true (by kernel_rfl)) h0 hn (fun x hx => hlt x hx))
  obtain ⟨ao, b, o, cap, L, rfl, e1, e2, e3, e4, _⟩ := open_texts (hval 0 23 v0 rfl rfl) h0 hw0
  refine (parses_walk ao b o cap L e1 e2 e3 W e4).mono fun e W' ⟨he, hb⟩ => ?_
  subst he
  exact ⟨_, rfl, _, _, _, [], _, [], hW', trodAll_mk1 (shut_bool Try.underlying4 _), hargs W' hb, rfl, hb.frame _, fun h => by cases h⟩
theorem labelParses_holds : Rows.LabelParsesSaid :=
  OpenClaim.holds_of_wide 7 Try.f7 rfl rfl rfl rfl rfl rfl rfl ⟨rfl, rfl, rfl, rfl, rfl⟩ rfl rfl rfl rfl rfl (by kernel_rfl) Try.func7 (by kernel_rfl)
    (of_decide_eq_true (by kernel_rfl)) (by unfold Func.isWrapper; first | (rw [if_pos (by decide +kernel)]; kernel_rfl) | (rw [if_neg (by decide +kernel)]; exact ⟨rfl, rfl⟩))
    (fun os started H enc _ => labelParses_lifted os started H enc)
end Go.Proofs.Ytmphajfhilpgeaa
