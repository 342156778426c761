/- LabelHelps: the walk, and the row of the second form. Own work of the verifier. -/
import Derived.Test.YtmphajfhilpgeaaCC3
namespace Go.Proofs.Ytmphajfhilpgeaa
open Go.ChangeShapes Go.WideShapes Go.ChangeAt Go.RowKit Go.Joins

theorem esc_len2 (q : Bool) (l : List UInt8) : (escL q l).length ≤ 2 * l.length := by
  induction l with
  | nil => simp [escL]
  | cons b r ih =>
    rw [escL, List.length_append, List.length_cons]
    have : (esc1 q b).length ≤ 2 := by
      unfold esc1
      split
      · simp
      · split <;> simp
    omega
theorem tellsU_uniq {l : List UInt8} {e f : Ending} (h1 : TellsU l e) (h2 : TellsU l f) : e = f := by
  rcases h1 with ⟨t, a1, a2⟩ | ⟨a1, a2⟩ <;> rcases h2 with ⟨s, b1, b2⟩ | ⟨b1, b2⟩
  · rw [a1] at b1; cases b1; rw [a2, b2]
  · rw [a1] at b1; cases b1
  · rw [a1] at b1; cases b1
  · rw [a2, b2]
set_option maxHeartbeats 4000000 in
set_option maxRecDepth 100000 in
theorem helps_walk (ao : Option Addr) (b o cap : Nat) (L : List (List UInt8)) (hao : L ≠ [] → ao = some ⟨b, o, none⟩) (hs : ∀ x ∈ L, x.length ≤ 1048576) (hl : L.length ≤ 9223372036854775807) (w : World) (hR : RowS w b o L) :
    Calls Try.prog 8 #[.slice ao L.length cap] w fun r w' => r = .returned (.bool true) ∧ Below w.heap.size w w' := by
  have HA : HidC _ _ _ _ _ := awake_any w
  have HRw : Hid (RowS w b o L) := hR
  have H1 : Hid (∀ l : List UInt8, l.length ≤ 1048576 → ∀ W, Calls Try.prog 26 #[.string ⟨l.toArray⟩] W fun r w' => TellsU l r ∧ Below W.heap.size W w') := fun l h W => cunhelp_any l (by omega) W
  have H2 : Hid (∀ l : List UInt8, l.length ≤ 1048576 → ∀ W, Calls Try.prog 27 #[.string ⟨l.toArray⟩] W fun r w' => TellsU l r ∧ Below W.heap.size W w') := fun l h W => unhelp_any l (by omega) W
  have H3 : Hid (∀ l : List UInt8, l.length ≤ 1048576 → ∀ W, Calls Try.prog 28 #[.string ⟨l.toArray⟩] W fun r w' => r = .returned (.string ⟨(escL false l).toArray⟩) ∧ Below W.heap.size W w') := fun l h W => chelp_any l (by have := esc_len2 false l; omega) (by omega) W
  have H4 : Hid (∀ l : List UInt8, l.length ≤ 1048576 → ∀ W, Calls Try.prog 29 #[.string ⟨l.toArray⟩] W fun r w' => r = .returned (.string ⟨(escL false l).toArray⟩) ∧ Below W.heap.size W w') := fun l h W => help_any l (by omega) W
  have HSz : Hid _ := hs
  clear hR hs
  go_enter Try.func8, Try.ntmps8
  go_wp2_with fail
  refine (HA.out).mono ?_
  rintro e w1 ⟨rfl, hb⟩
  have HK0 : Hid (KT w b o L w1) := ⟨RowS.below HRw.out hb, hb⟩
  clear HA HRw hb
  go_wp2_with fail
  go_loopw [13] (fun a W => ∃ i : Nat, i ≤ L.length ∧ a = .int .i64 (i : Int) ∧ Hid (KT w b o L W)) (fun a _ => L.length - (intOf a).toNat)
  case atStart => exact ⟨0, by omega, rfl, HK0⟩
  case round =>
    clear HK0
    obtain ⟨i, hi, rfl, HK⟩ := hrel
    by_cases hlt : i < L.length
    · have hlt' : (i : Int) < (L.length : Int) := by omega
      obtain rfl := hao (by intro k; rw [k] at hlt; simp at hlt)
      have q1 := HK.out.r i hlt
      have m1 := HSz.out L[i] (List.getElem_mem hlt)
      have C1 : Hid _ := H1.out L[i] m1
      have C2 : Hid _ := H2.out L[i] m1
      have C3 : Hid _ := H3.out L[i] m1
      have C4 : Hid _ := H4.out L[i] m1
      have HU : Hid (unL L[i] = unL L[i]) := rfl
      obtain ⟨T, hT⟩ : ∃ T, T = escL false L[i] := ⟨_, rfl⟩
      rw [← hT] at C3 C4
      obtain ⟨U, hU⟩ : ∃ U, U = unL L[i] := ⟨_, rfl⟩
      have HUn : Hid (unL L[i] = U) := hU.symm
      clear hT hU HU
      generalize L[i] = x at *
      clear H1 H2 H3 H4 HSz
      have e1 : (T != T) = false := by simp
      as_aux_lemma =>
      go_wp2_with fail
      refine (C1.out _).mono ?_
      rintro e w2 ⟨hT1, hb2⟩
      have HK2 : Hid _ := HK.out.below hb2
      clear HK hb2 C1
      rcases hT1 with ⟨t, ht, rfl⟩ | ⟨ht, rfl⟩
      · have HT : Hid (unL x = some t) := ht
        clear ht
        as_aux_lemma =>
          go_wp2_with fail
          refine (C2.out _).mono ?_
          rintro e w3 ⟨hT2, hb3⟩
          have HK3 : Hid _ := HK2.out.below hb3
          clear HK2 hb3 C2
          rcases hT2 with ⟨t2, ht2, rfl⟩ | ⟨ht2, rfl⟩
          · have hte : t2 = t := by rw [HT.out] at ht2; exact (Option.some.inj ht2).symm
            subst hte
            have e2 : (t2 != t2) = false := by simp
            clear ht2 HT
            go_wp2_with fail
            refine (C3.out _).mono ?_
            rintro e w4 ⟨rfl, hb4⟩
            have HK4 : Hid _ := HK3.out.below hb4
            clear HK3 hb4 C3
            go_wp2_with fail
            refine (C4.out _).mono ?_
            rintro e w5 ⟨rfl, hb5⟩
            have HK5 : Hid _ := HK4.out.below hb5
            clear HK4 hb5 C4
            go_wp2_with fail
            exact ⟨⟨i + 1, by omega, by go_num, HK5⟩, by simp [intOf]; omega⟩
          · rw [HT.out] at ht2; cases ht2
      · have HT : Hid (unL x = none) := ht
        clear ht
        as_aux_lemma =>
          go_wp2_with fail
          refine (C2.out _).mono ?_
          rintro e w3 ⟨hT2, hb3⟩
          have HK3 : Hid _ := HK2.out.below hb3
          clear HK2 hb3 C2
          rcases hT2 with ⟨t2, ht2, rfl⟩ | ⟨ht2, rfl⟩
          · rw [HT.out] at ht2; cases ht2
          · clear ht2 HT
            go_wp2_with fail
            refine (C3.out _).mono ?_
            rintro e w4 ⟨rfl, hb4⟩
            have HK4 : Hid _ := HK3.out.below hb4
            clear HK3 hb4 C3
            go_wp2_with fail
            refine (C4.out _).mono ?_
            rintro e w5 ⟨rfl, hb5⟩
            have HK5 : Hid _ := HK4.out.below hb5
            clear HK4 hb5 C4
            go_wp2_with fail
            exact ⟨⟨i + 1, by omega, by go_num, HK5⟩, by simp [intOf]; omega⟩
    · have hlt' : ¬ (i : Int) < (L.length : Int) := by omega
      have hbl := HK.out.bl
      clear H1 H2 H3 H4 HSz HK
      as_aux_lemma =>
        go_wp2_with fail
        go_ret
        exact ⟨rfl, hbl⟩
end Go.Proofs.Ytmphajfhilpgeaa
