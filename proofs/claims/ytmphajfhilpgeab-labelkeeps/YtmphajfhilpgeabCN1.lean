/- LabelOneForm: walk and row. Own work of the verifier. -/
import Derived.Test.YtmphajfhilpgeabCC0
import Derived.Test.YtmphajfhilpgeabCC1
import Derived.Test.YtmphajfhilpgeabCM2
import Derived.ChangeMaps
namespace Go.Proofs.Ytmphajfhilpgeab
open Go.ChangeShapes Go.WideShapes Go.ChangeAt Go.RowKit Go.Joins
open Go.ChangeMaps (open_string shut_string)

theorem esc_ge (q : Bool) (l : List UInt8) : l.length ≤ (escL q l).length := by
  induction l with
  | nil => simp [escL]
  | cons b r ih =>
    rw [escL, List.length_append, List.length_cons]
    have : 1 ≤ (esc1 q b).length := by
      unfold esc1
      split
      · simp
      · split <;> simp
    omega
theorem tx_len {l : List UInt8} (h : txE l = 0) : l.length ≤ 1024 := by
  unfold txE at h
  split at h
  · exact absurd h (by decide)
  · omega
theorem chk_sizes : ∀ (L : List Lb) (p : Option (List UInt8)), chkL L p = 0 → ∀ a ∈ L, a.1.length ≤ 64 ∧ a.2.length ≤ 1024
  | [], _, _, a, ha => by cases ha
  | b :: r, p, h, a, ha => by
    rw [chkL.eq_def] at h
    simp only at h
    by_cases h1 : lnameB b.1 = false
    · rw [if_pos h1] at h; exact absurd h (by decide)
    rw [if_neg h1] at h
    by_cases h2 : txE b.2 = 0
    · rw [if_neg (fun k => k h2)] at h
      have h1' : lnameB b.1 = true := by simpa using h1
      have hr : chkL r (some b.1) = 0 := by
        cases p with
        | none => exact h
        | some q =>
          simp only at h
          by_cases h3 : bhE q b.1 = 0
          · rw [if_neg (fun k => k h3)] at h; exact h
          · rw [if_pos h3] at h; exact absurd h h3
      rcases List.mem_cons.1 ha with rfl | k
      · exact ⟨(plain_row (lname_plain h1')).2, tx_len h2⟩
      · exact chk_sizes r _ hr a k
    · rw [if_pos h2] at h; exact absurd h h2
theorem tx_nil : txE [] = 0 := by
  unfold txE
  rw [if_neg (by decide), utfB]
  rfl
theorem chk_one (n : List UInt8) (L : List Lb) (h1 : nameB n = true) (h2 : L.length ≤ 16) (h3 : chkL L none = 0) : chkD ⟨1, n, [], L⟩ = 0 := by
  unfold chkD
  simp only
  rw [if_neg (by decide), if_neg (by rw [h1]; decide), tx_nil, if_neg (by decide), if_neg (by omega), h3]
set_option maxHeartbeats 4000000 in
set_option maxRecDepth 100000 in
theorem oneForm_walk (t : List UInt8) (ht : t.length ≤ 140737488351232) (w : World) :
    Calls Try.prog 4 #[.string ⟨t.toArray⟩] w fun r w' => r = .returned (.bool true) ∧ Below w.heap.size w w' := by
  have HA : HidC _ _ _ _ _ := awake_any w
  have HU : Hid (∀ W, Calls Try.prog 11 #[.string ⟨t.toArray⟩] W fun r w' => TellsU t r ∧ Below W.heap.size W w') := fun W => cunhelp_any t (by omega) W
  have HH : Hid (∀ h, escL false h = t → ∀ W, Calls Try.prog 12 #[.string ⟨h.toArray⟩] W fun r w' => r = .returned (.string ⟨t.toArray⟩) ∧ Below W.heap.size W w') := fun h he W => by
    have := esc_ge false h
    rw [he] at this
    have hw := chelp_any h (by rw [he]; omega) (by omega) W
    rw [he] at hw
    exact hw
  have HP : Hid (∀ W, Calls Try.prog 10 #[.string ⟨t.toArray⟩] W fun r w' => TellsC t W.heap.size r w' ∧ Below W.heap.size W w') := fun W => cparse_any t (by omega) W
  have HUn : Hid (∀ h, unL t = some h → escL false h = t) := fun h e => un_esc t h e
  have HFar : Hid (∀ z k, parR t = .error (z, k) → k ≤ t.length) := fun z k e => par_far t z k e
  have HRd : Hid (∀ n L, parR t = .ok (n, L) → printT n L = t ∧ nameB n = true ∧ L.length ≤ 16 ∧ chkL L none = 0) := fun n L e => par_read t n L e
  have e1 : (t != t) = false := by simp
  have e2 : (t == t) = true := by simp
  go_enter Try.func4, Try.ntmps4
  go_wp2_with fail
  refine (HA.out).mono ?_
  rintro e w1 ⟨rfl, hb1⟩
  have HB1 : Hid (Below w.heap.size w w1) := hb1
  clear HA hb1
  go_wp2_with fail
  refine (HU.out _).mono ?_
  rintro e w2 ⟨hT, hb2⟩
  have HB2 : Hid (Below w.heap.size w w2) := HB1.out.trans (hb2.mono HB1.out.size)
  clear HU HB1 hb2
  rcases hT with ⟨h, hu, rfl⟩ | ⟨hu, rfl⟩
  · have HH1 : Hid _ := HH.out h (HUn.out h hu)
    clear HH HUn hu
    go_wp2_with fail
    refine (HH1.out _).mono ?_
    rintro e w3 ⟨rfl, hb3⟩
    have HB3 : Hid (Below w.heap.size w w3) := HB2.out.trans (hb3.mono HB2.out.size)
    clear HH1 HB2 hb3
    go_wp2_with fail
    refine (HP.out _).mono ?_
    rintro e w4 ⟨hT, hb4⟩
    have HB4 : Hid (Below w.heap.size w w4) := HB3.out.trans (hb4.mono HB3.out.size)
    clear HP HB3 hb4
    rcases hT with ⟨z, k, ho, hz, rfl⟩ | ⟨n, L, v, ho, rfl, hown⟩
    · have hk := HFar.out z k ho
      have hk' : (k : Int) ≤ (t.length : Int) := by omega
      have hk0 : (0 : Int) ≤ (k : Int) := by omega
      have hz' : (z != 0) = true := by simpa using hz
      clear HFar HRd ho hz
      as_aux_lemma =>
        go_wp2_with fail
        go_ret
        exact ⟨rfl, HB4.out⟩
    · obtain ⟨r1, r2, r3, r4⟩ := HRd.out n L ho
      obtain ⟨ao, b, cap, rfl, hao, hrow, hcp, hcm⟩ := hown.open
      have hsz := chk_sizes L none r4
      have hnl := (plain_row (name_plain r2)).2
      have HPr : HidC Try.prog 9 #[.string ⟨n.toArray⟩, .slice ao L.length cap] w4 (fun r w' => r = .returned (.string ⟨t.toArray⟩) ∧ Below w4.heap.size w4 w') := by
        have := cprint_any n ao b 0 cap L hao (by omega) (fun a ha => by have := (hsz a ha).2; omega) (by rw [r1]; omega) w4 hrow
        rw [r1] at this
        exact this
      have HCk : Hid (∀ W, Below w4.heap.size w4 W → Calls Try.prog 8 #[.agg #[.int .i64 1, .string ⟨n.toArray⟩, .string ⟨#[]⟩, .slice ao L.length cap]] W fun r w' => r = .returned (.int .i64 0) ∧ Below W.heap.size W w') := fun W hb => by
        have := ccheck_any ⟨1, n, [], L⟩ (.agg #[.int .i64 1, .string ⟨n.toArray⟩, .string ⟨#[]⟩, .slice ao L.length cap]) W ⟨ao, b, 0, cap, rfl, hao, hcp, hcm, hrow.below hb⟩ ⟨by simp only; omega, by simp, fun a ha => by have := hsz a ha; omega⟩
        rw [chk_one n L r2 r3 r4] at this
        exact this
      clear HFar HRd ho hown hsz hnl r1 r2 r3 r4 hao hrow
      as_aux_lemma =>
        go_wp2_with fail
        refine (HPr.out).mono ?_
        rintro e w5 ⟨rfl, hb5⟩
        have HC2 : HidC _ _ _ _ _ := HCk.out w5 hb5
        have HB5 : Hid (Below w.heap.size w w5) := HB4.out.trans (hb5.mono HB4.out.size)
        clear HPr HCk HB4 hb5
        go_wp2_with (go_at_call 8; refine (HC2.out).mono ?_; rintro e1 w6 ⟨rfl, hb6⟩)
        go_ret
        exact ⟨rfl, HB5.out.trans (hb6.mono HB5.out.size)⟩
  · have HB3 : Hid (Below w.heap.size w w2) := HB2.out
    clear HH HUn hu HB2
    go_wp2_with fail
    refine (HP.out _).mono ?_
    rintro e w4 ⟨hT, hb4⟩
    have HB4 : Hid (Below w.heap.size w w4) := HB3.out.trans (hb4.mono HB3.out.size)
    clear HP HB3 hb4
    rcases hT with ⟨z, k, ho, hz, rfl⟩ | ⟨n, L, v, ho, rfl, hown⟩
    · have hk := HFar.out z k ho
      have hk' : (k : Int) ≤ (t.length : Int) := by omega
      have hk0 : (0 : Int) ≤ (k : Int) := by omega
      have hz' : (z != 0) = true := by simpa using hz
      clear HFar HRd ho hz
      as_aux_lemma =>
        go_wp2_with fail
        go_ret
        exact ⟨rfl, HB4.out⟩
    · obtain ⟨r1, r2, r3, r4⟩ := HRd.out n L ho
      obtain ⟨ao, b, cap, rfl, hao, hrow, hcp, hcm⟩ := hown.open
      have hsz := chk_sizes L none r4
      have hnl := (plain_row (name_plain r2)).2
      have HPr : HidC Try.prog 9 #[.string ⟨n.toArray⟩, .slice ao L.length cap] w4 (fun r w' => r = .returned (.string ⟨t.toArray⟩) ∧ Below w4.heap.size w4 w') := by
        have := cprint_any n ao b 0 cap L hao (by omega) (fun a ha => by have := (hsz a ha).2; omega) (by rw [r1]; omega) w4 hrow
        rw [r1] at this
        exact this
      have HCk : Hid (∀ W, Below w4.heap.size w4 W → Calls Try.prog 8 #[.agg #[.int .i64 1, .string ⟨n.toArray⟩, .string ⟨#[]⟩, .slice ao L.length cap]] W fun r w' => r = .returned (.int .i64 0) ∧ Below W.heap.size W w') := fun W hb => by
        have := ccheck_any ⟨1, n, [], L⟩ (.agg #[.int .i64 1, .string ⟨n.toArray⟩, .string ⟨#[]⟩, .slice ao L.length cap]) W ⟨ao, b, 0, cap, rfl, hao, hcp, hcm, hrow.below hb⟩ ⟨by simp only; omega, by simp, fun a ha => by have := hsz a ha; omega⟩
        rw [chk_one n L r2 r3 r4] at this
        exact this
      clear HFar HRd ho hown hsz hnl r1 r2 r3 r4 hao hrow
      as_aux_lemma =>
        go_wp2_with fail
        refine (HPr.out).mono ?_
        rintro e w5 ⟨rfl, hb5⟩
        have HC2 : HidC _ _ _ _ _ := HCk.out w5 hb5
        have HB5 : Hid (Below w.heap.size w w5) := HB4.out.trans (hb5.mono HB4.out.size)
        clear HPr HCk HB4 hb5
        go_wp2_with (go_at_call 8; refine (HC2.out).mono ?_; rintro e1 w6 ⟨rfl, hb6⟩)
        go_ret
        exact ⟨rfl, HB5.out.trans (hb6.mono HB5.out.size)⟩
set_option maxRecDepth 100000 in
theorem labelOneForm_lifted (os : Os) (started : os.Started) (H : Type) (enc : TypeId × Value → H) :
    ReturnsInHanded {} Try.checked os 4 .any (Rows.labelOneFormSpec.pre6 enc Try.prog Try.f4 Rows.labelOneFormRow.domain false) (Rows.labelOneFormSpec.post enc Try.prog Try.f4 false true false false) := by
  refine returnsInHanded_of_change_sized (C := Try.checked) own started (by kernel_rfl) Try.func4
    (ChangeSpec.witness6 (enc := enc) (C := Try.checked) false ⟨#[], #[.string ⟨#[]⟩], []⟩ 8 (by kernel_rfl) (by kernel_rfl) (by kernel_rfl) (by kernel_rfl)) ?_
  intro W base args ds gs before hval0 hW _ hsz0 _
  have hsz : (DataW.weightsEach Try.prog (Try.f4.params.toList ++ Rows.labelOneFormSpec.plain.varTypes Try.prog) (ds ++ gs)).all (· ≤ reachBytes) = true := hsz0
  have hval : ∀ (j : Nat) t v, Try.f4.params[j]? = some t → args[j]? = some v → Value.okWide Try.prog W .any base t v := hval0
  have hW' := hW
  obtain ⟨p, q, hA0, hV, rfl, hfz, hnd⟩ := hW
  have hA : DataW.TrodAll enc Try.prog W 0 (fun _ => true) true Try.f4.params.toList args.toList ds p := hA0
  rw [Try.params4] at hA hval hsz
  obtain ⟨v0, d0, rfl, rfl, h0⟩ := trodAll_one hA
  obtain ⟨rfl, rfl⟩ := trodVars_none hV
  clear hA0 hval0 hsz0
  simp only [List.append_nil] at hW'
  have hlt : ∀ x ∈ p, x.block < W.heap.size := fun x hx => by simpa using hW'.lt x hx
  have hw0 : (d0.weights Try.prog 9).all (· ≤ reachBytes) = true := by
    simp only [List.append_nil, List.cons_append, List.nil_append, DataW.weightsEach, List.all_append, Bool.and_eq_true] at hsz
    exact hsz.1
  have hargs : ∀ (W' : World), Below W.heap.size W W' → DataW.TrodAll enc Try.prog W' 0 (fun b => decide (b < W.heap.size)) true [9] [v0] [d0] p := fun W' hn =>
    trodAll_mk1 (Below.trod laidOut (by kernel_rfl) (of_decide_eq_true (by kernel_rfl)) h0 hn (fun x hx => hlt x hx))
  obtain ⟨s, hv0, hd0, _, _⟩ := open_string Try.underlying9 (hval 0 9 v0 rfl rfl) h0
  rw [hd0] at hw0
  have hsl : s.data.toList.length ≤ 140737488351232 := by
    unfold reachBytes at hw0
    simpa [DataW.weights] using hw0
  have hs : s = ⟨s.data.toList.toArray⟩ := ByteArray.ext (by simp)
  have hv : v0 = .string ⟨s.data.toList.toArray⟩ := hv0.trans (congrArg Value.string hs)
  have hwk := oneForm_walk s.data.toList hsl W
  rw [← hv] at hwk
  refine hwk.mono fun e W' ⟨he, hb⟩ => ?_
  subst he
  exact ⟨_, rfl, _, _, _, [], _, [], hW', trodAll_mk1 (shut_bool Try.underlying4 _), hargs W' hb, rfl, hb.frame _, fun h => by cases h⟩
theorem labelOneForm_holds : Rows.LabelOneFormSaid :=
  OpenClaim.holds_of_wide 4 Try.f4 rfl rfl rfl rfl rfl rfl rfl ⟨rfl, rfl, rfl, rfl, rfl⟩ rfl rfl rfl rfl rfl (by kernel_rfl) Try.func4 (by kernel_rfl)
    (of_decide_eq_true (by kernel_rfl)) (by unfold Func.isWrapper; first | (rw [if_pos (by decide +kernel)]; kernel_rfl) | (rw [if_neg (by decide +kernel)]; exact ⟨rfl, rfl⟩))
    (fun os started H enc _ => labelOneForm_lifted os started H enc)
end Go.Proofs.Ytmphajfhilpgeab
