/- awake. Own work of the verifier. -/
import Derived.Test.YtmphajfhilpgeabCB8
namespace Go.Proofs.Ytmphajfhilpgeab
open Go.RowKit

theorem utf_49 : utfB [49] = true := by
  rw [utfB, if_pos (by decide), utfB]
theorem tx_49 : txE [49] = 0 := by
  unfold txE
  rw [if_neg (by decide), utf_49]
  rfl
theorem one_aw : oneR [97, 123, 120, 61, 34, 49, 34, 125] 2 [] = .ok (([120], [49]), 7) := by
  have hv : valR (([97, 123, 120, 61, 34, 49, 34, 125] : List UInt8).drop 5) 5 = .ok ([49], 7) := by kernel_rfl
  have hr : rowN false (([97, 123, 120, 61, 34, 49, 34, 125] : List UInt8).drop 2) = 1 := by decide +kernel
  have hn : nmAt [97, 123, 120, 61, 34, 49, 34, 125] 2 = [120] := by unfold nmAt; rw [hr]; rfl
  unfold oneR
  rw [hr, hn]
  rw [if_neg (by decide), if_neg (by decide +kernel), if_neg (by decide), if_neg (by decide), if_neg (by decide)]
  show (match valR (([97, 123, 120, 61, 34, 49, 34, 125] : List UInt8).drop 5) 5 with
    | .error e => (.error e : Except (Int × Nat) (Lb × Nat))
    | .ok q => if txE q.1 ≠ 0 then .error (txE q.1, 5) else .ok (([120], q.1), q.2)) = _
  rw [hv]
  simp only
  rw [if_neg (by rw [tx_49]; decide)]
theorem par_aw : parR [97, 123, 120, 61, 34, 49, 34, 125] = .ok ([97], [([120], [49])]) := by
  have hr : rowN true ([97, 123, 120, 61, 34, 49, 34, 125] : List UInt8) = 1 := by decide +kernel
  unfold parR
  rw [hr, if_neg (by decide +kernel), if_neg (by decide), if_neg (by decide +kernel), labsF, one_aw]
  rfl
theorem par_aw2 : parR [97, 123, 125] = .error (9, 2) := by
  have hr : rowN true ([97, 123, 125] : List UInt8) = 1 := by decide +kernel
  have ho : oneR [97, 123, 125] 2 [] = .error (9, 2) := by
    have hr2 : rowN false (([97, 123, 125] : List UInt8).drop 2) = 0 := by decide +kernel
    have hn : nmAt [97, 123, 125] 2 = [] := by unfold nmAt; rw [hr2]; rfl
    unfold oneR
    rw [hn, if_neg (by decide), if_pos (by decide +kernel)]
  unfold parR
  rw [hr, if_neg (by decide +kernel), if_neg (by decide), if_neg (by decide +kernel), labsF, ho]
set_option maxHeartbeats 4000000 in
set_option maxRecDepth 100000 in
theorem awake_any (w : World) :
    Calls Try.prog 7 #[] w fun r w' => r = .returned (.bool true) ∧ Below w.heap.size w w' := by
  have HP1 : HidC _ _ _ _ _ := cparse_any [97, 123, 120, 61, 34, 49, 34, 125] (by decide) w
  have HP2 : Hid (∀ W, Calls Try.prog 10 #[.string ⟨#[97, 123, 125]⟩] W fun r w' => TellsC [97, 123, 125] W.heap.size r w' ∧ Below W.heap.size W w') := fun W => cparse_any [97, 123, 125] (by decide) W
  have HU : Hid (∀ W, Calls Try.prog 11 #[.string ⟨#[97, 92, 110]⟩] W fun r w' => TellsU [97, 92, 110] r ∧ Below W.heap.size W w') := fun W => cunhelp_any [97, 92, 110] (by decide) W
  have HN1 : Hid (∀ W, Calls Try.prog 20 #[.string ⟨#[97, 58, 98]⟩] W fun r w' => r = .returned (.bool true) ∧ w' = W) := fun W => by
    have := cname_any [97, 58, 98] (by decide) W
    rw [show nameB [97, 58, 98] = true by decide +kernel] at this
    exact this
  have HN2 : Hid (∀ W, Calls Try.prog 20 #[.string ⟨#[97, 95, 115, 117, 109]⟩] W fun r w' => r = .returned (.bool false) ∧ w' = W) := fun W => by
    have := cname_any [97, 95, 115, 117, 109] (by decide) W
    rw [show nameB [97, 95, 115, 117, 109] = false by decide +kernel] at this
    exact this
  have HN3 : Hid (∀ W, Calls Try.prog 21 #[.string ⟨#[120]⟩] W fun r w' => r = .returned (.bool true) ∧ w' = W) := fun W => by
    have := clname_any [120] (by decide) W
    rw [show lnameB [120] = true by decide +kernel] at this
    exact this
  have HPr : Hid (∀ W, Calls Try.prog 9 #[.string ⟨#[97]⟩, .slice none 0 0] W fun r w' => r = .returned (.string ⟨#[97]⟩) ∧ Below W.heap.size W w') := fun W =>
    cprint_any [97] none 0 0 0 [] (fun h => absurd rfl h) (by decide) (fun a h => by cases h) (by decide) W (fun i hi => by simp at hi)
  go_enter Try.func7, Try.ntmps7
  go_wp2_with fail
  refine (HP1.out).mono ?_
  rintro e w1 ⟨hT, hb1⟩
  clear HP1
  rcases hT with ⟨z, k, ho, _⟩ | ⟨n, L, v, ho, rfl, hown⟩
  · rw [par_aw] at ho; cases ho
  rw [par_aw] at ho
  cases ho
  obtain ⟨ao, b, cap, rfl, hao, hrow, _, _⟩ := hown.open
  obtain rfl := hao (by simp)
  have HB1 : Hid (Below w.heap.size w w1) := hb1
  have HR1 : Hid (RowL w1 b 0 [([120], [49])]) := hrow
  clear hb1 hrow hown hao
  go_wp2_with fail
  refine (HP2.out _).mono ?_
  rintro e w2 ⟨hT, hb2⟩
  clear HP2
  rcases hT with ⟨z, k, ho, _, rfl⟩ | ⟨n, L, v, ho, _⟩
  rotate_left
  · rw [par_aw2] at ho; cases ho
  rw [par_aw2] at ho
  cases ho
  have HB2 : Hid (Below w.heap.size w w2) := HB1.out.trans (hb2.mono HB1.out.size)
  have HR2 : Hid (RowL w2 b 0 [([120], [49])]) := RowL.below HR1.out hb2
  clear hb2 HB1 HR1
  go_wp2_with fail
  refine (HU.out _).mono ?_
  rintro e w3 ⟨hT, hb3⟩
  clear HU
  rcases hT with ⟨t, ho, rfl⟩ | ⟨ho, _⟩
  rotate_left
  · exact absurd ho (by decide +kernel)
  have ht : t = [97, 10] := by
    have : unL [97, 92, 110] = some [97, 10] := by decide +kernel
    rw [this] at ho
    exact (Option.some.inj ho).symm
  subst ht
  have HB3 : Hid (Below w.heap.size w w3) := HB2.out.trans (hb3.mono HB2.out.size)
  have c1 := (RowL.below HR2.out hb3 0 (by decide)).2
  clear hb3 HB2 HR2 ho
  go_wp2_with (first | (go_at_call 20; first | (with_reducible refine (HN1.out _).mono ?_; rintro e1 w1 ⟨rfl, rfl⟩) | (with_reducible refine (HN2.out _).mono ?_; rintro e1 w1 ⟨rfl, rfl⟩)) | (go_at_call 21; refine (HN3.out _).mono ?_; rintro e1 w1 ⟨rfl, rfl⟩) | (go_at_call 9; refine (HPr.out _).mono ?_; rintro e1 w4 ⟨rfl, hb4⟩))
  go_ret
  exact ⟨rfl, HB3.out.trans (hb4.mono HB3.out.size)⟩
end Go.Proofs.Ytmphajfhilpgeab
