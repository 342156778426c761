/- SlabCells: the walk. Own work of the verifier. -/
import Derived.Test.YtpiebfdcddjneaaS16
import Derived.Test.YtpiebfdcddjneaaS12h
import Derived.Test.YtpiebfdcddjneaaS12s
namespace Go.Proofs.Ytpiebfdcddjneaa
open Go.RowKit

theorem wid_none {k p : Int} (h1 : ¬ k = 1) (h2 : ¬ k = 2) (h3 : ¬ k = 3) : widF k p = 0 := by unfold widF; rw [if_neg h1, if_neg h2, if_neg h3]
theorem wid_some {k p : Int} (h : k = 1 ∨ k = 2 ∨ k = 3) : 2 ≤ widF k p := by
  rcases h with rfl | rfl | rfl
  · simp [widF]
  · simp [widF]
  · simp [widF]
theorem cel_none {k s p : Int} (h : widF k p = 0) : celF k s p = 0 := by unfold celF; rw [h]; split <;> simp
theorem cel_not {k s p : Int} (h : ¬ okS s p) : celF k s p = 0 := by unfold celF; rw [if_neg h]
theorem cel_pos {k s p : Int} (h : okS s p) (hk : 2 ≤ widF k p) : ¬ celF k s p = 0 := by
  unfold celF; rw [if_pos h]
  obtain ⟨h1, _⟩ := h
  have : 0 < 2 * s * (widF k p : Int) := Int.mul_pos (by omega) (by omega)
  omega
theorem cellsC_any (k s p : Int) (w : World) : Calls Try.prog 5 #[.int .i64 k, .int .i64 s, .int .i64 p] w fun e w' => e = .returned (.int .i64 (celF k s p)) ∧ Hid (Below w.heap.size w w') := by
  by_cases h1 : k = 1
  · subst h1; exact cells_counter s p w
  · by_cases h2 : k = 2
    · subst h2; exact cells_histogram s p w
    · by_cases h3 : k = 3
      · subst h3; exact cells_summary s p w
      · rw [cel_none (wid_none h1 h2 h3)]
        exact cells_none k s p h1 h2 h3 w
theorem newC_err (k s p : Int) (h : ¬ errF k s p = 0) (w : World) : Calls Try.prog 7 #[.int .i64 k, .int .i64 s, .int .i64 p] w fun e w' => e = .returned (.tuple #[.pointer none, .int .i64 (errF k s p)]) ∧ Hid (Below w.heap.size w w') := by
  by_cases hk : k = 1 ∨ k = 2 ∨ k = 3
  · have hw := wid_some (p := 1) hk
    have hwp := wid_some (p := p) hk
    by_cases ho : okS s p
    · have hc := cel_pos ho hwp
      have e13 : 1048576 < celF k s p ∧ errF k s p = 13 := by
        unfold errF at *
        rw [if_neg (by omega), if_neg hc] at *
        by_cases c : 1048576 < celF k s p
        · exact ⟨c, if_pos c⟩
        · rw [if_neg c] at h; exact absurd rfl h
      rw [e13.2]
      rcases hk with rfl | rfl | rfl
      · exact new_room_counter s p ho e13.1 w
      · exact new_room_histogram s p ho e13.1 w
      · exact new_room_summary s p ho e13.1 w
    · have e1 : errF k s p = 1 := by unfold errF; rw [if_neg (by omega), if_pos (cel_not ho)]
      rw [e1]
      rcases hk with rfl | rfl | rfl
      · exact new_arg_counter s p ho w
      · exact new_arg_histogram s p ho w
      · exact new_arg_summary s p ho w
  · have h1 : ¬ k = 1 := fun c => hk (Or.inl c)
    have h2 : ¬ k = 2 := fun c => hk (Or.inr (Or.inl c))
    have h3 : ¬ k = 3 := fun c => hk (Or.inr (Or.inr c))
    have e7 : errF k s p = 7 := by unfold errF; rw [if_pos (wid_none h1 h2 h3)]
    rw [e7]
    exact new_none k s p h1 h2 h3 w
theorem newC_ok (k s p : Int) (h : errF k s p = 0) (w : World) : Calls Try.prog 7 #[.int .i64 k, .int .i64 s, .int .i64 p] w fun e w' => ∃ sb, e = .returned (.tuple #[.pointer (some ⟨sb, 0, none⟩), .int .i64 0]) ∧ Hid (∀ W, Below w'.heap.size w' W → Calls Try.prog 9 #[.pointer (some ⟨sb, 0, none⟩)] W fun e W' => e = .returned (.int .i64 k) ∧ W' = W) ∧ Hid (Below w.heap.size w w') := by
  have hk : k = 1 ∨ k = 2 ∨ k = 3 := by
    by_cases h1 : k = 1
    · exact Or.inl h1
    · by_cases h2 : k = 2
      · exact Or.inr (Or.inl h2)
      · by_cases h3 : k = 3
        · exact Or.inr (Or.inr h3)
        · unfold errF at h; rw [if_pos (wid_none h1 h2 h3)] at h; cases h
  have hw := wid_some (p := 1) hk
  unfold errF at h
  rw [if_neg (by omega)] at h
  have ho : okS s p := Classical.byContradiction fun c => by rw [if_pos (cel_not c)] at h; cases h
  rw [if_neg (cel_pos ho (wid_some hk))] at h
  have hc : ¬ 1048576 < celF k s p := fun c => by rw [if_pos c] at h; cases h
  obtain ⟨s1, s2, p1, p2⟩ := ho
  obtain ⟨n, rfl⟩ := Int.eq_ofNat_of_zero_le (by omega : 0 ≤ s)
  rcases hk with rfl | rfl | rfl
  · refine Calls.mono (new_counter n p (by omega) (by omega) p1 p2 (by omega) w) ?_
    rintro e w' ⟨sb, c, hh, G, rfl, hS, hb, _⟩
    exact ⟨sb, rfl, fun W hW => kind_counter sb c W ((hW.cell (p := ⟨sb, 0, none⟩) (lt_of_cell hS.slab)).trans hS.slab), hb⟩
  · refine Calls.mono (new_histogram n p (by omega) (by omega) p1 p2 (Lg p) rfl (by omega) w) ?_
    rintro e w' ⟨sb, c, hh, G, rfl, hS, hb, _⟩
    exact ⟨sb, rfl, fun W hW => kind_histogram sb c W ((hW.cell (p := ⟨sb, 0, none⟩) (lt_of_cell hS.slab)).trans hS.slab), hb⟩
  · refine Calls.mono (new_summary n p (by omega) (by omega) p1 p2 (by omega) w) ?_
    rintro e w' ⟨sb, c, hh, G, rfl, hS, hb, _⟩
    exact ⟨sb, rfl, fun W hW => kind_summary sb c W ((hW.cell (p := ⟨sb, 0, none⟩) (lt_of_cell hS.slab)).trans hS.slab), hb⟩
theorem newR_any (k s p : Int) (w : World) : Calls Try.prog 8 #[.int .i64 k, .int .i64 s, .int .i64 p] w fun e w' => ∃ v, e = .returned (.tuple #[v, .int .i64 (errF k s p)]) ∧ Hid (Below w.heap.size w w') := by
  unfold errF
  by_cases hk : widF k 1 = 0
  · rw [if_pos hk]
    exact (rnew_none k s p hk w).mono fun e w' ⟨⟨v, h1⟩, h2⟩ => ⟨v, h1, h2⟩
  · rw [if_neg hk]
    by_cases h0 : celF k s p = 0
    · rw [if_pos h0]
      exact (rnew_arg k s p hk h0 w).mono fun e w' ⟨⟨v, h1⟩, h2⟩ => ⟨v, h1, h2⟩
    · rw [if_neg h0]
      by_cases h1 : 1048576 < celF k s p
      · rw [if_pos h1]
        exact (rnew_room k s p hk h0 h1 w).mono fun e w' ⟨⟨v, h1⟩, h2⟩ => ⟨v, h1, h2⟩
      · rw [if_neg h1]
        have ho : okS s p := Classical.byContradiction fun c => h0 (cel_not c)
        obtain ⟨n, rfl⟩ := Int.eq_ofNat_of_zero_le (by have := ho.1; omega : 0 ≤ s)
        exact (rnew_ok k p n (widF k p) (by have := ho.2.1; omega) hk h0 h1 rfl w).mono fun e w' ⟨⟨v, h1⟩, h2⟩ => ⟨v, h1, h2⟩
set_option maxRecDepth 10000 in
set_option maxHeartbeats 4000000 in
theorem slabCells_walk (k s p : Int) (w : World) : Calls Try.prog 3 #[.int .i64 k, .int .i64 s, .int .i64 p] w fun e w' => e = .returned (.bool true) ∧ Below w.heap.size w w' := by
  have HF : Hid (∀ W, Calls Try.prog 4 #[] W fun e w' => e = .returned (.bool true) ∧ Hid (Below W.heap.size W w')) := fixed_any
  have HC : Hid (∀ W, _) := cellsC_any k s p
  have HR : Hid (∀ W, _) := rcells_any k s p
  have HN : Hid (∀ W, _) := newR_any k s p
  by_cases h : errF k s p = 0
  · have HO : Hid (∀ W, _) := newC_ok k s p h
    rw [h] at HN
    clear h
    generalize celF k s p = q at *
    go_enter Try.func3, Try.ntmps3
    go_wp2_with (first
      | (go_at_call 4; with_reducible refine Calls.mono (HF.out _) ?_; rintro e w1 ⟨rfl, HB1⟩)
      | (go_at_call 5; with_reducible refine Calls.mono (HC.out _) ?_; rintro e w2 ⟨rfl, HB2⟩)
      | (go_at_call 6; with_reducible refine Calls.mono (HR.out _) ?_; rintro e w2 ⟨rfl, rfl⟩)
      | (go_at_call 7; with_reducible refine Calls.mono (HO.out _) ?_; rintro e w3 ⟨sb, rfl, HK, HB3⟩)
      | (go_at_call 8; with_reducible refine Calls.mono (HN.out _) ?_; rintro e w4 ⟨v, rfl, HB4⟩)
      | (go_at_call 9; with_reducible refine Calls.mono (HK.out _ HB4.out) ?_; rintro e w4 ⟨rfl, rfl⟩))
    go_ret
    exact ⟨rfl, bt (bt (bt HB1.out HB2.out) HB3.out) HB4.out⟩
  · have HO : Hid (∀ W, _) := newC_err k s p h
    have t1 : (errF k s p != 0) = true := by simpa using h
    clear h
    generalize celF k s p = q at *
    generalize errF k s p = f at *
    go_enter Try.func3, Try.ntmps3
    go_wp2_with (first
      | (go_at_call 4; with_reducible refine Calls.mono (HF.out _) ?_; rintro e w1 ⟨rfl, HB1⟩)
      | (go_at_call 5; with_reducible refine Calls.mono (HC.out _) ?_; rintro e w2 ⟨rfl, HB2⟩)
      | (go_at_call 6; with_reducible refine Calls.mono (HR.out _) ?_; rintro e w2 ⟨rfl, rfl⟩)
      | (go_at_call 7; with_reducible refine Calls.mono (HO.out _) ?_; rintro e w3 ⟨rfl, HB3⟩)
      | (go_at_call 8; with_reducible refine Calls.mono (HN.out _) ?_; rintro e w4 ⟨v, rfl, HB4⟩))
    go_ret
    exact ⟨rfl, bt (bt (bt HB1.out HB2.out) HB3.out) HB4.out⟩
end Go.Proofs.Ytpiebfdcddjneaa
