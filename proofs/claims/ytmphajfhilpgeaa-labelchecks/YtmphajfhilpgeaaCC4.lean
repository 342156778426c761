/- LabelChecks: the walk. Own work of the verifier. -/
import Derived.Test.YtmphajfhilpgeaaCC0
import Derived.Test.YtmphajfhilpgeaaCC1
namespace Go.Proofs.Ytmphajfhilpgeaa
open Go.RowKit

theorem ordE_flip (a b : List UInt8) : ordE b a = -ordE a b := by
  unfold ordE bltB
  by_cases h1 : a < b
  · have h2 : ¬ b < a := fun h => List.lt_irrefl _ (List.lt_trans h1 h)
    simp [h1, h2]
  · by_cases h2 : b < a
    · simp [h1, h2]
    · simp [h1, h2]
theorem ordL_flip : ∀ A B : List Lb, ordL B A = -ordL A B
  | [], [] => rfl
  | [], _ :: _ => rfl
  | _ :: _, [] => rfl
  | a :: A, b :: B => by
    rw [ordL, ordL, ordE_flip a.1 b.1, ordE_flip a.2 b.2, ordL_flip A B]
    by_cases h1 : ordE a.1 b.1 = 0
    · simp only [h1, Int.neg_zero, ne_eq, not_true_eq_false, if_false]
      by_cases h2 : ordE a.2 b.2 = 0
      · simp only [h2, Int.neg_zero, not_true_eq_false, if_false]
      · have h3 : ¬ -ordE a.2 b.2 = 0 := by omega
        simp only [h2, h3, not_false_eq_true, if_true]
    · have h3 : ¬ -ordE a.1 b.1 = 0 := by omega
      simp only [ne_eq, h1, h3, not_false_eq_true, if_true]
theorem ordD_flip (d e : Ds) : ordD e d = -ordD d e := by
  unfold ordD
  rw [ordE_flip d.name e.name, ordL_flip d.labels e.labels]
  by_cases h1 : ordE d.name e.name = 0
  · simp only [h1, Int.neg_zero, ne_eq, not_true_eq_false, if_false]
  · have h3 : ¬ -ordE d.name e.name = 0 := by omega
    simp only [ne_eq, h1, h3, not_false_eq_true, if_true]
theorem ordL_range : ∀ A B : List Lb, -1 ≤ ordL A B ∧ ordL A B ≤ 1
  | [], [] => by rw [ordL]; decide
  | [], _ :: _ => by rw [ordL]; decide
  | _ :: _, [] => by rw [ordL]; decide
  | a :: A, b :: B => by
    rw [ordL]
    have i1 := ordE_cases a.1 b.1
    have i2 := ordE_cases a.2 b.2
    have i3 := ordL_range A B
    split
    · omega
    · split
      · omega
      · exact i3
theorem ordD_range (d e : Ds) : -1 ≤ ordD d e ∧ ordD d e ≤ 1 := by
  unfold ordD
  have i1 := ordE_cases d.name e.name
  have i3 := ordL_range d.labels e.labels
  split
  · omega
  · exact i3
/-- The four cells of a description. -/
def C4 (W : World) (g : Nat) (v : Value) : Prop := ∃ c0 c1 c2 c3, v = .agg #[c0, c1, c2, c3] ∧ W.cell? ⟨g, 0, none⟩ = some c0 ∧ W.cell? ⟨g, 1, none⟩ = some c1 ∧ W.cell? ⟨g, 2, none⟩ = some c2 ∧ W.cell? ⟨g, 3, none⟩ = some c3
/-- What stays while LabelChecks goes on. -/
def Hld (p q : Nat) (w0 : World) (a0 a1 a2 a3 b0 b1 b2 b3 : Value) (W : World) : Prop := W.cell? ⟨p, 0, none⟩ = some a0 ∧ W.cell? ⟨p, 1, none⟩ = some a1 ∧ W.cell? ⟨p, 2, none⟩ = some a2 ∧ W.cell? ⟨p, 3, none⟩ = some a3 ∧ W.cell? ⟨q, 0, none⟩ = some b0 ∧ W.cell? ⟨q, 1, none⟩ = some b1 ∧ W.cell? ⟨q, 2, none⟩ = some b2 ∧ W.cell? ⟨q, 3, none⟩ = some b3 ∧ Below w0.heap.size w0 W
theorem Hld.b {p q : Nat} {w0 W : World} {a0 a1 a2 a3 b0 b1 b2 b3 : Value} (h : Hld p q w0 a0 a1 a2 a3 b0 b1 b2 b3 W) : Below w0.heap.size w0 W := h.2.2.2.2.2.2.2.2
theorem Hld.keep {p q : Nat} {w0 W W1 : World} {a0 a1 a2 a3 b0 b1 b2 b3 : Value} (hb : Below W.heap.size W W1) (h : Hld p q w0 a0 a1 a2 a3 b0 b1 b2 b3 W) : Hld p q w0 a0 a1 a2 a3 b0 b1 b2 b3 W1 := by
  obtain ⟨h0, h1, h2, h3, k0, k1, k2, k3, h4⟩ := h
  exact ⟨(hb.cell (lt_of_cell h0)).trans h0, (hb.cell (lt_of_cell h1)).trans h1, (hb.cell (lt_of_cell h2)).trans h2, (hb.cell (lt_of_cell h3)).trans h3, (hb.cell (lt_of_cell k0)).trans k0, (hb.cell (lt_of_cell k1)).trans k1, (hb.cell (lt_of_cell k2)).trans k2, (hb.cell (lt_of_cell k3)).trans k3, h4.trans (hb.mono h4.size)⟩
set_option maxHeartbeats 8000000 in
set_option maxRecDepth 100000 in
theorem checks_walk (d e : Ds) (v u : Value) (w : World) (hd : DsC w d v) (he : DsC w e u) (sd : DsS d) (se : DsS e) :
    Calls Try.prog 5 #[v, u] w fun r w' => r = .returned (.bool true) ∧ Below w.heap.size w w' := by
  have HA : Hid (∀ W, Calls Try.prog 9 #[] W fun r w' => r = .returned (.bool true) ∧ Below W.heap.size W w') := fun W => awake_any W
  have HC1 : Hid (∀ W, Below w.heap.size w W → Calls Try.prog 14 #[v] W fun r w' => r = .returned (.int .i64 (chkD d)) ∧ Below W.heap.size W w') := fun W h => ccheck_any d v W (hd.below h) sd
  have HC2 : Hid (∀ W, Below w.heap.size w W → Calls Try.prog 14 #[u] W fun r w' => r = .returned (.int .i64 (chkD e)) ∧ Below W.heap.size W w') := fun W h => ccheck_any e u W (he.below h) se
  have HR1 : Hid (∀ W, Below w.heap.size w W → Calls Try.prog 15 #[v] W fun r w' => r = .returned (.int .i64 (chkD d)) ∧ Below W.heap.size W w') := fun W h => dcheck_any d v W (hd.below h).at sd
  have HR2 : Hid (∀ W, Below w.heap.size w W → Calls Try.prog 15 #[u] W fun r w' => r = .returned (.int .i64 (chkD e)) ∧ Below W.heap.size W w') := fun W h => dcheck_any e u W (he.below h).at se
  have HO1 : Hid (∀ W, Below w.heap.size w W → Calls Try.prog 16 #[v, u] W fun r w' => r = .returned (.int .i64 (ordD d e)) ∧ Below W.heap.size W w') := fun W h => ccompare_any d e v u W (hd.below h) (he.below h)
  have HO2 : Hid (∀ W, Below w.heap.size w W → Calls Try.prog 16 #[u, v] W fun r w' => r = .returned (.int .i64 (-ordD d e)) ∧ Below W.heap.size W w') := fun W h => by rw [← ordD_flip d e]; exact ccompare_any e d u v W (he.below h) (hd.below h)
  have HO3 : Hid (∀ W, Below w.heap.size w W → Calls Try.prog 17 #[v, u] W fun r w' => r = .returned (.int .i64 (ordD d e)) ∧ Below W.heap.size W w') := fun W h => dcompare_any d e v u W (hd.below h).at (he.below h).at
  have HS1 : Hid (∀ W, Below w.heap.size w W → Calls Try.prog 18 #[v, u] W fun r w' => r = .returned (.bool (decide (d = e))) ∧ Below W.heap.size W w') := fun W h => csame_any d e v u W (hd.below h).at (he.below h).at
  have HS2 : Hid (∀ W, Below w.heap.size w W → Calls Try.prog 19 #[v, u] W fun r w' => r = .returned (.bool (decide (d = e))) ∧ Below W.heap.size W w') := fun W h => dsame_any d e v u W (hd.below h).at (he.below h).at
  have HS3 : Hid (∀ W, Below w.heap.size w W → Calls Try.prog 18 #[v, v] W fun r w' => r = .returned (.bool true) ∧ Below W.heap.size W w') := fun W h => by
    have := csame_any d d v v W (hd.below h).at (hd.below h).at
    rw [show decide (d = d) = true by simp] at this
    exact this
  obtain ⟨hr1, hr2⟩ := ordD_range d e
  generalize ordD d e = z at *
  generalize chkD d = k1 at *
  generalize chkD e = k2 at *
  generalize decide (d = e) = sm at *
  obtain ⟨ao, b, o, cap, hv, _⟩ := hd
  obtain ⟨ao', b', o', cap', hu, _⟩ := he
  have hz : (z == z) = true := by simp
  have hk1 : (k1 == k1) = true := by simp
  have hk2 : (k2 == k2) = true := by simp
  have hsm : (sm == sm) = true := by simp
  have hneg : IntKind.i64.wrap (-z) = -z := by rw [IntKind.wrap_i64]; omega
  obtain ⟨kd, nm, hp, A⟩ := d
  obtain ⟨ke, nm', hp', B⟩ := e
  simp only at *
  have HB0 : Hid (∀ x y, Below w.heap.size w ((w.alloc x).alloc y)) := fun x y => bel2 w x y
  have HK0 : Hid (∀ t, ∀ W, Below ((w.alloc (.cells #[.int .i64 kd, .string ⟨nm.toArray⟩, .string ⟨hp.toArray⟩, .slice ao A.length cap] t)).alloc (.cells #[.int .i64 ke, .string ⟨nm'.toArray⟩, .string ⟨hp'.toArray⟩, .slice ao' B.length cap'] t)).heap.size ((w.alloc (.cells #[.int .i64 kd, .string ⟨nm.toArray⟩, .string ⟨hp.toArray⟩, .slice ao A.length cap] t)).alloc (.cells #[.int .i64 ke, .string ⟨nm'.toArray⟩, .string ⟨hp'.toArray⟩, .slice ao' B.length cap'] t)) W → Hld w.heap.size (w.heap.size + 1) w (.int .i64 kd) (.string ⟨nm.toArray⟩) (.string ⟨hp.toArray⟩) (.slice ao A.length cap) (.int .i64 ke) (.string ⟨nm'.toArray⟩) (.string ⟨hp'.toArray⟩) (.slice ao' B.length cap') W) := fun t W hb => by
    refine Hld.keep hb ⟨?_, ?_, ?_, ?_, ?_, ?_, ?_, ?_, bel2 w _ _⟩ <;> simp [go_sem]
  generalize A.length = lA at *
  generalize B.length = lB at *
  generalize (⟨nm.toArray⟩ : ByteArray) = nA at *
  generalize (⟨hp.toArray⟩ : ByteArray) = hA at *
  generalize (⟨nm'.toArray⟩ : ByteArray) = nB at *
  generalize (⟨hp'.toArray⟩ : ByteArray) = hB at *
  subst hv hu
  clear sd se
  go_enter Try.func5, Try.ntmps5
  go_wp2_with fail
  refine (HA.out _).mono ?_
  rintro r w1 ⟨rfl, hb⟩
  have hG0 : Hld w.heap.size (w.heap.size + 1) w (.int .i64 kd) (.string nA) (.string hA) (.slice ao lA cap) (.int .i64 ke) (.string nB) (.string hB) (.slice ao' lB cap') w1 := HK0.out _ _ hb
  clear HA HK0 HB0 hb
  go_wp2_with fail
  go_region_held3 (fun W => W.cell? ⟨w.heap.size, 0, none⟩ = some (.int .i64 kd) ∧ W.cell? ⟨w.heap.size, 1, none⟩ = some (.string nA) ∧ W.cell? ⟨w.heap.size, 2, none⟩ = some (.string hA) ∧ W.cell? ⟨w.heap.size, 3, none⟩ = some (.slice ao lA cap) ∧ W.cell? ⟨w.heap.size + 1, 0, none⟩ = some (.int .i64 ke) ∧ W.cell? ⟨w.heap.size + 1, 1, none⟩ = some (.string nB) ∧ W.cell? ⟨w.heap.size + 1, 2, none⟩ = some (.string hB) ∧ W.cell? ⟨w.heap.size + 1, 3, none⟩ = some (.slice ao' lB cap') ∧ Below w.heap.size w W)
    (first | assumption | exact Hld.keep (by assumption) (by assumption) | exact Hld.keep (bel_drew (Below.refl _ _)) hG0 | exact Hld.keep (bel_drewN (Below.refl _ _) _) hG0)
    (first
      | (go_at_call 14; with_reducible refine (HC1.out _ (Hld.b (by first | assumption | exact Hld.keep (bel_drew (Below.refl _ _)) hG0 | exact Hld.keep (bel_drewN (Below.refl _ _) _) hG0))).mono ?_; rintro r w1 ⟨rfl, hb1⟩; have hG1 := Hld.keep hb1 (by first | assumption | exact Hld.keep (bel_drew (Below.refl _ _)) hG0 | exact Hld.keep (bel_drewN (Below.refl _ _) _) hG0))
      | (go_at_call 14; with_reducible refine (HC2.out _ (Hld.b (by first | assumption | exact Hld.keep (bel_drew (Below.refl _ _)) hG0 | exact Hld.keep (bel_drewN (Below.refl _ _) _) hG0))).mono ?_; rintro r w1 ⟨rfl, hb1⟩; have hG1 := Hld.keep hb1 (by first | assumption | exact Hld.keep (bel_drew (Below.refl _ _)) hG0 | exact Hld.keep (bel_drewN (Below.refl _ _) _) hG0))
      | (go_at_call 15; with_reducible refine (HR1.out _ (Hld.b (by first | assumption | exact Hld.keep (bel_drew (Below.refl _ _)) hG0 | exact Hld.keep (bel_drewN (Below.refl _ _) _) hG0))).mono ?_; rintro r w1 ⟨rfl, hb1⟩; have hG1 := Hld.keep hb1 (by first | assumption | exact Hld.keep (bel_drew (Below.refl _ _)) hG0 | exact Hld.keep (bel_drewN (Below.refl _ _) _) hG0))
      | (go_at_call 15; with_reducible refine (HR2.out _ (Hld.b (by first | assumption | exact Hld.keep (bel_drew (Below.refl _ _)) hG0 | exact Hld.keep (bel_drewN (Below.refl _ _) _) hG0))).mono ?_; rintro r w1 ⟨rfl, hb1⟩; have hG1 := Hld.keep hb1 (by first | assumption | exact Hld.keep (bel_drew (Below.refl _ _)) hG0 | exact Hld.keep (bel_drewN (Below.refl _ _) _) hG0))
      | (go_at_call 16; with_reducible refine (HO1.out _ (Hld.b (by first | assumption | exact Hld.keep (bel_drew (Below.refl _ _)) hG0 | exact Hld.keep (bel_drewN (Below.refl _ _) _) hG0))).mono ?_; rintro r w1 ⟨rfl, hb1⟩; have hG1 := Hld.keep hb1 (by first | assumption | exact Hld.keep (bel_drew (Below.refl _ _)) hG0 | exact Hld.keep (bel_drewN (Below.refl _ _) _) hG0))
      | (go_at_call 16; with_reducible refine (HO2.out _ (Hld.b (by first | assumption | exact Hld.keep (bel_drew (Below.refl _ _)) hG0 | exact Hld.keep (bel_drewN (Below.refl _ _) _) hG0))).mono ?_; rintro r w1 ⟨rfl, hb1⟩; have hG1 := Hld.keep hb1 (by first | assumption | exact Hld.keep (bel_drew (Below.refl _ _)) hG0 | exact Hld.keep (bel_drewN (Below.refl _ _) _) hG0))
      | (go_at_call 17; with_reducible refine (HO3.out _ (Hld.b (by first | assumption | exact Hld.keep (bel_drew (Below.refl _ _)) hG0 | exact Hld.keep (bel_drewN (Below.refl _ _) _) hG0))).mono ?_; rintro r w1 ⟨rfl, hb1⟩; have hG1 := Hld.keep hb1 (by first | assumption | exact Hld.keep (bel_drew (Below.refl _ _)) hG0 | exact Hld.keep (bel_drewN (Below.refl _ _) _) hG0))
      | (go_at_call 18; with_reducible refine (HS1.out _ (Hld.b (by first | assumption | exact Hld.keep (bel_drew (Below.refl _ _)) hG0 | exact Hld.keep (bel_drewN (Below.refl _ _) _) hG0))).mono ?_; rintro r w1 ⟨rfl, hb1⟩; have hG1 := Hld.keep hb1 (by first | assumption | exact Hld.keep (bel_drew (Below.refl _ _)) hG0 | exact Hld.keep (bel_drewN (Below.refl _ _) _) hG0))
      | (go_at_call 18; with_reducible refine (HS3.out _ (Hld.b (by first | assumption | exact Hld.keep (bel_drew (Below.refl _ _)) hG0 | exact Hld.keep (bel_drewN (Below.refl _ _) _) hG0))).mono ?_; rintro r w1 ⟨rfl, hb1⟩; have hG1 := Hld.keep hb1 (by first | assumption | exact Hld.keep (bel_drew (Below.refl _ _)) hG0 | exact Hld.keep (bel_drewN (Below.refl _ _) _) hG0))
      | (go_at_call 19; with_reducible refine (HS2.out _ (Hld.b (by first | assumption | exact Hld.keep (bel_drew (Below.refl _ _)) hG0 | exact Hld.keep (bel_drewN (Below.refl _ _) _) hG0))).mono ?_; rintro r w1 ⟨rfl, hb1⟩; have hG1 := Hld.keep hb1 (by first | assumption | exact Hld.keep (bel_drew (Below.refl _ _)) hG0 | exact Hld.keep (bel_drewN (Below.refl _ _) _) hG0)))
  go_wp2_with fail
  go_ret
  exact ⟨rfl, Hld.b (by assumption)⟩
end Go.Proofs.Ytmphajfhilpgeaa
