/- LabelReturns: the walk. Own work of the verifier. -/
import Derived.Test.YtmphajfhilpgeabCC4
import Derived.Test.YtmphajfhilpgeabCC6
import Derived.Test.YtmphajfhilpgeabCN1
namespace Go.Proofs.Ytmphajfhilpgeab
open Go.RowKit

theorem chkD_zero {d : Ds} (h : chkD d = 0) : nameB d.name = true ∧ txE d.help = 0 ∧ d.labels.length ≤ 16 ∧ chkL d.labels none = 0 := by
  unfold chkD at h
  split at h
  · exact absurd h (by decide)
  split at h
  · exact absurd h (by decide)
  rename_i h2
  split at h
  · rename_i h3; exact absurd h h3
  rename_i h3
  split at h
  · exact absurd h (by decide)
  rename_i h4
  exact ⟨by simpa using h2, by simpa using h3, by omega, h⟩
theorem wgt_small : ∀ (L : List Lb), (∀ a ∈ L, a.1.length ≤ 64 ∧ a.2.length ≤ 1024) → wgt L ≤ L.length * 1096
  | [], _ => by simp [wgt]
  | a :: r, h => by
    rw [wgt, List.length_cons]
    have h1 := h a (List.mem_cons_self ..)
    have h2 := wgt_small r (fun b hb => h b (List.mem_cons_of_mem _ hb))
    omega
theorem print_small {d : Ds} (h : chkD d = 0) : (printT d.name d.labels).length ≤ 100000 := by
  obtain ⟨h1, _, h3, h4⟩ := chkD_zero h
  have e1 := print_len d.name d.labels
  have e2 := wgt_small d.labels (chk_sizes d.labels none h4)
  have e3 := (plain_row (name_plain h1)).2
  have : d.labels.length * 1096 ≤ 16 * 1096 := Nat.mul_le_mul_right _ h3
  omega
theorem print_inj {d e : Ds} (h : chkD d = 0) (k : chkD e = 0) : printT d.name d.labels = printT e.name e.labels ↔ d.name = e.name ∧ d.labels = e.labels := by
  obtain ⟨h1, _, h3, h4⟩ := chkD_zero h
  obtain ⟨k1, _, k3, k4⟩ := chkD_zero k
  constructor
  · intro heq
    have e1 := par_print d.name d.labels h1 h3 h4
    have e2 := par_print e.name e.labels k1 k3 k4
    rw [heq, e2] at e1
    injection e1 with e3
    injection e3 with e4 e5
    exact ⟨e4.symm, e5.symm⟩
  · rintro ⟨e1, e2⟩
    rw [e1, e2]
theorem Hld.all {p q : Nat} {w0 W : World} {a0 a1 a2 a3 b0 b1 b2 b3 : Value} (h : Hld p q w0 a0 a1 a2 a3 b0 b1 b2 b3 W) : W.cell? ⟨p, 0, none⟩ = some a0 ∧ W.cell? ⟨p, 1, none⟩ = some a1 ∧ W.cell? ⟨p, 2, none⟩ = some a2 ∧ W.cell? ⟨p, 3, none⟩ = some a3 ∧ W.cell? ⟨q, 0, none⟩ = some b0 ∧ W.cell? ⟨q, 1, none⟩ = some b1 ∧ W.cell? ⟨q, 2, none⟩ = some b2 ∧ W.cell? ⟨q, 3, none⟩ = some b3 ∧ Below w0.heap.size w0 W := h
set_option maxHeartbeats 8000000 in
set_option maxRecDepth 100000 in
theorem returns_walk (d e : Ds) (v u : Value) (w : World) (hd : DsC w d v) (he : DsC w e u) (sd : DsS d) (se : DsS e) :
    Calls Try.prog 3 #[v, u] w fun r w' => r = .returned (.bool true) ∧ Below w.heap.size w w' := by
  have HA : Hid (∀ W, Calls Try.prog 7 #[] W fun r w' => r = .returned (.bool true) ∧ Below W.heap.size W w') := fun W => awake_any W
  have HC1 : Hid (∀ W, Below w.heap.size w W → Calls Try.prog 8 #[v] W fun r w' => r = .returned (.int .i64 (chkD d)) ∧ Below W.heap.size W w') := fun W h => ccheck_any d v W (hd.below h) sd
  have HC2 : Hid (∀ W, Below w.heap.size w W → Calls Try.prog 8 #[u] W fun r w' => r = .returned (.int .i64 (chkD e)) ∧ Below W.heap.size W w') := fun W h => ccheck_any e u W (he.below h) se
  have HO1 : Hid (∀ W, Below w.heap.size w W → Calls Try.prog 13 #[v, u] W fun r w' => r = .returned (.int .i64 (ordD d e)) ∧ Below W.heap.size W w') := fun W h => ccompare_any d e v u W (hd.below h) (he.below h)
  obtain ⟨ao, b, o, cap, hv, h1, h2, h3, h4⟩ := hd
  obtain ⟨ao', b', o', cap', hu, k1, k2, k3, k4⟩ := he
  have HP1 : Hid (chkD d = 0 → ∀ W, Below w.heap.size w W → Calls Try.prog 9 #[.string ⟨d.name.toArray⟩, .slice ao d.labels.length cap] W fun r w' => r = .returned (.string ⟨(printT d.name d.labels).toArray⟩) ∧ Below W.heap.size W w') := fun hc W h => cprint_any d.name ao b o cap d.labels h1 (by omega) (fun a ha => by have := ((sd.2.2) a ha).2; omega) (by have := print_small hc; omega) W (h4.below h)
  have HP2 : Hid (chkD e = 0 → ∀ W, Below w.heap.size w W → Calls Try.prog 9 #[.string ⟨e.name.toArray⟩, .slice ao' e.labels.length cap'] W fun r w' => r = .returned (.string ⟨(printT e.name e.labels).toArray⟩) ∧ Below W.heap.size W w') := fun hc W h => cprint_any e.name ao' b' o' cap' e.labels k1 (by omega) (fun a ha => by have := ((se.2.2) a ha).2; omega) (by have := print_small hc; omega) W (k4.below h)
  have HPa : Hid (chkD d = 0 → ∀ W, Calls Try.prog 10 #[.string ⟨(printT d.name d.labels).toArray⟩] W fun r w' => (∃ x, r = .returned (.tuple #[.string ⟨d.name.toArray⟩, x, .int .i64 0, .int .i64 0]) ∧ OwnL W.heap.size x d.labels w') ∧ Below W.heap.size W w') := fun hc W => by
    refine (cparse_any (printT d.name d.labels) (by have := print_small hc; omega) W).mono ?_
    rintro r w' ⟨hT, hb⟩
    obtain ⟨c1, _, c3, c4⟩ := chkD_zero hc
    have hp := par_print d.name d.labels c1 c3 c4
    rcases hT with ⟨z, k, ho, _⟩ | ⟨n, L, x, ho, rfl, hown⟩
    · rw [hp] at ho; cases ho
    · rw [hp] at ho
      cases ho
      exact ⟨⟨x, rfl, hown⟩, hb⟩
  have HH : Hid (chkD d = 0 → ∀ W, Calls Try.prog 12 #[.string ⟨d.help.toArray⟩] W fun r w' => r = .returned (.string ⟨(escL false d.help).toArray⟩) ∧ Below W.heap.size W w') := fun hc W => by
    have l1 := tx_len (chkD_zero hc).2.1
    have l2 := escL_len false d.help
    exact chelp_any d.help (by omega) (by omega) W
  have HU : Hid (chkD d = 0 → ∀ W, Calls Try.prog 11 #[.string ⟨(escL false d.help).toArray⟩] W fun r w' => r = .returned (.tuple #[.string ⟨d.help.toArray⟩, .bool true]) ∧ Below W.heap.size W w') := fun hc W => by
    have l1 := tx_len (chkD_zero hc).2.1
    have l2 := escL_len false d.help
    refine (cunhelp_any (escL false d.help) (by omega) W).mono ?_
    rintro r w' ⟨hT, hb⟩
    rcases hT with ⟨t, ho, rfl⟩ | ⟨ho, _⟩
    · rw [esc_un] at ho
      cases ho
      exact ⟨rfl, hb⟩
    · rw [esc_un] at ho; cases ho
  have HSm : Hid (∀ W, Below w.heap.size w W → Calls Try.prog 14 #[.slice ao d.labels.length cap, .slice ao' e.labels.length cap'] W fun r w' => r = .returned (.bool (decide (d.labels = e.labels))) ∧ Below W.heap.size W w') := fun W h => by
    refine (samel_any ao b o cap d.labels h1 ao' b' o' cap' e.labels k1 (by omega) W (h4.below h) (k4.below h)).mono ?_
    rintro r w' ⟨rfl, n, rfl⟩
    exact ⟨rfl, below_drewN W n⟩
  have HS2 : Hid (∀ W x B, Below w.heap.size w W → OwnL B x d.labels W → Calls Try.prog 14 #[x, .slice ao d.labels.length cap] W fun r w' => r = .returned (.bool true) ∧ Below W.heap.size W w') := fun W x B h hx => by
    obtain ⟨ax, bx, cx, rfl, j1, j2, j3, j4⟩ := hx.open
    refine (samel_any ax bx 0 cx d.labels j1 ao b o cap d.labels h1 (by omega) W j2 (h4.below h)).mono ?_
    rintro r w' ⟨rfl, n, rfl⟩
    exact ⟨by simp, below_drewN W n⟩
  have HInj : Hid (chkD d = 0 → chkD e = 0 → (printT d.name d.labels = printT e.name e.labels ↔ d.name = e.name ∧ d.labels = e.labels)) := fun a b => print_inj a b
  have HZ : Hid (ordD d e = 0 ↔ d.name = e.name ∧ d.labels = e.labels) := ordD_zero d e
  subst hv hu
  clear sd se h1 h2 h3 h4 k1 k2 k3 k4
  obtain ⟨kd, nm, hp, A⟩ := d
  obtain ⟨ke, nm', hp', B⟩ := e
  simp only at HC1 HC2 HO1 HP1 HP2 HPa HH HU HSm HS2 HInj HZ ⊢
  have HK0 : Hid (∀ t, ∀ W, Below ((w.alloc (.cells #[.int .i64 kd, .string ⟨nm.toArray⟩, .string ⟨hp.toArray⟩, .slice ao A.length cap] t)).alloc (.cells #[.int .i64 ke, .string ⟨nm'.toArray⟩, .string ⟨hp'.toArray⟩, .slice ao' B.length cap'] t)).heap.size ((w.alloc (.cells #[.int .i64 kd, .string ⟨nm.toArray⟩, .string ⟨hp.toArray⟩, .slice ao A.length cap] t)).alloc (.cells #[.int .i64 ke, .string ⟨nm'.toArray⟩, .string ⟨hp'.toArray⟩, .slice ao' B.length cap'] t)) W → Hld w.heap.size (w.heap.size + 1) w (.int .i64 kd) (.string ⟨nm.toArray⟩) (.string ⟨hp.toArray⟩) (.slice ao A.length cap) (.int .i64 ke) (.string ⟨nm'.toArray⟩) (.string ⟨hp'.toArray⟩) (.slice ao' B.length cap') W) := fun t W hb => by
    refine Hld.keep hb ⟨?_, ?_, ?_, ?_, ?_, ?_, ?_, ?_, bel2 w _ _⟩ <;> simp [go_sem]
  generalize chkD ⟨kd, nm, hp, A⟩ = z1 at *
  generalize chkD ⟨ke, nm', hp', B⟩ = z2 at *
  generalize ordD ⟨kd, nm, hp, A⟩ ⟨ke, nm', hp', B⟩ = zo at *
  generalize printT nm A = S at *
  generalize printT nm' B = T at *
  generalize escL false hp = E at *
  go_enter Try.func3, Try.ntmps3
  go_wp2_with fail
  refine (HA.out _).mono ?_
  rintro r w1 ⟨rfl, hb⟩
  have hG0 : Hld w.heap.size (w.heap.size + 1) w (.int .i64 kd) (.string ⟨nm.toArray⟩) (.string ⟨hp.toArray⟩) (.slice ao A.length cap) (.int .i64 ke) (.string ⟨nm'.toArray⟩) (.string ⟨hp'.toArray⟩) (.slice ao' B.length cap') w1 := HK0.out _ _ hb
  have HG1 : Hid _ := hG0
  have hD1 : HidC _ _ _ _ _ := HC1.out w1 hG0.b
  obtain ⟨c0, c1, c2, c3, d0, d1, d2, d3, _⟩ := Hld.all hG0
  clear HA HK0 hb hG0 HC1
  by_cases g1 : z1 = 0
  rotate_left
  · have g1' : (z1 != 0) = true := by simpa using g1
    clear HC2 HO1 HP1 HP2 HPa HH HU HSm HS2 HInj HZ g1
    as_aux_lemma =>
      go_wp2_with fail
      refine (hD1.out).mono ?_
      rintro r w2 ⟨rfl, hb⟩
      have hfin := (Hld.keep hb HG1.out).b
      clear hD1 hb c0 c1 c2 c3 d0 d1 d2 d3
      go_wp2_with fail
      go_ret
      exact ⟨rfl, hfin⟩
  subst g1
  go_wp2_with fail
  refine (hD1.out).mono ?_
  rintro r w2 ⟨rfl, hb⟩
  have hG2 := Hld.keep hb HG1.out
  have HG2 : Hid _ := hG2
  have hD2 : HidC _ _ _ _ _ := HC2.out w2 hG2.b
  clear hD1 hb c0 c1 c2 c3 d0 d1 d2 d3 HG1 HC2
  obtain ⟨c0, c1, c2, c3, d0, d1, d2, d3, _⟩ := Hld.all hG2
  clear hG2
  by_cases g2 : z2 = 0
  rotate_left
  · have g2' : (z2 != 0) = true := by simpa using g2
    clear HO1 HP1 HP2 HPa HH HU HSm HS2 HInj HZ g2
    as_aux_lemma =>
      go_wp2_with fail
      refine (hD2.out).mono ?_
      rintro r w3 ⟨rfl, hb⟩
      have hfin := (Hld.keep hb HG2.out).b
      clear hD2 hb c0 c1 c2 c3 d0 d1 d2 d3
      go_wp2_with fail
      go_ret
      exact ⟨rfl, hfin⟩
  subst g2
  go_wp2_with fail
  refine (hD2.out).mono ?_
  rintro r w3 ⟨rfl, hb⟩
  have hG0 := Hld.keep hb HG2.out
  clear hD2 hb c0 c1 c2 c3 d0 d1 d2 d3 HG2
  have HQ1 : Hid _ := HP1.out trivial
  have HQ2 : Hid _ := HP2.out trivial
  have HQ3 : Hid _ := HPa.out trivial
  have HQ4 : Hid _ := HH.out trivial
  have HQ5 : Hid _ := HU.out trivial
  have HQ6 : Hid _ := HInj.out trivial trivial
  clear HP1 HP2 HPa HH HU HInj
  go_upto_region 5 with fail
  go_cut [5, 6] (fun x y W => x = .string ⟨S.toArray⟩ ∧ y = .string ⟨T.toArray⟩ ∧ Hid (Hld w.heap.size (w.heap.size + 1) w (.int .i64 kd) (.string ⟨nm.toArray⟩) (.string ⟨hp.toArray⟩) (.slice ao A.length cap) (.int .i64 ke) (.string ⟨nm'.toArray⟩) (.string ⟨hp'.toArray⟩) (.slice ao' B.length cap') W))
  case first =>
    clear HO1 HSm HS2 HZ HQ3 HQ4 HQ5 HQ6
    as_aux_lemma =>
      go_region_held3 (fun W => W.cell? ⟨w.heap.size, 0, none⟩ = some (.int .i64 kd) ∧ W.cell? ⟨w.heap.size, 1, none⟩ = some (.string ⟨nm.toArray⟩) ∧ W.cell? ⟨w.heap.size, 2, none⟩ = some (.string ⟨hp.toArray⟩) ∧ W.cell? ⟨w.heap.size, 3, none⟩ = some (.slice ao A.length cap) ∧ W.cell? ⟨w.heap.size + 1, 0, none⟩ = some (.int .i64 ke) ∧ W.cell? ⟨w.heap.size + 1, 1, none⟩ = some (.string ⟨nm'.toArray⟩) ∧ W.cell? ⟨w.heap.size + 1, 2, none⟩ = some (.string ⟨hp'.toArray⟩) ∧ W.cell? ⟨w.heap.size + 1, 3, none⟩ = some (.slice ao' B.length cap') ∧ Below w.heap.size w W)
        (first | assumption | exact Hld.keep (by assumption) (by assumption) | exact Hld.keep (bel_drew (Below.refl _ _)) hG0 | exact Hld.keep (bel_drewN (Below.refl _ _) _) hG0)
        (first
          | (go_at_call 9; with_reducible refine (HQ1.out _ (Hld.b (by first | assumption | exact Hld.keep (bel_drew (Below.refl _ _)) hG0 | exact Hld.keep (bel_drewN (Below.refl _ _) _) hG0))).mono ?_; rintro r w1 ⟨rfl, hb1⟩; have hG1 := Hld.keep hb1 (by first | assumption | exact Hld.keep (bel_drew (Below.refl _ _)) hG0 | exact Hld.keep (bel_drewN (Below.refl _ _) _) hG0))
          | (go_at_call 9; with_reducible refine (HQ2.out _ (Hld.b (by first | assumption | exact Hld.keep (bel_drew (Below.refl _ _)) hG0 | exact Hld.keep (bel_drewN (Below.refl _ _) _) hG0))).mono ?_; rintro r w1 ⟨rfl, hb1⟩; have hG1 := Hld.keep hb1 (by first | assumption | exact Hld.keep (bel_drew (Below.refl _ _)) hG0 | exact Hld.keep (bel_drewN (Below.refl _ _) _) hG0)))
      all_goals
        go_wp2_with fail
        go_meet
        exact ⟨rfl, rfl, (by assumption)⟩
  case rest =>
  obtain ⟨rfl, rfl, HG4⟩ := hcut
  clear HQ1 HQ2 hG0
  rename_i wc
  go_wp2_with fail
  refine (HQ3.out _).mono ?_
  rintro r w5 ⟨⟨x, rfl, hown⟩, hb5⟩
  have HW5 : Hid (OwnL wc.heap.size x A w5) := hown
  have hG5 := Hld.keep hb5 HG4.out
  have HG5 : Hid (Hld w.heap.size (w.heap.size + 1) w (.int .i64 kd) (.string ⟨nm.toArray⟩) (.string ⟨hp.toArray⟩) (.slice ao A.length cap) (.int .i64 ke) (.string ⟨nm'.toArray⟩) (.string ⟨hp'.toArray⟩) (.slice ao' B.length cap') w5) := hG5
  obtain ⟨c0, c1, c2, c3, d0, d1, d2, d3, _⟩ := Hld.all hG5
  clear HQ3 hown hb5 HG4 hG5
  go_wp2_with fail
  refine (HQ4.out _).mono ?_
  rintro r w6 ⟨rfl, hb6⟩
  have HW6 : Hid (OwnL wc.heap.size x A w6) := OwnL.below HW5.out hb6
  have HG6 : Hid (Hld w.heap.size (w.heap.size + 1) w (.int .i64 kd) (.string ⟨nm.toArray⟩) (.string ⟨hp.toArray⟩) (.slice ao A.length cap) (.int .i64 ke) (.string ⟨nm'.toArray⟩) (.string ⟨hp'.toArray⟩) (.slice ao' B.length cap') w6) := Hld.keep hb6 HG5.out
  clear HQ4 HW5 HG5 hb6 c0 c1 c2 c3 d0 d1 d2 d3
  go_wp2_with fail
  refine (HQ5.out _).mono ?_
  rintro r w7 ⟨rfl, hb7⟩
  have HW7 : Hid (OwnL wc.heap.size x A w7) := OwnL.below HW6.out hb7
  have hG7 := Hld.keep hb7 HG6.out
  have HG7 : Hid (Hld w.heap.size (w.heap.size + 1) w (.int .i64 kd) (.string ⟨nm.toArray⟩) (.string ⟨hp.toArray⟩) (.slice ao A.length cap) (.int .i64 ke) (.string ⟨nm'.toArray⟩) (.string ⟨hp'.toArray⟩) (.slice ao' B.length cap') w7) := hG7
  have HO2 : HidC _ _ _ _ _ := HO1.out w7 hG7.b
  obtain ⟨c0, c1, c2, c3, d0, d1, d2, d3, _⟩ := Hld.all hG7
  clear HQ5 HW6 HG6 hb7 hG7 HO1
  go_wp2_with fail
  refine (HO2.out).mono ?_
  rintro r w8 ⟨rfl, hb8⟩
  have hG8 := Hld.keep hb8 HG7.out
  have HG8 : Hid (Hld w.heap.size (w.heap.size + 1) w (.int .i64 kd) (.string ⟨nm.toArray⟩) (.string ⟨hp.toArray⟩) (.slice ao A.length cap) (.int .i64 ke) (.string ⟨nm'.toArray⟩) (.string ⟨hp'.toArray⟩) (.slice ao' B.length cap') w8) := hG8
  have HS3 : HidC _ _ _ _ _ := HS2.out w8 x _ hG8.b (OwnL.below HW7.out hb8)
  obtain ⟨c0, c1, c2, c3, d0, d1, d2, d3, _⟩ := Hld.all hG8
  clear HO2 HW7 HG7 hb8 hG8 HS2
  have en : (nm == nm) = true := by simp
  have eh : (hp == hp) = true := by simp
  by_cases gn : nm = nm'
  · by_cases gl : A = B
    · have hz : (zo == 0) = true := by rw [beq_iff_eq]; exact HZ.out.2 ⟨gn, gl⟩
      have hS : (S == T) = true := by rw [beq_iff_eq]; exact HQ6.out.2 ⟨gn, gl⟩
      have hn : (nm == nm') = true := by rw [beq_iff_eq]; exact gn
      have HSn : Hid (∀ W, Below w.heap.size w W → Calls Try.prog 14 #[.slice ao A.length cap, .slice ao' B.length cap'] W fun r w' => r = .returned (.bool true) ∧ Below W.heap.size W w') := fun W h => by have := HSm.out W h; rw [decide_eq_true gl] at this; exact this
      clear HSm HZ HQ6 gn gl
      as_aux_lemma =>
        go_wp2_with (go_at_call 14; first | (with_reducible refine (HS3.out).mono ?_; rintro e1 w9 ⟨rfl, hb9⟩; have hG9 := Hld.keep hb9 HG8.out; clear c0 c1 c2 c3 d0 d1 d2 d3; obtain ⟨c0, c1, c2, c3, d0, d1, d2, d3, _⟩ := Hld.all hG9) | (with_reducible refine (HSn.out _ hG9.b).mono ?_; rintro e1 w10 ⟨rfl, hb10⟩; have hGa := Hld.keep hb10 hG9))
        go_ret
        exact ⟨rfl, hGa.b⟩
    · have hz : (zo == 0) = false := by rw [beq_eq_false_iff_ne]; exact fun h => gl (HZ.out.1 h).2
      have hS : (S == T) = false := by rw [beq_eq_false_iff_ne]; exact fun h => gl (HQ6.out.1 h).2
      have hn : (nm == nm') = true := by rw [beq_iff_eq]; exact gn
      have HSn : Hid (∀ W, Below w.heap.size w W → Calls Try.prog 14 #[.slice ao A.length cap, .slice ao' B.length cap'] W fun r w' => r = .returned (.bool false) ∧ Below W.heap.size W w') := fun W h => by have := HSm.out W h; rw [decide_eq_false gl] at this; exact this
      clear HSm HZ HQ6 gn gl
      as_aux_lemma =>
        go_wp2_with (go_at_call 14; first | (with_reducible refine (HS3.out).mono ?_; rintro e1 w9 ⟨rfl, hb9⟩; have hG9 := Hld.keep hb9 HG8.out; clear c0 c1 c2 c3 d0 d1 d2 d3; obtain ⟨c0, c1, c2, c3, d0, d1, d2, d3, _⟩ := Hld.all hG9) | (with_reducible refine (HSn.out _ hG9.b).mono ?_; rintro e1 w10 ⟨rfl, hb10⟩; have hGa := Hld.keep hb10 hG9))
        go_ret
        exact ⟨rfl, hGa.b⟩
  · have hz : (zo == 0) = false := by rw [beq_eq_false_iff_ne]; exact fun h => gn (HZ.out.1 h).1
    have hS : (S == T) = false := by rw [beq_eq_false_iff_ne]; exact fun h => gn (HQ6.out.1 h).1
    have hn : (nm == nm') = false := by rw [beq_eq_false_iff_ne]; exact gn
    have HSn : Hid True := trivial
    clear HSm HZ HQ6 gn
    as_aux_lemma =>
      go_wp2_with (go_at_call 14; refine (HS3.out).mono ?_; rintro e1 w9 ⟨rfl, hb9⟩; have hG9 := Hld.keep hb9 HG8.out; clear c0 c1 c2 c3 d0 d1 d2 d3; obtain ⟨c0, c1, c2, c3, d0, d1, d2, d3, _⟩ := Hld.all hG9)
      go_ret
      exact ⟨rfl, hG9.b⟩
end Go.Proofs.Ytmphajfhilpgeab
