/- LabelOrders: walk and row. Own work of the verifier. -/
import Derived.Test.YtmphajfhilpgeabCC5
import Derived.Test.YtmphajfhilpgeabCM1
namespace Go.Proofs.Ytmphajfhilpgeab
open Go.ChangeShapes Go.WideShapes Go.ChangeAt Go.RowKit Go.Joins

/-- What stays while LabelOrders goes on. -/
def Hl3 (p q r : Nat) (w0 : World) (a0 a1 a2 a3 b0 b1 b2 b3 c0 c1 c2 c3 : Value) (W : World) : Prop := W.cell? ⟨p, 0, none⟩ = some a0 ∧ W.cell? ⟨p, 1, none⟩ = some a1 ∧ W.cell? ⟨p, 2, none⟩ = some a2 ∧ W.cell? ⟨p, 3, none⟩ = some a3 ∧ W.cell? ⟨q, 0, none⟩ = some b0 ∧ W.cell? ⟨q, 1, none⟩ = some b1 ∧ W.cell? ⟨q, 2, none⟩ = some b2 ∧ W.cell? ⟨q, 3, none⟩ = some b3 ∧ W.cell? ⟨r, 0, none⟩ = some c0 ∧ W.cell? ⟨r, 1, none⟩ = some c1 ∧ W.cell? ⟨r, 2, none⟩ = some c2 ∧ W.cell? ⟨r, 3, none⟩ = some c3 ∧ Below w0.heap.size w0 W
theorem Hl3.b {p q r : Nat} {w0 W : World} {a0 a1 a2 a3 b0 b1 b2 b3 c0 c1 c2 c3 : Value} (h : Hl3 p q r w0 a0 a1 a2 a3 b0 b1 b2 b3 c0 c1 c2 c3 W) : Below w0.heap.size w0 W := h.2.2.2.2.2.2.2.2.2.2.2.2
theorem Hl3.all {p q r : Nat} {w0 W : World} {a0 a1 a2 a3 b0 b1 b2 b3 c0 c1 c2 c3 : Value} (h : Hl3 p q r w0 a0 a1 a2 a3 b0 b1 b2 b3 c0 c1 c2 c3 W) : W.cell? ⟨p, 0, none⟩ = some a0 ∧ W.cell? ⟨p, 1, none⟩ = some a1 ∧ W.cell? ⟨p, 2, none⟩ = some a2 ∧ W.cell? ⟨p, 3, none⟩ = some a3 ∧ W.cell? ⟨q, 0, none⟩ = some b0 ∧ W.cell? ⟨q, 1, none⟩ = some b1 ∧ W.cell? ⟨q, 2, none⟩ = some b2 ∧ W.cell? ⟨q, 3, none⟩ = some b3 ∧ W.cell? ⟨r, 0, none⟩ = some c0 ∧ W.cell? ⟨r, 1, none⟩ = some c1 ∧ W.cell? ⟨r, 2, none⟩ = some c2 ∧ W.cell? ⟨r, 3, none⟩ = some c3 ∧ Below w0.heap.size w0 W := h
theorem Hl3.keep {p q r : Nat} {w0 W W1 : World} {a0 a1 a2 a3 b0 b1 b2 b3 c0 c1 c2 c3 : Value} (hb : Below W.heap.size W W1) (h : Hl3 p q r w0 a0 a1 a2 a3 b0 b1 b2 b3 c0 c1 c2 c3 W) : Hl3 p q r w0 a0 a1 a2 a3 b0 b1 b2 b3 c0 c1 c2 c3 W1 := by
  obtain ⟨h0, h1, h2, h3, k0, k1, k2, k3, l0, l1, l2, l3, h4⟩ := h
  exact ⟨(hb.cell (lt_of_cell h0)).trans h0, (hb.cell (lt_of_cell h1)).trans h1, (hb.cell (lt_of_cell h2)).trans h2, (hb.cell (lt_of_cell h3)).trans h3, (hb.cell (lt_of_cell k0)).trans k0, (hb.cell (lt_of_cell k1)).trans k1, (hb.cell (lt_of_cell k2)).trans k2, (hb.cell (lt_of_cell k3)).trans k3, (hb.cell (lt_of_cell l0)).trans l0, (hb.cell (lt_of_cell l1)).trans l1, (hb.cell (lt_of_cell l2)).trans l2, (hb.cell (lt_of_cell l3)).trans l3, h4.trans (hb.mono h4.size)⟩
theorem bel3 (w : World) (o1 o2 o3 : Obj) : Below w.heap.size w (((w.alloc o1).alloc o2).alloc o3) := (bel2 w o1 o2).trans ((bel1 _ o3).mono (bel2 w o1 o2).size)
set_option maxHeartbeats 8000000 in
set_option maxRecDepth 100000 in
theorem orders_walk (d e f : Ds) (v u x : Value) (w : World) (hd : DsC w d v) (he : DsC w e u) (hf : DsC w f x) :
    Calls Try.prog 5 #[v, u, x] w fun r w' => r = .returned (.bool true) ∧ Below w.heap.size w w' := by
  have HA : Hid (∀ W, Calls Try.prog 7 #[] W fun r w' => r = .returned (.bool true) ∧ Below W.heap.size W w') := fun W => awake_any W
  have HO1 : Hid (∀ W, Below w.heap.size w W → Calls Try.prog 13 #[v, u] W fun r w' => r = .returned (.int .i64 (ordD d e)) ∧ Below W.heap.size W w') := fun W h => ccompare_any d e v u W (hd.below h) (he.below h)
  have HO2 : Hid (∀ W, Below w.heap.size w W → Calls Try.prog 13 #[u, x] W fun r w' => r = .returned (.int .i64 (ordD e f)) ∧ Below W.heap.size W w') := fun W h => ccompare_any e f u x W (he.below h) (hf.below h)
  have HO3 : Hid (∀ W, Below w.heap.size w W → Calls Try.prog 13 #[v, x] W fun r w' => r = .returned (.int .i64 (ordD d f)) ∧ Below W.heap.size W w') := fun W h => ccompare_any d f v x W (hd.below h) (hf.below h)
  have HO4 : Hid (∀ W, Below w.heap.size w W → Calls Try.prog 13 #[v, v] W fun r w' => r = .returned (.int .i64 0) ∧ Below W.heap.size W w') := fun W h => by
    have := ccompare_any d d v v W (hd.below h) (hd.below h)
    rw [(ordD_zero d d).2 ⟨rfl, rfl⟩] at this
    exact this
  obtain ⟨hr1, hr2⟩ := ordD_range d e
  have hT := T3.ordD d e f
  generalize ordD d e = z1 at *
  generalize ordD e f = z2 at *
  generalize ordD d f = z3 at *
  obtain ⟨ao, b, o, cap, hv, _⟩ := hd
  obtain ⟨ao', b', o', cap', hu, _⟩ := he
  obtain ⟨ao'', b'', o'', cap'', hx, _⟩ := hf
  obtain ⟨kd, nm, hp, A⟩ := d
  obtain ⟨ke, nm', hp', B⟩ := e
  obtain ⟨kf, nm'', hp'', C⟩ := f
  simp only at hv hu hx
  generalize A.length = lA at *
  generalize B.length = lB at *
  generalize C.length = lC at *
  generalize (⟨nm.toArray⟩ : ByteArray) = nA at *
  generalize (⟨hp.toArray⟩ : ByteArray) = hA at *
  generalize (⟨nm'.toArray⟩ : ByteArray) = nB at *
  generalize (⟨hp'.toArray⟩ : ByteArray) = hB at *
  generalize (⟨nm''.toArray⟩ : ByteArray) = nC at *
  generalize (⟨hp''.toArray⟩ : ByteArray) = hC at *
  subst hv hu hx
  have HK0 : Hid (∀ t, ∀ W, Below (((w.alloc (.cells #[.int .i64 kd, .string nA, .string hA, .slice ao lA cap] t)).alloc (.cells #[.int .i64 ke, .string nB, .string hB, .slice ao' lB cap'] t)).alloc (.cells #[.int .i64 kf, .string nC, .string hC, .slice ao'' lC cap''] t)).heap.size (((w.alloc (.cells #[.int .i64 kd, .string nA, .string hA, .slice ao lA cap] t)).alloc (.cells #[.int .i64 ke, .string nB, .string hB, .slice ao' lB cap'] t)).alloc (.cells #[.int .i64 kf, .string nC, .string hC, .slice ao'' lC cap''] t)) W → Hl3 w.heap.size (w.heap.size + 1) (w.heap.size + 2) w (.int .i64 kd) (.string nA) (.string hA) (.slice ao lA cap) (.int .i64 ke) (.string nB) (.string hB) (.slice ao' lB cap') (.int .i64 kf) (.string nC) (.string hC) (.slice ao'' lC cap'') W) := fun t W hb => by
    refine Hl3.keep hb ⟨?_, ?_, ?_, ?_, ?_, ?_, ?_, ?_, ?_, ?_, ?_, ?_, bel3 w _ _ _⟩ <;> simp [go_sem]
  have HT : Hid (T3 z1 z2 z3) := hT
  clear hT
  go_enter Try.func5, Try.ntmps5
  go_wp2_with fail
  refine (HA.out _).mono ?_
  rintro r w1 ⟨rfl, hb⟩
  have hG0 : Hl3 w.heap.size (w.heap.size + 1) (w.heap.size + 2) w (.int .i64 kd) (.string nA) (.string hA) (.slice ao lA cap) (.int .i64 ke) (.string nB) (.string hB) (.slice ao' lB cap') (.int .i64 kf) (.string nC) (.string hC) (.slice ao'' lC cap'') w1 := HK0.out _ _ hb
  clear HA HK0 hb
  go_upto_region 3 with fail
  go_cut [7, 8, 9] (fun x y z W => x = .int .i64 z1 ∧ y = .int .i64 z2 ∧ z = .int .i64 z3 ∧ Hid (Hl3 w.heap.size (w.heap.size + 1) (w.heap.size + 2) w (.int .i64 kd) (.string nA) (.string hA) (.slice ao lA cap) (.int .i64 ke) (.string nB) (.string hB) (.slice ao' lB cap') (.int .i64 kf) (.string nC) (.string hC) (.slice ao'' lC cap'') W))
  case first =>
    clear HO4 HT
    as_aux_lemma =>
      go_region_held3 (fun W => W.cell? ⟨w.heap.size, 0, none⟩ = some (.int .i64 kd) ∧ W.cell? ⟨w.heap.size, 1, none⟩ = some (.string nA) ∧ W.cell? ⟨w.heap.size, 2, none⟩ = some (.string hA) ∧ W.cell? ⟨w.heap.size, 3, none⟩ = some (.slice ao lA cap) ∧ W.cell? ⟨w.heap.size + 1, 0, none⟩ = some (.int .i64 ke) ∧ W.cell? ⟨w.heap.size + 1, 1, none⟩ = some (.string nB) ∧ W.cell? ⟨w.heap.size + 1, 2, none⟩ = some (.string hB) ∧ W.cell? ⟨w.heap.size + 1, 3, none⟩ = some (.slice ao' lB cap') ∧ W.cell? ⟨w.heap.size + 2, 0, none⟩ = some (.int .i64 kf) ∧ W.cell? ⟨w.heap.size + 2, 1, none⟩ = some (.string nC) ∧ W.cell? ⟨w.heap.size + 2, 2, none⟩ = some (.string hC) ∧ W.cell? ⟨w.heap.size + 2, 3, none⟩ = some (.slice ao'' lC cap'') ∧ Below w.heap.size w W)
        (first | assumption | exact Hl3.keep (by assumption) (by assumption) | exact Hl3.keep (bel_drew (Below.refl _ _)) hG0 | exact Hl3.keep (bel_drewN (Below.refl _ _) _) hG0)
        (first
          | (go_at_call 13; with_reducible refine (HO1.out _ (Hl3.b (by first | assumption | exact Hl3.keep (bel_drew (Below.refl _ _)) hG0 | exact Hl3.keep (bel_drewN (Below.refl _ _) _) hG0))).mono ?_; rintro r w1 ⟨rfl, hb1⟩; have hG1 := Hl3.keep hb1 (by first | assumption | exact Hl3.keep (bel_drew (Below.refl _ _)) hG0 | exact Hl3.keep (bel_drewN (Below.refl _ _) _) hG0))
          | (go_at_call 13; with_reducible refine (HO2.out _ (Hl3.b (by first | assumption | exact Hl3.keep (bel_drew (Below.refl _ _)) hG0 | exact Hl3.keep (bel_drewN (Below.refl _ _) _) hG0))).mono ?_; rintro r w1 ⟨rfl, hb1⟩; have hG1 := Hl3.keep hb1 (by first | assumption | exact Hl3.keep (bel_drew (Below.refl _ _)) hG0 | exact Hl3.keep (bel_drewN (Below.refl _ _) _) hG0))
          | (go_at_call 13; with_reducible refine (HO3.out _ (Hl3.b (by first | assumption | exact Hl3.keep (bel_drew (Below.refl _ _)) hG0 | exact Hl3.keep (bel_drewN (Below.refl _ _) _) hG0))).mono ?_; rintro r w1 ⟨rfl, hb1⟩; have hG1 := Hl3.keep hb1 (by first | assumption | exact Hl3.keep (bel_drew (Below.refl _ _)) hG0 | exact Hl3.keep (bel_drewN (Below.refl _ _) _) hG0)))
      all_goals
        go_wp2_with fail
        go_meet
        exact ⟨rfl, rfl, rfl, (by assumption)⟩
  case rest =>
  obtain ⟨rfl, rfl, rfl, HG4⟩ := hcut
  clear HO1 HO2 HO3 hG0
  rename_i wc
  have HO5 : HidC _ _ _ _ _ := HO4.out wc HG4.out.b
  obtain ⟨c0, c1, c2, c3, d0, d1, d2, d3, f0, f1, f2, f3, _⟩ := Hl3.all HG4.out
  have h1 : ¬ z1 < -1 := by omega
  have h2 : ¬ 1 < z1 := by omega
  clear HO4
  by_cases g1 : z1 ≤ 0
  · by_cases g2 : z2 ≤ 0
    · obtain ⟨t1, t2⟩ := HT.out g1 g2
      by_cases g3 : z3 = 0
      · obtain ⟨e1, e2⟩ := t2.1 g3
        subst g3 e1 e2
        clear HT t1 t2
        as_aux_lemma =>
          go_wp2_with (go_at_call 13; refine (HO5.out).mono ?_; rintro e1 w9 ⟨rfl, hb9⟩)
          go_ret
          exact ⟨rfl, (Hl3.keep hb9 HG4.out).b⟩
      · have g3' : (z3 == 0) = false := by simpa using g3
        by_cases e1 : z1 = 0
        · have e2 : (z2 == 0) = false := by rw [beq_eq_false_iff_ne]; exact fun h => g3 (t2.2 ⟨e1, h⟩)
          have e1' : (z1 == 0) = true := by simpa using e1
          clear HT t2 g3 e1
          as_aux_lemma =>
            go_wp2_with (go_at_call 13; refine (HO5.out).mono ?_; rintro e1 w9 ⟨rfl, hb9⟩)
            go_ret
            exact ⟨rfl, (Hl3.keep hb9 HG4.out).b⟩
        · have e1' : (z1 == 0) = false := by simpa using e1
          clear HT t2 g3 e1
          as_aux_lemma =>
            go_wp2_with (go_at_call 13; refine (HO5.out).mono ?_; rintro e1 w9 ⟨rfl, hb9⟩)
            go_ret
            exact ⟨rfl, (Hl3.keep hb9 HG4.out).b⟩
    · clear HT
      as_aux_lemma =>
        go_wp2_with (go_at_call 13; refine (HO5.out).mono ?_; rintro e1 w9 ⟨rfl, hb9⟩)
        go_ret
        exact ⟨rfl, (Hl3.keep hb9 HG4.out).b⟩
  · clear HT
    as_aux_lemma =>
      go_wp2_with (go_at_call 13; refine (HO5.out).mono ?_; rintro e1 w9 ⟨rfl, hb9⟩)
      go_ret
      exact ⟨rfl, (Hl3.keep hb9 HG4.out).b⟩
set_option maxRecDepth 100000 in
theorem labelOrders_lifted (os : Os) (started : os.Started) (H : Type) (enc : TypeId × Value → H) :
    ReturnsInHanded {} Try.checked os 5 .any (Rows.labelOrdersSpec.pre6 enc Try.prog Try.f5 Rows.labelOrdersRow.domain false) (Rows.labelOrdersSpec.post enc Try.prog Try.f5 false true false false) := by
  refine returnsInHanded_of_change_sized (C := Try.checked) own started (by kernel_rfl) Try.func5
    (ChangeSpec.witness6 (enc := enc) (C := Try.checked) false ⟨#[], #[.agg #[.int .i64 0, .string ⟨#[]⟩, .string ⟨#[]⟩, .slice none 0 0], .agg #[.int .i64 0, .string ⟨#[]⟩, .string ⟨#[]⟩, .slice none 0 0], .agg #[.int .i64 0, .string ⟨#[]⟩, .string ⟨#[]⟩, .slice none 0 0]], []⟩ 8 (by kernel_rfl) (by kernel_rfl) (by kernel_rfl) (by kernel_rfl)) ?_
  intro W base args ds gs before hval0 hW _ hsz0 _
  have hsz : (DataW.weightsEach Try.prog (Try.f5.params.toList ++ Rows.labelOrdersSpec.plain.varTypes Try.prog) (ds ++ gs)).all (· ≤ reachBytes) = true := hsz0
  have hval : ∀ (j : Nat) t v, Try.f5.params[j]? = some t → args[j]? = some v → Value.okWide Try.prog W .any base t v := hval0
  have hW' := hW
  obtain ⟨p, q, hA0, hV, rfl, hfz, hnd⟩ := hW
  have hA : DataW.TrodAll enc Try.prog W 0 (fun _ => true) true Try.f5.params.toList args.toList ds p := hA0
  rw [Try.params5] at hA hval hsz
  obtain ⟨v0, v1, v2, d0, d1, d2, p0, p1, p2, rfl, rfl, rfl, h0, h1, h2⟩ := trodAll_three hA
  obtain ⟨rfl, rfl⟩ := trodVars_none hV
  clear hA0 hval0 hsz0
  simp only [List.append_nil] at hW'
  have hlt : ∀ x ∈ p0 ++ p1 ++ p2, x.block < W.heap.size := fun x hx => by simpa using hW'.lt x hx
  simp only [List.append_nil, List.cons_append, List.nil_append, DataW.weightsEach, List.all_append, Bool.and_eq_true] at hsz
  have hargs : ∀ (W' : World), Below W.heap.size W W' → DataW.TrodAll enc Try.prog W' 0 (fun b => decide (b < W.heap.size)) true [24, 24, 24] [v0, v1, v2] [d0, d1, d2] (p0 ++ p1 ++ p2) := fun W' hn => by
    rw [List.append_assoc]
    exact trodAll_mk3 (Below.trod laidOut (by kernel_rfl) (of_decide_eq_true (by kernel_rfl)) h0 hn (fun x hx => hlt x (by simp [hx])))
      (Below.trod laidOut (by kernel_rfl) (of_decide_eq_true (by kernel_rfl)) h1 hn (fun x hx => hlt x (by simp [hx])))
      (Below.trod laidOut (by kernel_rfl) (of_decide_eq_true (by kernel_rfl)) h2 hn (fun x hx => hlt x (by simp [hx])))
  obtain ⟨D, a1, a2, a3, a4⟩ := open_desc (hval 0 24 v0 rfl rfl) h0 hsz.1
  obtain ⟨E, b1, b2, b3, b4⟩ := open_desc (hval 1 24 v1 rfl rfl) h1 hsz.2.1
  obtain ⟨F, c1, c2, c3, c4⟩ := open_desc (hval 2 24 v2 rfl rfl) h2 hsz.2.2.1
  refine (orders_walk D E F v0 v1 v2 W a1 b1 c1).mono fun e W' ⟨he, hb⟩ => ?_
  subst he
  exact ⟨_, rfl, _, _, _, [], _, [], hW', trodAll_mk1 (shut_bool Try.underlying4 _), hargs W' hb, rfl, hb.frame _, fun h => by cases h⟩
theorem labelOrders_holds : Rows.LabelOrdersSaid :=
  OpenClaim.holds_of_wide 5 Try.f5 rfl rfl rfl rfl rfl rfl rfl ⟨rfl, rfl, rfl, rfl, rfl⟩ rfl rfl rfl rfl rfl (by kernel_rfl) Try.func5 (by kernel_rfl)
    (of_decide_eq_true (by kernel_rfl)) (by unfold Func.isWrapper; first | (rw [if_pos (by decide +kernel)]; kernel_rfl) | (rw [if_neg (by decide +kernel)]; exact ⟨rfl, rfl⟩))
    (fun os started H enc _ => labelOrders_lifted os started H enc)
end Go.Proofs.Ytmphajfhilpgeab
