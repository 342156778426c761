/- ExpoApart: THE WALK. Own work of the verifier. -/
import Derived.Test.YtkakanejiakbkaaGreatDoorVBV
import Derived.Test.YtkakanejiakbkaaGreatDoorVBM
namespace Go.Proofs.YtkakanejiakbkaaGreatDoor
open Go.RowKit Me

theorem beq_dec (A B : List UInt8) : (A == B) = decide (A = B) := by
  by_cases e : A = B
  · subst e
    simp
  · rw [decide_eq_false e]
    exact beq_eq_false_iff_ne.2 e
/-- What Write tells, in one form: a row and a number; where that is 0, the row is the text. -/
theorem wr_one {w W : World} {s : Sn} {A : List (List UInt8)} {e : Ending} (h : WrQ w s A e W) : ∃ ao n cap z, e = .returned (.tuple #[.slice ao n cap, .int .i64 z]) ∧ (z = 0 → (chkS s).1 = 0 ∧ ∀ W', Below W.heap.size W W' → (convert 27 9 (.slice ao n cap)).run Tryz.prog W' = .ok (.string ⟨A.flatten.toArray⟩) W') := by
  rcases h with ⟨h1, rfl⟩ | ⟨h1, -, rfl⟩ | ⟨h1, -, ao, cap, rfl, ho⟩
  · exact ⟨none, 0, 0, (chkS s).1, rfl, fun k => absurd k h1⟩
  · exact ⟨none, 0, 0, 4, rfl, fun k => absurd k (by decide)⟩
  · exact ⟨ao, _, cap, 0, rfl, fun _ => ⟨h1, fun W' hb => conv_own (own_belG ho hb)⟩⟩
/-- What the last region holds on to. -/
abbrev S7p (w : World) (a b : Sn) (ua ub xa xb : Value) (A B : List UInt8) (W : World) : Prop :=
  (W.cell? ⟨w.heap.size, 0, none⟩ = some (.int .i64 a.p) ∧ W.cell? ⟨w.heap.size, 1, none⟩ = some ua ∧ W.cell? ⟨w.heap.size, 2, none⟩ = some (.int .u64 (a.r : Int))) ∧
  (W.cell? ⟨w.heap.size + 1, 0, none⟩ = some (.int .i64 b.p) ∧ W.cell? ⟨w.heap.size + 1, 1, none⟩ = some ub ∧ W.cell? ⟨w.heap.size + 1, 2, none⟩ = some (.int .u64 (b.r : Int))) ∧
  (convert 27 9 xa).run Tryz.prog W = .ok (.string ⟨A.toArray⟩) W ∧ (convert 27 9 xb).run Tryz.prog W = .ok (.string ⟨B.toArray⟩) W ∧
  Hid (Sb w a b ua ub W) ∧ Hid (∀ W', Below W.heap.size W W' → (convert 27 9 xa).run Tryz.prog W' = .ok (.string ⟨A.toArray⟩) W' ∧ (convert 27 9 xb).run Tryz.prog W' = .ok (.string ⟨B.toArray⟩) W')
theorem s7p_of {w W : World} {a b : Sn} {ua ub xa xb : Value} {A B : List UInt8} (h : Sb w a b ua ub W) (k : ∀ W', Below W.heap.size W W' → (convert 27 9 xa).run Tryz.prog W' = .ok (.string ⟨A.toArray⟩) W' ∧ (convert 27 9 xb).run Tryz.prog W' = .ok (.string ⟨B.toArray⟩) W') : S7p w a b ua ub xa xb A B W := by
  obtain ⟨c0, c1, c2, _, _, _⟩ := three_cells h.g1
  obtain ⟨d0, d1, d2, _, _, _⟩ := three_cells h.g2
  obtain ⟨k1, k2⟩ := k W (Below.refl _ _)
  exact ⟨⟨c0, c1, c2⟩, ⟨d0, d1, d2⟩, k1, k2, h, k⟩
theorem keep7p {w W W1 : World} {a b : Sn} {ua ub xa xb : Value} {A B : List UInt8} (hb : Below W.heap.size W W1) (h : S7p w a b ua ub xa xb A B W) : S7p w a b ua ub xa xb A B W1 :=
  s7p_of (h.2.2.2.2.1.out.below hb) (fun W' hb' => h.2.2.2.2.2.out W' (bt hb hb'))
theorem S7p_bl {w W : World} {a b : Sn} {ua ub xa xb : Value} {A B : List UInt8} (h : S7p w a b ua ub xa xb A B W) : Below w.heap.size w W := h.2.2.2.2.1.out.bl
set_option maxRecDepth 100000 in
set_option maxHeartbeats 2000000 in
theorem apart_walk (a b : Sn) (v u : Value) (ha : SnW a) (hb : SnW b) (w : World) (hv : SnAt w a v) (hu : SnAt w b u) (ht : Wi.Tab w) (hg : Rl.Glob2 w) :
    Calls Tryz.prog 3 #[v, u] w fun e w' => e = .returned (.bool true) ∧ Below w.heap.size w w' := by
  have HAw : Hid (∀ W, Below w.heap.size w W → Calls Tryz.prog 4 #[] W fun e w' => e = .returned (.bool true) ∧ Below W.heap.size W w') := fun W k => awake_any W (ht.below k)
  have HWa : Hid (∀ W, Below w.heap.size w W → Calls Tryz.prog 5 #[v] W fun e w' => WrQ W a (exL (vlL a.p.toNat) a) e w' ∧ Below W.heap.size W w') := fun W k => write_any (vlL a.p.toNat) a _ ha W (hv.below k) (ht.below k) (wv_all ha (ht.below k) (hg.below k))
  have HWb : Hid (∀ W, Below w.heap.size w W → Calls Tryz.prog 5 #[u] W fun e w' => WrQ W b (exL (vlL b.p.toNat) b) e w' ∧ Below W.heap.size W w') := fun W k => write_any (vlL b.p.toNat) b _ hb W (hu.below k) (ht.below k) (wv_all hb (ht.below k) (hg.below k))
  have HSm : Hid (∀ W, Below w.heap.size w W → Calls Tryz.prog 6 #[v, u] W fun e w' => e = .returned (.bool (smS a b)) ∧ Below W.heap.size W w') := fun W k => rsames_any a b _ _ ha hb W (hv.below k) (hu.below k)
  have HE := hid_of (@apart_eq a b ha hb)
  obtain ⟨ua, rfl, sa⟩ := hv
  obtain ⟨ub, rfl, sb⟩ := hu
  obtain ⟨ao, b1, o1, cap, rfl, -, -, -, -⟩ := sa.open
  obtain ⟨bo, b2, o2, cap', rfl, -, -, -, -⟩ := sb.open
  obtain ⟨W0, hW0⟩ : ∃ W0, W0 = (w.alloc (.cells #[.int .i64 a.p, .slice ao a.vs.length cap, .int .u64 (a.r : Int)] 25)).alloc (.cells #[.int .i64 b.p, .slice bo b.vs.length cap', .int .u64 (b.r : Int)] 25) := ⟨_, rfl⟩
  have hS0 : Sb w a b (.slice ao a.vs.length cap) (.slice bo b.vs.length cap') W0 := by rw [hW0]; exact Sb.new w a b _ _
  have HS0 := hid_of hS0
  have HW0 := hid_of hW0
  clear sa sb ha hb ht hg hW0 hS0
  go_enter Tryz.func3, Tryz.ntmps3
  go_upto_region 1 with fail
  rw [← HW0.out]
  clear HW0
  go_wp2_with fail
  refine Calls.mono (HAw.out _ HS0.out.bl) ?_
  rintro e w1 ⟨rfl, hb1⟩
  have HS1 := hid_of (HS0.out.below hb1)
  obtain ⟨c0, c1, c2, _, _, _⟩ := three_cells HS1.out.g1
  have Da : La.HidC _ _ _ _ _ := HWa.out w1 HS1.out.bl
  clear HAw HWa hb1 HS0
  go_wp2_with fail
  refine (Da.out).mono ?_
  rintro e w2 ⟨qa, hb2⟩
  obtain ⟨xo, xn, xc, z1, rfl, Hx⟩ := wr_one qa
  have HX := hid_of Hx
  have HS2 := hid_of (HS1.out.below hb2)
  obtain ⟨d0, d1, d2, _, _, _⟩ := three_cells HS2.out.g2
  have Db : La.HidC _ _ _ _ _ := HWb.out w2 HS2.out.bl
  clear Da HWb hb2 qa Hx HS1 c0 c1 c2
  go_wp2_with fail
  refine (Db.out).mono ?_
  rintro e w3 ⟨qb, hb3⟩
  obtain ⟨yo, yn, yc, z2, rfl, Hy⟩ := wr_one qb
  have HS3 := hid_of (HS2.out.below hb3)
  have HL : Hid (z1 = 0 → z2 = 0 → decide ((exL (vlL a.p.toNat) a).flatten = (exL (vlL b.p.toNat) b).flatten) = smS a b ∧ S7p w a b (.slice ao a.vs.length cap) (.slice bo b.vs.length cap') (.slice xo xn xc) (.slice yo yn yc) (exL (vlL a.p.toNat) a).flatten (exL (vlL b.p.toNat) b).flatten w3) := fun k1 k2 =>
    ⟨HE.out (HX.out k1).1 (Hy k2).1, s7p_of HS3.out (fun W' hb' => ⟨(HX.out k1).2 W' (bt hb3 hb'), (Hy k2).2 W' hb'⟩)⟩
  clear Db hb3 qb Hy HX HS2 HE d0 d1 d2
  generalize (exL (vlL a.p.toNat) a).flatten = A at HL
  generalize (exL (vlL b.p.toNat) b).flatten = B at HL
  by_cases k1 : z1 = 0
  · by_cases k2 : z2 = 0
    · obtain ⟨hE, hS⟩ := HL.out k1 k2
      subst k1 k2
      have e1 := beq_dec A B
      rw [hE] at e1
      clear HL
      generalize smS a b = q at *
      go_upto_region 7 with fail
      cases q
      all_goals
        go_region_held3 (fun W => S7p w a b (.slice ao a.vs.length cap) (.slice bo b.vs.length cap') (.slice xo xn xc) (.slice yo yn yc) A B W)
          (first | assumption | exact keep7p (by assumption) (by assumption) | exact keep7p (drew_bel _) hS)
          (first
            | (go_at_call 6; (with_reducible refine (HSm.out _ (S7p_bl (by first | assumption | exact keep7p (by assumption) (by assumption) | exact keep7p (drew_bel _) hS))).mono ?_); rintro e w4 ⟨rfl, hb4⟩))
        rename_i hS3
        go_wp2_with fail
        go_ret
        exact ⟨rfl, hS3.2.2.2.2.1.out.bl⟩
    · have hz : (z2 != 0) = true := by rw [bne_iff_ne]; exact k2
      subst k1
      clear k2 HL
      go_wp2_with fail
      go_ret
      exact ⟨rfl, HS3.out.bl⟩
  · have hz : (z1 != 0) = true := by rw [bne_iff_ne]; exact k1
    clear k1 HL
    go_wp2_with fail
    go_ret
    exact ⟨rfl, HS3.out.bl⟩
end Go.Proofs.YtkakanejiakbkaaGreatDoor
