/- RecorderTurns: the first state; awake. Own work of the verifier. -/
import Derived.Test.YtpllckgpolhafaaGreatDoorUK
namespace Go.Proofs.YtpllckgpolhafaaGreatDoor
open Go.RowKit

theorem ap_of {T : TypeId} {s c : Nat} {h : Nat → Nat} {G : Nat → List Nat} {C : Nat → Nat → List Int} {wd n : Nat} {w : World} (H : SlG T s c h G C wd n w) (hn : 0 < n) {x : Nat} {cs : Array Value} {t : TypeId} {z : Nat × Nat} (hx : w.heap[x]? = some (.cells cs t z)) (ht : t ≠ 72) {v : Value} (hv : w.cell? ⟨x, 0, none⟩ = some v) (h1 : ∀ T u, v ≠ .iface T u) (h2 : ∀ a n c, v ≠ .slice a n c) (y : Nat) (hy : y = s ∨ y = c ∨ y = h 0 ∨ y = h 1 ∨ y ∈ G 0 ++ G 1) : y ≠ x := fun e => by
  have hr : ∀ b, b < 2 → ∃ u1 u2 u3, w.cell? ⟨h b, 0, none⟩ = some (.slice u1 u2 u3) := fun b hb => ⟨_, _, _, H.rows b hb 0 (by rw [H.len b hb]; exact hn)⟩
  rcases hy with rfl | rfl | rfl | rfl | hy
  · have := H.slab
    rw [e, hv] at this
    injection this with this
    exact h1 _ _ this
  · obtain ⟨cap, hc⟩ := H.held 0 (by decide)
    rw [e, hv] at hc
    injection hc with this
    exact h2 _ _ _ this
  · obtain ⟨u1, u2, u3, hu⟩ := hr 0 (by decide)
    rw [e, hv] at hu
    injection hu with this
    exact h2 _ _ _ this
  · obtain ⟨u1, u2, u3, hu⟩ := hr 1 (by decide)
    rw [e, hv] at hu
    injection hu with this
    exact h2 _ _ _ this
  · exact H.not_row hx ht (e ▸ hy)
theorem CV_zero (a : Nat) (b i : Nat) : CV a (fun _ => 0) b i = [0, 0] := by
  unfold CV
  split
  · exact cw_zero
  · rfl
/-- The state when all is made. -/
theorem ts_first {w w1 w2 W : World} {k p N s c : Nat} {h : Nat → Nat} {G : Nat → List Nat} (hN : 0 < N) (hS : Sh w1 k p 0 0 0) (hP : Ph w1 p 0 0 (-9223372036854775808)) (hb1 : Below w.heap.size w w1) (hk : w.heap.size ≤ k ∧ w.heap.size ≤ p)
    (hA : SlabAt 130 s c h G (fun _ => [0, 0]) N w2) (hb2 : Below w1.heap.size w1 w2) (hg : ∀ g ∈ G 0 ++ G 1, w1.heap.size ≤ g) (hb3 : Below w2.heap.size w2 W) (hR : ∀ j, j < N → Rc W (w2.heap.size + j) k (j : Int) false) :
    TS w k p (fun j => w2.heap.size + j) N s c h G 0 0 0 false 0 0 (fun _ => 0) W := by
  have hb := bt hb2 hb3
  have hS2 : Sh W k p 0 0 0 := (Chg.of_below (S := fun _ => False) hb).Sh hS (fun q => q)
  have hP2 : Ph W p 0 0 (-9223372036854775808) := (Chg.of_below (S := fun _ => False) hb).Ph hP (fun q => q)
  have hSl : SlG 130 s c h G (CV 0 (fun _ => 0)) 2 N W := (hA.gen.below hb3).same (fun b _ i _ => (CV_zero 0 b i).symm)
  exact ⟨hS2, ⟨_, hP2⟩, hR, hSl, bt hb1 hb, hk.1, hk.2, fun g hm => Nat.le_trans hb1.size (hg g hm), fun x hx => ⟨ap_of hSl hN hS2 (by decide) hS2.cells.1 (fun _ _ e => by cases e) (fun _ _ _ e => by cases e) x hx, ap_of hSl hN hP2 (by decide) hP2.cells.1 (fun _ _ e => by cases e) (fun _ _ _ e => by cases e) x hx⟩⟩
theorem cel_4 : celF 1 1 1 ≤ 1048576 := by decide +kernel
theorem cel_12 : celF 1 3 1 ≤ 1048576 := by decide +kernel
theorem newc (N : Nat) (h1 : 1 ≤ N) (h2 : N ≤ 16) (hc : celF 1 (N : Int) 1 ≤ 1048576) (W : World) : Calls Tryz.prog 7 #[.int .i64 1, .int .i64 (N : Int), .int .i64 1] W fun e w' => ∃ sb c h G, e = .returned (.tuple #[.pointer (some ⟨sb, 0, none⟩), .int .i64 0]) ∧ Hid (SlabAt 130 sb c h G (fun _ => [0, 0]) N w') ∧ Hid (Below W.heap.size W w') ∧ Hid (∀ g ∈ G 0 ++ G 1, W.heap.size ≤ g) := new_counter N 1 h1 h2 (by decide) (by decide) hc W
theorem upV_one (x : Int) : ∀ i, i < 1 → upV (fun _ => (0 : Int)) 0 x i = x := fun i hi => by
  obtain rfl : i = 0 := by omega
  rfl
theorem CV_up {a b i j : Nat} {V : Nat → Int} {x : Int} (hb : b = a) : CV a (upV V j x) b i = cw (upV V j x i) := by subst hb; exact CV_at _ _ _
theorem five_hi : hiOf 5 = 0 := by decide
theorem five_lo : loOf 5 = 5 := by decide
set_option maxHeartbeats 4000000 in
theorem awake_any (w : World) : Calls Tryz.prog 5 #[] w fun e w' => e = .returned (.bool true) ∧ Below w.heap.size w w' := by
  have HN : Hid (∀ _ : Unit, _) := fun _ => rnew_any w
  have HM : Hid (∀ W : World, Calls Tryz.prog 7 #[.int .i64 1, .int .i64 1, .int .i64 1] W fun e w' => ∃ sb c h G, e = .returned (.tuple #[.pointer (some ⟨sb, 0, none⟩), .int .i64 0]) ∧ Hid (SlabAt 130 sb c h G (fun _ => [0, 0]) 1 w') ∧ Hid (Below W.heap.size W w') ∧ Hid (∀ g ∈ G 0 ++ G 1, W.heap.size ≤ g)) := newc 1 (by decide) (by decide) cel_4
  have HR : Hid (∀ (k : Nat) (W : World), _) := fun k W => rrec_any k 0 W
  have HA : Hid (∀ k p rc s c h G W, TS w k p rc 1 s c h G 0 0 0 false 0 0 (fun _ => 0) W → Calls Tryz.prog 14 #[.pointer (some ⟨rc 0, 0, none⟩), .pointer none, .pointer (some ⟨s, 0, none⟩), .int .i64 5] W fun e w' => e = .returned (.int .i64 0) ∧ Hid (TS w k p rc 1 s c h G 0 0 0 false 1 0 (upV (fun _ => 0) 0 5) w')) := fun k p rc s c h G W H => Calls.mono (H.add_ok (by decide) (by decide) (by decide) (by decide) (by decide) (by decide) 5 (by decide) (by decide) (by decide) (by decide)) (fun e w' q => ⟨q.1, q.2.1⟩)
  have HB : Hid (∀ k p rc s c h G W, TS w k p rc 1 s c h G 0 0 0 false 1 0 (upV (fun _ => 0) 0 5) W → Calls Tryz.prog 14 #[.pointer (some ⟨rc 0, 0, none⟩), .pointer none, .pointer (some ⟨s, 0, none⟩), .int .i64 (-1)] W fun e w' => e = .returned (.int .i64 2) ∧ Hid (TS w k p rc 1 s c h G 0 1 0 false 2 0 (upV (fun _ => 0) 0 5) w')) := fun k p rc s c h G W H => Calls.mono (H.add_no (by decide) (by decide) (by decide) (by decide) (by decide) (by decide) (-1) (by decide)) (fun e w' q => ⟨q.1, by have := q.2.1; rw [show bmp 2 0 0 0 = 1 by decide +kernel, show bmp 2 0 1 0 = 0 by decide +kernel] at this; exact this⟩)
  have HT : Hid (∀ k p rc s c h G W, TS w k p rc 1 s c h G 0 1 0 false 2 0 (upV (fun _ => 0) 0 5) W → Calls Tryz.prog 15 #[.pointer (some ⟨k, 0, none⟩), .pointer none] W fun e w' => e = .returned (.tuple #[.int .i64 0, .int .i64 0]) ∧ Hid (TS w k p rc 1 s c h G 1 1 0 true 0 0 (upV (fun _ => 0) 0 5) w')) := fun k p rc s c h G W H => Calls.mono (H.turn (by decide) (by decide)) (fun e w' q => ⟨q.1, q.2.1⟩)
  have HD : Hid (∀ k p rc s c h G W, TS w k p rc 1 s c h G 1 1 0 true 0 0 (upV (fun _ => 0) 0 5) W → Calls Tryz.prog 16 #[.pointer (some ⟨s, 0, none⟩), .pointer none, .int .i64 0] W fun e w' => ∃ ao n cap, e = .returned (.tuple #[.agg #[.int .i64 0, .int .u64 5, .slice ao n cap, .int .u64 0, .complex .f64 0 0, .float .f64 0, .float .f64 0], .int .i64 0]) ∧ Hid (TS w k p rc 1 s c h G 1 1 0 true 0 0 (fun _ => 0) w')) := fun k p rc s c h G W H => by
    refine Calls.mono (H.drain (by decide) (b := 0) (by decide) (fun _ => 5) (fun _ _ => ⟨by decide, by decide⟩) (fun i hi => ?_) (fun _ => 0) (fun b' hb' i hi => ?_) 5 (by decide)) ?_
    · rw [CV_up rfl, upV_one 5 i hi]
    · rw [CV_zero]
      unfold upB CV
      split <;> rfl
    · rintro e w' ⟨ao, n, cap, rfl, q, _⟩
      exact ⟨ao, n, cap, by rw [five_hi, five_lo], q⟩
  have HF : Hid (∀ k p rc s c h G W, TS w k p rc 1 s c h G 1 1 0 true 0 0 (fun _ => 0) W → Calls Tryz.prog 11 #[.pointer (some ⟨k, 0, none⟩), .pointer none, .int .i64 0] W fun e w' => e = .returned (.int .u64 1) ∧ Hid (Below w.heap.size w w')) := fun k p rc s c h G W H => Calls.mono H.ref0 (fun e w' q => ⟨q.1, q.2.1.out.bel⟩)
  have HP : Hid (∀ k p rc s c h G W W', TS w k p rc 1 s c h G 1 1 0 true 0 0 (fun _ => 0) W → Below W.heap.size W W' → TS w k p rc 1 s c h G 1 1 0 true 0 0 (fun _ => 0) W') := fun k p rc s c h G W W' H hb => H.below hb
  have HFi : Hid (∀ (w1 w2 : World) (k p s c : Nat) (h : Nat → Nat) (G : Nat → List Nat), Hid (Sh w1 k p 0 0 0) → Hid (Ph w1 p 0 0 (-9223372036854775808)) → Hid (Below w.heap.size w w1) → Hid (w.heap.size ≤ k ∧ w.heap.size ≤ p) → Hid (SlabAt 130 s c h G (fun _ => [0, 0]) 1 w2) → Hid (Below w1.heap.size w1 w2) → Hid (∀ g ∈ G 0 ++ G 1, w1.heap.size ≤ g) → Hid (TS w k p (fun j => w2.heap.size + j) 1 s c h G 0 0 0 false 0 0 (fun _ => 0) (w2.alloc (.cells #[.pointer (some ⟨k, 0, none⟩), .int .i64 0, .bool false] 115)))) := fun w1 w2 k p s c h G a1 a2 a3 a4 a5 a6 a7 => ts_first (by decide) a1 a2 a3 a4 a5 a6 a7 (bel1 _ _) (fun j hj => by
    obtain rfl : j = 0 := by omega
    exact new_1 w2 _)
  have sF := store_f
  have sC := store_c
  go_enter Tryz.func5, Tryz.ntmps5
  go_wp2_with (first
    | (go_at_call 6; with_reducible refine Calls.mono (HN.out ()) ?_; rintro e w1 ⟨k, p, rfl, HS1, HP1, HB1, HK1⟩)
    | (go_at_call 7; with_reducible refine Calls.mono (HM.out _) ?_; rintro e w2 ⟨s, c, h, G, rfl, HA2, HB2, HG2⟩)
    | (go_at_call 13; with_reducible refine Calls.mono (HR.out _ _) ?_; rintro e w3 ⟨rfl, rfl⟩; have H3 := HFi.out _ _ _ _ _ _ _ _ HS1 HP1 HB1 HK1 HA2 HB2 HG2)
    | (go_at_call 14; with_reducible refine Calls.mono (HA.out _ _ _ _ _ _ _ _ H3.out) ?_; rintro e w4 ⟨rfl, H4⟩)
    | (go_at_call 14; with_reducible refine Calls.mono (HB.out _ _ _ _ _ _ _ _ H4.out) ?_; rintro e w5 ⟨rfl, H5⟩)
    | (go_at_call 15; with_reducible refine Calls.mono (HT.out _ _ _ _ _ _ _ _ H5.out) ?_; rintro e w6 ⟨rfl, H6⟩)
    | (go_at_call 16; with_reducible refine Calls.mono (HD.out _ _ _ _ _ _ _ _ H6.out) ?_; rintro e w7 ⟨ao, n, cap, rfl, H7⟩)
    | (go_at_call 11; with_reducible refine Calls.mono (HF.out _ _ _ _ _ _ _ _ (HP.out _ _ _ _ _ _ _ _ _ H7.out (bel1 _ _))) ?_; rintro e w8 ⟨rfl, H8⟩))
  go_ret
  exact ⟨rfl, H8.out⟩
end Go.Proofs.YtpllckgpolhafaaGreatDoor
