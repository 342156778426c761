/- RecorderTurns: the first state; awake. Own work of the verifier. -/
import Derived.Test.YtaeapikhhbjlnaaGreatDoorZAZ
import Derived.Test.YtaeapikhhbjlnaaGreatDoorZBN
import Derived.Test.YtaeapikhhbjlnaaGreatDoorZBO
import Derived.Test.YtaeapikhhbjlnaaGreatDoorOGc
import Derived.Test.YtaeapikhhbjlnaaGreatDoorOGs
namespace Go.Proofs.YtaeapikhhbjlnaaGreatDoor
open Go.RowKit

theorem ap_of {T : TypeId} {s c : Nat} {h : Nat → Nat} {G : Nat → List Nat} {C : Nat → Nat → List Int} {wd n : Nat} {w : World} (H : SlG T s c h G C wd n w) (hn : 0 < n) {x : Nat} {cs : Array Value} {t : TypeId} {z : Nat × Nat} (hx : w.heap[x]? = some (.cells cs t z)) (ht : t ≠ 108) {v : Value} (hv : w.cell? ⟨x, 0, none⟩ = some v) (h1 : ∀ T u, v ≠ .iface T u) (h2 : ∀ a n c, v ≠ .slice a n c) (y : Nat) (hy : y = s ∨ y = c ∨ y = h 0 ∨ y = h 1 ∨ y ∈ G 0 ++ G 1) : y ≠ x := fun e => by
  have hr : ∀ b, b < 2 → ∃ u1 u2 u3, w.cell? ⟨h b, 0, none⟩ = some (.slice u1 u2 u3) := fun b hb => ⟨_, _, _, H.rows b hb 0 (by rw [H.len b hb]; exact hn)⟩
  rcases hy with rfl | rfl | rfl | rfl | hy
  · have := H.slab
    rw [e, hv] at this
    injection this with this
    exact h1 _ _ this
  · obtain ⟨cap, hc⟩ := H.held 0 (by decide)
    rw [e, hv] at hc
    injection hc with this
    exact h2 _ _ _ this
  · obtain ⟨u1, u2, u3, hu⟩ := hr 0 (by decide)
    rw [e, hv] at hu
    injection hu with this
    exact h2 _ _ _ this
  · obtain ⟨u1, u2, u3, hu⟩ := hr 1 (by decide)
    rw [e, hv] at hu
    injection hu with this
    exact h2 _ _ _ this
  · exact H.not_row hx ht (e ▸ hy)
theorem CV_zero (a : Nat) (b i : Nat) : CV a (fun _ => 0) b i = [0, 0] := by
  unfold CV
  split
  · exact cw_zero
  · rfl
/-- The state when all is made. -/
theorem ts_first {w w1 w2 W : World} {k p N s c : Nat} {h : Nat → Nat} {G : Nat → List Nat} (hN : 0 < N) (hS : Sh w1 k p 0 0 0) (hP : Ph w1 p 0 0 (-9223372036854775808)) (hb1 : Below w.heap.size w w1) (hk : w.heap.size ≤ k ∧ w.heap.size ≤ p)
    (hA : SlabAt 204 s c h G (fun _ => [0, 0]) N w2) (hb2 : Below w1.heap.size w1 w2) (hg : ∀ g ∈ G 0 ++ G 1, w1.heap.size ≤ g) (hb3 : Below w2.heap.size w2 W) (hR : ∀ j, j < N → Rc W (w2.heap.size + j) k (j : Int) false) :
    TS w k p (fun j => w2.heap.size + j) N s c h G 0 0 0 false 0 0 (fun _ => 0) W := by
  have hb := bt hb2 hb3
  have hS2 : Sh W k p 0 0 0 := (Chg.of_below (S := fun _ => False) hb).Sh hS (fun q => q)
  have hP2 : Ph W p 0 0 (-9223372036854775808) := (Chg.of_below (S := fun _ => False) hb).Ph hP (fun q => q)
  have hSl : SlG 204 s c h G (CV 0 (fun _ => 0)) 2 N W := (hA.gen.below hb3).same (fun b _ i _ => (CV_zero 0 b i).symm)
  exact ⟨hS2, ⟨_, hP2⟩, hR, hSl, bt hb1 hb, hk.1, hk.2, fun g hm => Nat.le_trans hb1.size (hg g hm), fun x hx => ⟨ap_of hSl hN hS2 (by decide) hS2.cells.1 (fun _ _ e => by cases e) (fun _ _ _ e => by cases e) x hx, ap_of hSl hN hP2 (by decide) hP2.cells.1 (fun _ _ e => by cases e) (fun _ _ _ e => by cases e) x hx⟩⟩
theorem cel_4 : celF 1 1 1 ≤ 1048576 := by decide +kernel
theorem newc (N : Nat) (h1 : 1 ≤ N) (h2 : N ≤ 16) (hc : celF 1 (N : Int) 1 ≤ 1048576) (W : World) : Calls Tryz.prog 9 #[.int .i64 1, .int .i64 (N : Int), .int .i64 1] W fun e w' => ∃ sb c h G, e = .returned (.tuple #[.pointer (some ⟨sb, 0, none⟩), .int .i64 0]) ∧ Hid (SlabAt 204 sb c h G (fun _ => [0, 0]) N w') ∧ Hid (Below W.heap.size W w') ∧ Hid (∀ g ∈ G 0 ++ G 1, W.heap.size ≤ g) := new_counter N 1 h1 h2 (by decide) (by decide) hc W
theorem upV_one (x : Int) : ∀ i, i < 1 → upV (fun _ => (0 : Int)) 0 x i = x := fun i hi => by
  obtain rfl : i = 0 := by omega
  rfl
theorem CV_up {a b i j : Nat} {V : Nat → Int} {x : Int} (hb : b = a) : CV a (upV V j x) b i = cw (upV V j x i) := by subst hb; exact CV_at _ _ _
theorem five_hi : hiOf 5 = 0 := by decide
theorem five_lo : loOf 5 = 5 := by decide
set_option maxHeartbeats 4000000 in
theorem awake_any (w : World) : Calls Tryz.prog 7 #[] w fun e w' => e = .returned (.bool true) ∧ Below w.heap.size w w' := by
  have HN : Hid (∀ _ : Unit, _) := fun _ => rnew_any w
  have HM : Hid (∀ W : World, Calls Tryz.prog 9 #[.int .i64 1, .int .i64 1, .int .i64 1] W fun e w' => ∃ sb c h G, e = .returned (.tuple #[.pointer (some ⟨sb, 0, none⟩), .int .i64 0]) ∧ Hid (SlabAt 204 sb c h G (fun _ => [0, 0]) 1 w') ∧ Hid (Below W.heap.size W w') ∧ Hid (∀ g ∈ G 0 ++ G 1, W.heap.size ≤ g)) := newc 1 (by decide) (by decide) cel_4
  have HR : Hid (∀ (k : Nat) (W : World), _) := fun k W => rrec_any k 0 W
  have HA : Hid (∀ k p rc s c h G W, TS w k p rc 1 s c h G 0 0 0 false 0 0 (fun _ => 0) W → Calls Tryz.prog 30 #[.pointer (some ⟨rc 0, 0, none⟩), .pointer none, .pointer (some ⟨s, 0, none⟩), .int .i64 5] W fun e w' => e = .returned (.int .i64 0) ∧ Hid (TS w k p rc 1 s c h G 0 0 0 false 1 0 (upV (fun _ => 0) 0 5) w')) := fun k p rc s c h G W H => Calls.mono (H.add_ok (by decide) (by decide) (by decide) (by decide) (by decide) (by decide) 5 (by decide) (by decide) (by decide) (by decide)) (fun e w' q => ⟨q.1, q.2.1⟩)
  have HB : Hid (∀ k p rc s c h G W, TS w k p rc 1 s c h G 0 0 0 false 1 0 (upV (fun _ => 0) 0 5) W → Calls Tryz.prog 30 #[.pointer (some ⟨rc 0, 0, none⟩), .pointer none, .pointer (some ⟨s, 0, none⟩), .int .i64 (-1)] W fun e w' => e = .returned (.int .i64 2) ∧ Hid (TS w k p rc 1 s c h G 0 1 0 false 2 0 (upV (fun _ => 0) 0 5) w')) := fun k p rc s c h G W H => Calls.mono (H.add_no (by decide) (by decide) (by decide) (by decide) (by decide) (by decide) (-1) (by decide)) (fun e w' q => ⟨q.1, by have := q.2.1; rw [show bmp 2 0 0 0 = 1 by decide +kernel, show bmp 2 0 1 0 = 0 by decide +kernel] at this; exact this⟩)
  have HT : Hid (∀ k p rc s c h G W, TS w k p rc 1 s c h G 0 1 0 false 2 0 (upV (fun _ => 0) 0 5) W → Calls Tryz.prog 31 #[.pointer (some ⟨k, 0, none⟩), .pointer none] W fun e w' => e = .returned (.tuple #[.int .i64 0, .int .i64 0]) ∧ Hid (TS w k p rc 1 s c h G 1 1 0 true 0 0 (upV (fun _ => 0) 0 5) w')) := fun k p rc s c h G W H => Calls.mono (H.turn (by decide) (by decide)) (fun e w' q => ⟨q.1, q.2.1⟩)
  have HD : Hid (∀ k p rc s c h G W, TS w k p rc 1 s c h G 1 1 0 true 0 0 (upV (fun _ => 0) 0 5) W → Calls Tryz.prog 32 #[.pointer (some ⟨s, 0, none⟩), .pointer none, .int .i64 0] W fun e w' => ∃ ao n cap, e = .returned (.tuple #[.agg #[.int .i64 0, .int .u64 5, .slice ao n cap, .int .u64 0, .complex .f64 0 0, .float .f64 0, .float .f64 0], .int .i64 0]) ∧ Hid (TS w k p rc 1 s c h G 1 1 0 true 0 0 (fun _ => 0) w')) := fun k p rc s c h G W H => by
    refine Calls.mono (H.drain (by decide) (b := 0) (by decide) (fun _ => 5) (fun _ _ => ⟨by decide, by decide⟩) (fun i hi => ?_) (fun _ => 0) (fun b' hb' i hi => ?_) 5 (by decide)) ?_
    · rw [CV_up rfl, upV_one 5 i hi]
    · rw [CV_zero]
      unfold upB CV
      split <;> rfl
    · rintro e w' ⟨ao, n, cap, rfl, q, _⟩
      exact ⟨ao, n, cap, by rw [five_hi, five_lo], q⟩
  have HF : Hid (∀ k p rc s c h G W, TS w k p rc 1 s c h G 1 1 0 true 0 0 (fun _ => 0) W → Calls Tryz.prog 13 #[.pointer (some ⟨k, 0, none⟩), .pointer none, .int .i64 0] W fun e w' => e = .returned (.int .u64 1) ∧ Hid (Below w.heap.size w w')) := fun k p rc s c h G W H => Calls.mono H.ref0 (fun e w' q => ⟨q.1, q.2.1.out.bel⟩)
  have HP : Hid (∀ k p rc s c h G W W', TS w k p rc 1 s c h G 1 1 0 true 0 0 (fun _ => 0) W → Below W.heap.size W W' → TS w k p rc 1 s c h G 1 1 0 true 0 0 (fun _ => 0) W') := fun k p rc s c h G W W' H hb => H.below hb
  have HFi : Hid (∀ (w1 w2 : World) (k p s c : Nat) (h : Nat → Nat) (G : Nat → List Nat), Hid (Sh w1 k p 0 0 0) → Hid (Ph w1 p 0 0 (-9223372036854775808)) → Hid (Below w.heap.size w w1) → Hid (w.heap.size ≤ k ∧ w.heap.size ≤ p) → Hid (SlabAt 204 s c h G (fun _ => [0, 0]) 1 w2) → Hid (Below w1.heap.size w1 w2) → Hid (∀ g ∈ G 0 ++ G 1, w1.heap.size ≤ g) → Hid (TS w k p (fun j => w2.heap.size + j) 1 s c h G 0 0 0 false 0 0 (fun _ => 0) (w2.alloc (.cells #[.pointer (some ⟨k, 0, none⟩), .int .i64 0, .bool false] 189)))) := fun w1 w2 k p s c h G a1 a2 a3 a4 a5 a6 a7 => ts_first (by decide) a1 a2 a3 a4 a5 a6 a7 (bel1 _ _) (fun j hj => by
    obtain rfl : j = 0 := by omega
    exact new_1 w2 _)
  have sF := store_f
  have sC := store_c
  go_enter Tryz.func7, Tryz.ntmps7
  go_wp2_with (first
    | (go_at_call 8; with_reducible refine Calls.mono (HN.out ()) ?_; rintro e w1 ⟨k, p, rfl, HS1, HP1, HB1, HK1⟩)
    | (go_at_call 9; with_reducible refine Calls.mono (HM.out _) ?_; rintro e w2 ⟨s, c, h, G, rfl, HA2, HB2, HG2⟩)
    | (go_at_call 29; with_reducible refine Calls.mono (HR.out _ _) ?_; rintro e w3 ⟨rfl, rfl⟩; have H3 := HFi.out _ _ _ _ _ _ _ _ HS1 HP1 HB1 HK1 HA2 HB2 HG2)
    | (go_at_call 30; with_reducible refine Calls.mono (HA.out _ _ _ _ _ _ _ _ H3.out) ?_; rintro e w4 ⟨rfl, H4⟩)
    | (go_at_call 30; with_reducible refine Calls.mono (HB.out _ _ _ _ _ _ _ _ H4.out) ?_; rintro e w5 ⟨rfl, H5⟩)
    | (go_at_call 31; with_reducible refine Calls.mono (HT.out _ _ _ _ _ _ _ _ H5.out) ?_; rintro e w6 ⟨rfl, H6⟩)
    | (go_at_call 32; with_reducible refine Calls.mono (HD.out _ _ _ _ _ _ _ _ H6.out) ?_; rintro e w7 ⟨ao, n, cap, rfl, H7⟩)
    | (go_at_call 13; with_reducible refine Calls.mono (HF.out _ _ _ _ _ _ _ _ (HP.out _ _ _ _ _ _ _ _ _ H7.out (bel1 _ _))) ?_; rintro e w8 ⟨rfl, H8⟩))
  go_ret
  exact ⟨rfl, H8.out⟩
end Go.Proofs.YtaeapikhhbjlnaaGreatDoor
/- THE CODE's SLABS, of any kind. Own work of the verifier. -/
namespace Go.Proofs.YtaeapikhhbjlnaaGreatDoor
open Go.RowKit

/-- A slab: its kind, its blocks. -/
structure SlK where
  kd : Int
  s : Nat
  c : Nat
  h : Nat → Nat
  G : Nat → List Nat
/-- A block of a slab. -/
def SlK.Blk (X : SlK) (x : Nat) : Prop := x = X.s ∨ x = X.c ∨ x = X.h 0 ∨ x = X.h 1 ∨ x ∈ X.G 0 ++ X.G 1
def tyK (kd : Int) : TypeId := if kd = 1 then 204 else if kd = 2 then 210 else 213
/-- A slab in memory, with any contents. -/
structure SlW (X : SlK) (p n : Nat) (C : Nat → Nat → List Int) (w : World) : Prop where
  kd : X.kd = 1 ∨ X.kd = 2 ∨ X.kd = 3
  g : SlG (tyK X.kd) X.s X.c X.h X.G C (wdF X.kd p) n w
  pc : X.kd = 2 → w.cell? ⟨X.c, 2, none⟩ = some (.int .i64 (p : Int))
theorem SlW.chg {X : SlK} {p n : Nat} {C : Nat → Nat → List Int} {w w' : World} {S : Nat → Prop} (H : SlW X p n C w) (hc : Chg S w w') (hS : ∀ x, X.Blk x → ¬ S x) : SlW X p n C w' :=
  ⟨H.kd, H.g.chg (fun x hx k => hc.block x hx (hS x k)), fun k => hc.cell (H.pc k) (hS _ (Or.inr (Or.inl rfl)))⟩
theorem SlW.below {X : SlK} {p n : Nat} {C : Nat → Nat → List Int} {w w' : World} (H : SlW X p n C w) (hb : Below w.heap.size w w') : SlW X p n C w' := H.chg (S := fun _ => False) (Chg.of_below hb) (fun _ _ k => k)
theorem SlW.drew {X : SlK} {p n : Nat} {C : Nat → Nat → List Int} {w : World} (H : SlW X p n C w) : SlW X p n C w.drew := H.chg (S := fun _ => False) (Chg.refl _ _).drew (fun _ _ k => k)
theorem SlW.lt {X : SlK} {p n : Nat} {C : Nat → Nat → List Int} {w : World} (H : SlW X p n C w) (hn : 0 < n) {x : Nat} (hx : X.Blk x) : x < w.heap.size := by
  rcases hx with rfl | rfl | rfl | rfl | h
  · exact lt_of_cell H.g.slab
  · obtain ⟨cap, h⟩ := H.g.held 0 (by decide)
    exact lt_of_cell h
  · exact lt_of_cell (H.g.rows 0 (by decide) 0 (by rw [H.g.len 0 (by decide)]; exact hn))
  · exact lt_of_cell (H.g.rows 1 (by decide) 0 (by rw [H.g.len 1 (by decide)]; exact hn))
  · exact H.g.lt h
/-- What New tells, where it makes a slab. -/
theorem newK (kd : Int) (hk : kd = 1 ∨ kd = 2 ∨ kd = 3) (n p : Nat) (h1 : 1 ≤ n) (h2 : n ≤ 16) (h3 : 1 ≤ p) (h4 : p ≤ 14) (hc : celF kd (n : Int) (p : Int) ≤ 1048576) (w : World) :
    Calls Tryz.prog 9 #[.int .i64 kd, .int .i64 (n : Int), .int .i64 (p : Int)] w fun e w' => ∃ X : SlK, e = .returned (.tuple #[.pointer (some ⟨X.s, 0, none⟩), .int .i64 0]) ∧ Hid (X.kd = kd ∧ SlW X p n (fun _ _ => frst kd (p : Int)) w' ∧ Below w.heap.size w w' ∧ ∀ g ∈ X.G 0 ++ X.G 1, w.heap.size ≤ g) := by
  rcases hk with rfl | rfl | rfl
  · refine Calls.mono (new_counter n (p : Int) h1 h2 (by omega) (by omega) hc w) ?_
    rintro e w' ⟨sb, c, h, G, rfl, hA, hb, hg⟩
    exact ⟨⟨1, sb, c, h, G⟩, rfl, rfl, ⟨Or.inl rfl, hA.gen, fun k => absurd (show (1 : Int) = 2 from k) (by decide)⟩, hb, hg⟩
  · refine Calls.mono (new_histogram_p n (p : Int) h1 h2 (by omega) (by omega) _ rfl hc w) ?_
    rintro e w' ⟨sb, c, h, G, rfl, hA, hp, hb, hg⟩
    refine ⟨⟨2, sb, c, h, G⟩, rfl, rfl, ⟨Or.inr (Or.inl rfl), ?_, fun _ => hp⟩, hb, hg⟩
    have := hA.gen
    rw [List.length_replicate] at this
    exact this
  · refine Calls.mono (new_summary n (p : Int) h1 h2 (by omega) (by omega) hc w) ?_
    rintro e w' ⟨sb, c, h, G, rfl, hA, hb, hg⟩
    refine ⟨⟨3, sb, c, h, G⟩, rfl, rfl, ⟨Or.inr (Or.inr rfl), ?_, fun k => absurd (show (3 : Int) = 2 from k) (by decide)⟩, hb, hg⟩
    have := hA.gen
    rw [← sNil_eq] at this
    exact this
/-- .. and where it makes none. -/
theorem newNo (kd s p : Int) (h : ¬ ((kd = 1 ∨ kd = 2 ∨ kd = 3) ∧ okS s p ∧ celF kd s p ≤ 1048576)) (w : World) :
    Calls Tryz.prog 9 #[.int .i64 kd, .int .i64 s, .int .i64 p] w fun e w' => ∃ er : Int, e = .returned (.tuple #[.pointer none, .int .i64 er]) ∧ ¬ er = 0 ∧ Hid (Below w.heap.size w w') := by
  by_cases hk : kd = 1 ∨ kd = 2 ∨ kd = 3
  · by_cases ho : okS s p
    · have hc : 1048576 < celF kd s p := by
        rcases Int.lt_or_le 1048576 (celF kd s p) with q | q
        · exact q
        · exact absurd ⟨hk, ho, q⟩ h
      rcases hk with rfl | rfl | rfl
      · exact Calls.mono (new_room_counter s p ho hc w) (fun e w' q => ⟨13, q.1, by decide, q.2⟩)
      · exact Calls.mono (new_room_histogram s p ho hc w) (fun e w' q => ⟨13, q.1, by decide, q.2⟩)
      · exact Calls.mono (new_room_summary s p ho hc w) (fun e w' q => ⟨13, q.1, by decide, q.2⟩)
    · rcases hk with rfl | rfl | rfl
      · exact Calls.mono (new_arg_counter s p ho w) (fun e w' q => ⟨1, q.1, by decide, q.2⟩)
      · exact Calls.mono (new_arg_histogram s p ho w) (fun e w' q => ⟨1, q.1, by decide, q.2⟩)
      · exact Calls.mono (new_arg_summary s p ho w) (fun e w' q => ⟨1, q.1, by decide, q.2⟩)
  · exact Calls.mono (new_none kd s p (fun k => hk (Or.inl k)) (fun k => hk (Or.inr (Or.inl k))) (fun k => hk (Or.inr (Or.inr k))) w) (fun e w' q => ⟨7, q.1, by decide, q.2⟩)
/-- What Drain tells and leaves, of any kind. -/
theorem drainK {X : SlK} {p n t : Nat} {C : Nat → Nat → List Int} {w : World} (H : SlW X p n C w) (hn : n ≤ 16) (h1 : 1 ≤ p) (h2 : p ≤ 14) (ht : t < 70368744177664) (b : Nat) (hb : b < 2) (hr : ∀ i, i < n → RowOk X.kd p t (C b i)) :
    Calls Tryz.prog 32 #[.pointer (some ⟨X.s, 0, none⟩), .pointer none, .int .i64 (b : Int)] w fun e w' => ∃ (P : Pt) (ao : Option Addr) (k cap : Nat), e = .returned (.tuple #[.agg #[.int .i64 P.hi, .int .u64 P.lo, .slice ao k cap, .int .u64 (P.n : Int), .complex .f64 P.s P.c, .float .f64 P.mn, .float .f64 P.mx], .int .i64 0]) ∧ Hid (FoldR (fun i => ptF X.kd (C b i)) n P ∧ P.Ok 1048576 ∧ w'.ownsRow w.heap.size 222 2 (.slice ao k cap) P.L.length (fl P.L) ∧ SlW X p n (upB C b (fun _ => frst X.kd (p : Int))) w' ∧ Chg (fun x => x ∈ X.G 0 ++ X.G 1) w w') := by
  obtain ⟨kd, s, c, h, G⟩ := X
  have hlen := H.g.len b hb
  have hB := H.g.buf b hb (fun _ => 0) (fun _ => 0) (frst kd (p : Int))
  have hl : (rwG (G b) (C b) (fun _ => 0) (fun _ => 0) (frst kd (p : Int))).length = n := by rw [rwG_len]; exact hlen
  have fin : ∀ e w', DrPQ 1048576 (rwG (G b) (C b) (fun _ => 0) (fun _ => 0) (frst kd (p : Int))) (fun i => ptF kd (C b i)) w e w' → ∃ (P : Pt) (ao : Option Addr) (k cap : Nat), e = .returned (.tuple #[.agg #[.int .i64 P.hi, .int .u64 P.lo, .slice ao k cap, .int .u64 (P.n : Int), .complex .f64 P.s P.c, .float .f64 P.mn, .float .f64 P.mx], .int .i64 0]) ∧ Hid (FoldR (fun i => ptF kd (C b i)) n P ∧ P.Ok 1048576 ∧ w'.ownsRow w.heap.size 222 2 (.slice ao k cap) P.L.length (fl P.L) ∧ SlW ⟨kd, s, c, h, G⟩ p n (upB C b (fun _ => frst kd (p : Int))) w' ∧ Chg (fun x => x ∈ G 0 ++ G 1) w w') := fun e w' q => by
    obtain ⟨P, ao, k, cap, rfl, hF, hP, ho, hW⟩ := q
    rw [hl] at hF hW
    have hoff : Off (G b) w w' := by have := hW.off; rw [rwG_g] at this; exact this
    have hchg : Chg (fun x => x ∈ G 0 ++ G 1) w w' := off_chg hoff (fun x hx => mem_of hb hx)
    refine ⟨P, ao, k, cap, rfl, hF, hP, ho, ⟨H.kd, H.g.rowsNow b hb _ (fun i _ => (RowOk.first (p := p) H.kd 0).len) hoff (fun i hi => ?_), fun k2 => hchg.cell (H.pc k2) H.g.c_ne⟩, hchg⟩
    have hi2 : i < (rwG (G b) (C b) (fun _ => 0) (fun _ => 0) (frst kd (p : Int))).length := by rw [rwG_len]; exact hi
    have := hW.done i hi2 (by rw [hlen] at hi; exact hi)
    rw [rwG_get _ _ _ _ _ i hi2] at this
    exact this
  have hD : ∀ fd, (∀ i, i < n → DrainsP fd (.pointer (some ⟨c, 0, none⟩)) (C b i) (ptF kd (C b i)) (frst kd (p : Int))) → ∀ i (hi : i < (rwG (G b) (C b) (fun _ => 0) (fun _ => 0) (frst kd (p : Int))).length), DrainsP fd (.pointer (some ⟨c, 0, none⟩)) (rwG (G b) (C b) (fun _ => 0) (fun _ => 0) (frst kd (p : Int)))[i].xs (ptF kd (C b i)) (rwG (G b) (C b) (fun _ => 0) (fun _ => 0) (frst kd (p : Int)))[i].ys ∧ (ptF kd (C b i)).Ok 1048576 := fun fd q i hi => by
    have hi3 : i < n := by rw [hl] at hi; exact hi
    rw [rwG_get _ _ _ _ _ i hi]
    exact ⟨q i hi3, ((hr i hi3).ok h1 h2 ht).1⟩
  have hbnd : (rwG (G b) (C b) (fun _ => 0) (fun _ => 0) (frst kd (p : Int))).length < 1000 := by rw [hl]; omega
  rcases H.kd with e | e | e
  · have e : kd = 1 := e
    subst e
    refine Calls.mono (drainP_counter 1048576 (by decide) s c b (h b) hb _ (fun i => ptF 1 (C b i)) w hB (hD _ (fun i hi W g hW => ?_)) hbnd) fin
    obtain ⟨hl1, hws⟩ := (hr i hi).is1
    obtain ⟨lo, hi', cs, e2⟩ := two_list (row := C b i) (by omega)
    rw [e2] at hl1 hW hws ⊢
    have : cs = [] := by simpa using hl1
    subst this
    refine Calls.mono (cdrain_any (.pointer (some ⟨c, 0, none⟩)) g 2 lo hi' [] W hW) ?_
    rintro e w' ⟨rfl, hR, hM⟩
    exact ⟨none, 0, 0, rfl, GC.sn (B := w'.heap.size) (W0 := w') ⟨World.ownsRow_nil _ _ _ _, Below.refl _ _, Nat.le_refl _⟩, hR, hM⟩
  · have e : kd = 2 := e
    subst e
    refine Calls.mono (drainP_histogram 1048576 (by decide) s c b (h b) hb _ (fun i => ptF 2 (C b i)) w hB (hD _ (fun i hi W g hW => ?_)) hbnd) fin
    obtain ⟨hl1, hws⟩ := (hr i hi).is2
    obtain ⟨lo, hi', cs, e2⟩ := two_list (row := C b i) (by omega)
    have hL := Lg_le14 h1 h2
    rw [e2] at hl1 hW hws ⊢
    simp at hl1
    refine Calls.mono (hdrain_any (.pointer (some ⟨c, 0, none⟩)) g lo hi' cs (by omega) (fun x hx => hws x (by simp [hx])) W hW) ?_
    rintro e w' ⟨ao, m, cap, rfl, hO, hR, hM⟩
    refine ⟨ao, m, cap, rfl, own_sn hO.out hM.out.size, ?_, hM⟩
    have hR' := hR.out
    rw [hl1] at hR'
    exact hR'
  · have e : kd = 3 := e
    subst e
    refine Calls.mono (drainP_summary 1048576 (by decide) s c b (h b) hb _ (fun i => ptF 3 (C b i)) w hB (hD _ (fun i hi W g hW => ?_)) hbnd) fin
    obtain ⟨k, s', c', mn, mx, hk, e2, hS⟩ := (hr i hi).is3
    rw [e2] at hW ⊢
    unfold ptF
    rw [if_pos rfl, ptS_row hS.hs hS.hc hS.hmn hS.hmx]
    have hu : uw (k : Int) = (k : Int) := by rw [uw_eq]; omega
    refine Calls.mono (sdrain_any (.pointer (some ⟨c, 0, none⟩)) g (k : Int) s' c' mn mx hS.hs hS.hc hS.hmn hS.hmx W hW _ rfl) ?_
    rintro e w' ⟨rfl, hR, hM⟩
    rw [hu]
    by_cases h0 : (k : Int) = 0
    · rw [if_pos h0, decide_eq_true h0]
      exact ⟨none, 0, 0, rfl, GC.sn (B := w'.heap.size) (W0 := w') ⟨World.ownsRow_nil _ _ _ _, Below.refl _ _, Nat.le_refl _⟩, hR, hM⟩
    · rw [if_neg h0, decide_eq_false h0]
      exact ⟨none, 0, 0, by simp, GC.sn (B := w'.heap.size) (W0 := w') ⟨World.ownsRow_nil _ _ _ _, Below.refl _ _, Nat.le_refl _⟩, hR, hM⟩
end Go.Proofs.YtaeapikhhbjlnaaGreatDoor
/- THE CODE's RECORDS over a slab of any kind. Own work of the verifier. -/
namespace Go.Proofs.YtaeapikhhbjlnaaGreatDoor
open Go.RowKit

/-- What a record answers, in all. -/
def ansF (why st : Int) (n : Nat) : Int := if why = 0 then (if 0 ≤ st ∧ st < (n : Int) then 0 else 1) else why
/-- What a slab holds behind a record. -/
noncomputable def nxC (kind : Int) (p : Nat) (C : Nat → Nat → List Int) (a : Nat) (st n : Int) (f : Nat) (er : Int) : Nat → Nat → List Int := if er = 0 then upC C a st.toNat (layD kind p (C a st.toNat) n f) else C
theorem nxC_no {kind : Int} {p : Nat} {C : Nat → Nat → List Int} {a : Nat} {st n : Int} {f : Nat} {er : Int} (h : ¬ er = 0) : nxC kind p C a st n f er = C := if_neg h
theorem nxC_ok {kind : Int} {p : Nat} {C : Nat → Nat → List Int} {a : Nat} {i : Nat} {n : Int} {f : Nat} : nxC kind p C a (i : Int) n f 0 = upC C a i (layD kind p (C a i) n f) := by
  unfold nxC
  rw [if_pos rfl, Int.toNat_natCast]
section
variable {X : SlK} {p n t : Nat} {C : Nat → Nat → List Int} {w : World} {rc k ph a m f : Nat} {r0 r1 st x : Int} {neg cl : Bool}
/-- What a record finds. -/
structure RcK (X : SlK) (p n t : Nat) (C : Nat → Nat → List Int) (rc k ph a m : Nat) (r0 r1 st : Int) (neg cl : Bool) (w : World) : Prop where
  sl : SlW X p n C w
  n0 : 0 < n
  n16 : n ≤ 16
  p1 : 1 ≤ p
  p2 : p ≤ 14
  a2 : a < 2
  mm : m < 4611686018427387904
  i0 : In64 r0
  i1 : In64 r1
  rcd : Rc w rc k st cl
  sh : Sh w k ph a r0 r1
  pq : Pq w ph neg m
  ap : ∀ x, X.Blk x → x ≠ k ∧ x ≠ ph
  rows : ∀ b, b < 2 → ∀ i, i < n → RowOk X.kd p t (C b i)
  tt : t < 70368744177664
/-- What a record leaves. -/
def RcQ (X : SlK) (p n : Nat) (C' : Nat → Nat → List Int) (k ph a m : Nat) (r0 r1 : Int) (neg : Bool) (er : Int) (w w' : World) : Prop :=
  Sh w' k ph a (bmp er a 0 r0) (bmp er a 1 r1) ∧ Pq w' ph neg (m + 1) ∧ SlW X p n C' w' ∧ Chg (fun x => x ∈ X.G 0 ++ X.G 1 ∨ x = k ∨ x = ph) w w'
theorem RcK.gs (H : RcK X p n t C rc k ph a m r0 r1 st neg cl w) : ∀ x, x ∈ X.G 0 ++ X.G 1 → x ≠ k ∧ x ≠ ph ∧ x ≠ rc ∧ x < w.heap.size := fun x hx => by
  have h1 := H.ap x (Or.inr (Or.inr (Or.inr (Or.inr hx))))
  exact ⟨h1.1, h1.2, fun e => H.sl.g.not_row (k := rc) H.rcd (by decide) (by rw [← e]; exact hx), H.sl.g.lt hx⟩
theorem RcK.stay {C' : Nat → Nat → List Int} (ap : ∀ x, X.Blk x → x ≠ k ∧ x ≠ ph) {W W' : World} (h : SlW X p n C' W) (hc : Chg (fun x => x = k ∨ x = ph) W W') : SlW X p n C' W' := h.chg hc (fun x hx q => by
  have := ap x hx
  rcases q with q | q
  · exact this.1 q
  · exact this.2 q)
theorem RcK.at_ (H : RcK X p n t C rc k ph a m r0 r1 st neg cl w) {W : World} (hc : Chg (fun x => x = ph) w W) : SlW X p n C W := H.sl.chg hc (fun x hx q => (H.ap x hx).2 q)
theorem RcK.closed (H : RcK X p n t C rc k ph a m r0 r1 st neg true w) {W : World} (h : Sh W k ph a (bmp 8 a 0 r0) (bmp 8 a 1 r1) ∧ Pq W ph neg (m + 1) ∧ Chg (fun x => x = k ∨ x = ph) w W) : RcQ X p n C k ph a m r0 r1 neg 8 w W := ⟨h.1, h.2.1, RcK.stay H.ap H.sl h.2.2, h.2.2.mono (fun _x hx => Or.inr hx)⟩
theorem in_range {st : Int} {n : Nat} (h : 0 ≤ st ∧ st < (n : Int)) : ∃ i : Nat, st = (i : Int) ∧ i < n := ⟨st.toNat, by omega, by omega⟩
theorem why_closed (kind kd x : Int) (f : Nat) : whyF kind kd x f true = 8 := rfl
/-- Add. -/
theorem recK_add (H : RcK X p n t C rc k ph a m r0 r1 st neg cl w) (hx : In64 x) (er : Int) (her : er = ansF (whyF 4 X.kd x f cl) st n) :
    Calls Tryz.prog 30 #[.pointer (some ⟨rc, 0, none⟩), .pointer none, .pointer (some ⟨X.s, 0, none⟩), .int .i64 x] w fun e w' => e = .returned (.int .i64 er) ∧ Hid (RcQ X p n (nxC 4 p C a st x f er) k ph a m r0 r1 neg er w w') := by
  cases cl
  · have main : ∀ (e0 : Int) (C' : Nat → Nat → List Int), answ e0 (decide (0 ≤ x)) = er → C' = nxC 4 p C a st x f er →
      (∀ W, SlW X p n C W → Calls Tryz.prog 73 #[.pointer (some ⟨X.s, 0, none⟩), .pointer none, .int .i64 (a : Int), .int .i64 st, .int .i64 x] W fun e w' => e = .returned (.int .i64 e0) ∧ SlW X p n C' w' ∧ Chg (fun y => y ∈ X.G 0 ++ X.G 1) W w') →
      Calls Tryz.prog 30 #[.pointer (some ⟨rc, 0, none⟩), .pointer none, .pointer (some ⟨X.s, 0, none⟩), .int .i64 x] w fun e w' => e = .returned (.int .i64 er) ∧ Hid (RcQ X p n (nxC 4 p C a st x f er) k ph a m r0 r1 neg er w w') := fun e0 C' he hC HA => by
      refine Calls.mono (radd_open rc k ph a X.s r0 r1 st x e0 neg m (fun W => SlW X p n C' W) (fun y => y ∈ X.G 0 ++ X.G 1) w H.a2 H.mm H.i0 H.i1 H.rcd H.sh H.pq H.gs (fun W W' hJ hc => RcK.stay H.ap hJ hc) (fun W hW => HA W (H.at_ hW))) ?_
      rintro e w' ⟨rfl, q⟩
      rw [he] at q ⊢
      rw [← hC]
      exact ⟨rfl, q⟩
    by_cases hk : X.kd = 1
    · have hw : whyF 4 X.kd x f false = if x < 0 then 2 else 0 := by
        unfold whyF
        rw [if_neg (by decide), if_pos (show X.kd = kdOf 4 from hk), if_neg (by decide)]
      rw [hw] at her
      have hT : ∀ W, SlW X p n C W → SlG 204 X.s X.c X.h X.G C 2 n W := fun W h => by
        have := h.g
        rw [hk] at this
        exact this
      by_cases hr : 0 ≤ st ∧ st < (n : Int)
      · obtain ⟨i, rfl, hi⟩ := in_range hr
        by_cases hn : x < 0
        · rw [if_pos hn] at her
          have e2 : er = 2 := her
          subst e2
          exact main 2 C rfl (nxC_no (by decide)).symm (fun W hW => Calls.mono (sadd_range X.s X.c X.h X.G C n W (hT W hW) a i H.a2 hi H.n16 x hn) (fun e w' q => ⟨q.1, by rw [q.2]; exact hW, by rw [q.2]; exact Chg.refl _ _⟩))
        · rw [if_neg hn] at her
          have e2 : er = 0 := by rw [her]; unfold ansF; rw [if_pos rfl, if_pos hr]
          subst e2
          have hrow := H.rows a H.a2 i hi
          rw [hk] at hrow
          obtain ⟨hl1, hws⟩ := hrow.is1
          obtain ⟨lo, hi', cs, e2⟩ := two_list (row := C a i) (by omega)
          have : cs = [] := by rw [e2] at hl1; simpa using hl1
          subst this
          refine main 0 (upC C a i (adW [lo, hi'] x)) rfl ?_ (fun W hW => ?_)
          · rw [nxC_ok, e2]
            unfold layD
            rw [if_pos rfl]
          · refine Calls.mono (sadd_ok X.s X.c X.h X.G C n W (hT W hW) a i H.a2 hi H.n16 lo hi' x e2 (hws lo (by rw [e2]; simp)) (hws hi' (by rw [e2]; simp)) (by omega) hx.2) ?_
            rintro e w' ⟨rfl, q1, q2⟩
            obtain ⟨g, hg, hm⟩ := q2.out
            refine ⟨rfl, ⟨hW.kd, ?_, fun k2 => absurd k2 (by rw [hk]; decide)⟩, Chg.of_mid hm hg⟩
            rw [hk]
            exact q1.out
      · have hr' : st < 0 ∨ (n : Int) ≤ st := by omega
        have HA : ∀ W, SlW X p n C W → Calls Tryz.prog 73 #[.pointer (some ⟨X.s, 0, none⟩), .pointer none, .int .i64 (a : Int), .int .i64 st, .int .i64 x] W fun e w' => e = .returned (.int .i64 1) ∧ SlW X p n C w' ∧ Chg (fun y => y ∈ X.G 0 ++ X.G 1) W w' := fun W hW => Calls.mono (sadd_arg X.s X.c X.h X.G C n W (hT W hW) a st H.a2 hr' H.n16 x) (fun e w' q => ⟨q.1, by rw [q.2]; exact hW, by rw [q.2]; exact Chg.refl _ _⟩)
        by_cases hn : x < 0
        · rw [if_pos hn] at her
          have e2 : er = 2 := her
          subst e2
          exact main 1 C (by unfold answ; rw [if_pos ⟨rfl, decide_eq_false (by omega)⟩]) (nxC_no (by decide)).symm HA
        · rw [if_neg hn] at her
          have e2 : er = 1 := by rw [her]; unfold ansF; rw [if_pos rfl, if_neg hr]
          subst e2
          exact main 1 C (by unfold answ; rw [if_neg (fun q => absurd q.2 (by rw [decide_eq_true (by omega : 0 ≤ x)]; decide))]) (nxC_no (by decide)).symm HA
    · have hw : whyF 4 X.kd x f false = 7 := by
        unfold whyF
        rw [if_neg (by decide), if_neg (show ¬ X.kd = kdOf 4 from hk)]
      rw [hw] at her
      have e2 : er = 7 := her
      subst e2
      refine main 7 C rfl (nxC_no (by decide)).symm (fun W hW => Calls.mono (sadd_kind (tyK X.kd) ?_ X.s X.c a st x W hW.g.slab) (fun e w' q => ⟨q.1, by rw [q.2]; exact hW, by rw [q.2]; exact Chg.refl _ _⟩))
      rcases H.sl.kd with q | q | q
      · exact absurd q hk
      · rw [q]; exact Or.inl rfl
      · rw [q]; exact Or.inr rfl
  · rw [why_closed] at her
    have e2 : er = 8 := her
    subst e2
    rw [nxC_no (by decide)]
    refine Calls.mono (radd_closed rc k ph a X.s r0 r1 st x neg m w H.a2 H.mm H.i0 H.i1 H.rcd H.sh H.pq) ?_
    rintro e w' ⟨rfl, q⟩
    exact ⟨rfl, H.closed q.out⟩
/-- Observe. -/
theorem recK_obs (H : RcK X p n t C rc k ph a m r0 r1 st neg cl w) (hx : In64 x) (er : Int) (her : er = ansF (whyF 5 X.kd x f cl) st n) :
    Calls Tryz.prog 85 #[.pointer (some ⟨rc, 0, none⟩), .pointer none, .pointer (some ⟨X.s, 0, none⟩), .int .i64 x] w fun e w' => e = .returned (.int .i64 er) ∧ Hid (RcQ X p n (nxC 5 p C a st x f er) k ph a m r0 r1 neg er w w') := by
  cases cl
  · have main : ∀ (e0 : Int) (C' : Nat → Nat → List Int), answ e0 (decide (0 ≤ x)) = er → C' = nxC 5 p C a st x f er →
      (∀ W, SlW X p n C W → Calls Tryz.prog 135 #[.pointer (some ⟨X.s, 0, none⟩), .pointer none, .int .i64 (a : Int), .int .i64 st, .int .i64 x] W fun e w' => e = .returned (.int .i64 e0) ∧ SlW X p n C' w' ∧ Chg (fun y => y ∈ X.G 0 ++ X.G 1) W w') →
      Calls Tryz.prog 85 #[.pointer (some ⟨rc, 0, none⟩), .pointer none, .pointer (some ⟨X.s, 0, none⟩), .int .i64 x] w fun e w' => e = .returned (.int .i64 er) ∧ Hid (RcQ X p n (nxC 5 p C a st x f er) k ph a m r0 r1 neg er w w') := fun e0 C' he hC HA => by
      refine Calls.mono (robs_open rc k ph a X.s r0 r1 st x e0 neg m (fun W => SlW X p n C' W) (fun y => y ∈ X.G 0 ++ X.G 1) w H.a2 H.mm H.i0 H.i1 H.rcd H.sh H.pq H.gs (fun W W' hJ hc => RcK.stay H.ap hJ hc) (fun W hW => HA W (H.at_ hW))) ?_
      rintro e w' ⟨rfl, q⟩
      rw [he] at q ⊢
      rw [← hC]
      exact ⟨rfl, q⟩
    by_cases hk : X.kd = 2
    · have hw : whyF 5 X.kd x f false = if x < 0 then 2 else 0 := by
        unfold whyF
        rw [if_neg (by decide), if_pos (show X.kd = kdOf 5 from hk), if_neg (by decide)]
      rw [hw] at her
      have hT : ∀ W, SlW X p n C W → SlG 210 X.s X.c X.h X.G C (Lg (p : Int) + 2) n W := fun W h => by
        have := h.g
        rw [hk] at this
        exact this
      by_cases hr : 0 ≤ st ∧ st < (n : Int)
      · obtain ⟨i, rfl, hi⟩ := in_range hr
        by_cases hn : x < 0
        · rw [if_pos hn] at her
          have e2 : er = 2 := her
          subst e2
          exact main 2 C rfl (nxC_no (by decide)).symm (fun W hW => Calls.mono (sobs_range (hT W hW) (hW.pc hk) H.p1 H.p2 a i x H.a2 hi H.n16 hn) (fun e w' q => ⟨q.1, hW.below q.2.out, Chg.of_below q.2.out⟩))
        · rw [if_neg hn] at her
          have e2 : er = 0 := by rw [her]; unfold ansF; rw [if_pos rfl, if_pos hr]
          subst e2
          have hrow := H.rows a H.a2 i hi
          rw [hk] at hrow
          obtain ⟨hl1, hws⟩ := hrow.is2
          obtain ⟨v, rfl⟩ : ∃ v : Nat, x = (v : Int) := ⟨x.toNat, by omega⟩
          refine main 0 (upC C a i (obW p (C a i) v)) rfl ?_ (fun W hW => ?_)
          · rw [nxC_ok]
            unfold layD
            rw [if_neg (by decide), if_pos rfl, Int.toNat_natCast]
          · refine Calls.mono (sobs_ok (hT W hW) (hW.pc hk) H.p1 H.p2 a i v H.a2 hi H.n16 hws (by have := hx.2; omega)) ?_
            rintro e w' ⟨rfl, q⟩
            refine ⟨rfl, ⟨hW.kd, ?_, fun k2 => q.out.2.cell (hW.pc k2) hW.g.c_ne⟩, q.out.2⟩
            rw [hk]
            exact q.out.1
      · have hr' : st < 0 ∨ (n : Int) ≤ st := by omega
        have HA : ∀ W, SlW X p n C W → Calls Tryz.prog 135 #[.pointer (some ⟨X.s, 0, none⟩), .pointer none, .int .i64 (a : Int), .int .i64 st, .int .i64 x] W fun e w' => e = .returned (.int .i64 1) ∧ SlW X p n C w' ∧ Chg (fun y => y ∈ X.G 0 ++ X.G 1) W w' := fun W hW => Calls.mono (sobs_arg (hT W hW) (hW.pc hk) H.p1 H.p2 a st x H.a2 hr' H.n16 hx.2) (fun e w' q => ⟨q.1, hW.below q.2.out, Chg.of_below q.2.out⟩)
        by_cases hn : x < 0
        · rw [if_pos hn] at her
          have e2 : er = 2 := her
          subst e2
          exact main 1 C (by unfold answ; rw [if_pos ⟨rfl, decide_eq_false (by omega)⟩]) (nxC_no (by decide)).symm HA
        · rw [if_neg hn] at her
          have e2 : er = 1 := by rw [her]; unfold ansF; rw [if_pos rfl, if_neg hr]
          subst e2
          exact main 1 C (by unfold answ; rw [if_neg (fun q => absurd q.2 (by rw [decide_eq_true (by omega : 0 ≤ x)]; decide))]) (nxC_no (by decide)).symm HA
    · have hw : whyF 5 X.kd x f false = 7 := by
        unfold whyF
        rw [if_neg (by decide), if_neg (show ¬ X.kd = kdOf 5 from hk)]
      rw [hw] at her
      have e2 : er = 7 := her
      subst e2
      refine main 7 C rfl (nxC_no (by decide)).symm (fun W hW => Calls.mono (sobs_kind (tyK X.kd) ?_ X.s X.c a st x W hW.g.slab) (fun e w' q => ⟨q.1, by rw [q.2]; exact hW, by rw [q.2]; exact Chg.refl _ _⟩))
      rcases H.sl.kd with q | q | q
      · rw [q]; exact Or.inl rfl
      · exact absurd q hk
      · rw [q]; exact Or.inr rfl
  · rw [why_closed] at her
    have e2 : er = 8 := her
    subst e2
    rw [nxC_no (by decide)]
    refine Calls.mono (robs_closed rc k ph a X.s r0 r1 st x neg m w H.a2 H.mm H.i0 H.i1 H.rcd H.sh H.pq) ?_
    rintro e w' ⟨rfl, q⟩
    exact ⟨rfl, H.closed q.out⟩
/-- Sample. -/
theorem recK_sam (H : RcK X p n t C rc k ph a m r0 r1 st neg cl w) (hf : f < 18446744073709551616) (er : Int) (her : er = ansF (whyF 6 X.kd x f cl) st n) :
    Calls Tryz.prog 86 #[.pointer (some ⟨rc, 0, none⟩), .pointer none, .pointer (some ⟨X.s, 0, none⟩), .float .f64 f] w fun e w' => e = .returned (.int .i64 er) ∧ Hid (RcQ X p n (nxC 6 p C a st x f er) k ph a m r0 r1 neg er w w') := by
  cases cl
  · have main : ∀ (e0 : Int) (C' : Nat → Nat → List Int), answ e0 (mayB f) = er → C' = nxC 6 p C a st x f er →
      (∀ W, SlW X p n C W → Calls Tryz.prog 138 #[.pointer (some ⟨X.s, 0, none⟩), .pointer none, .int .i64 (a : Int), .int .i64 st, .float .f64 f] W fun e w' => e = .returned (.int .i64 e0) ∧ SlW X p n C' w' ∧ Chg (fun y => y ∈ X.G 0 ++ X.G 1) W w') →
      Calls Tryz.prog 86 #[.pointer (some ⟨rc, 0, none⟩), .pointer none, .pointer (some ⟨X.s, 0, none⟩), .float .f64 f] w fun e w' => e = .returned (.int .i64 er) ∧ Hid (RcQ X p n (nxC 6 p C a st x f er) k ph a m r0 r1 neg er w w') := fun e0 C' he hC HA => by
      refine Calls.mono (rsam_open rc k ph a X.s r0 r1 st e0 f hf neg m (fun W => SlW X p n C' W) (fun y => y ∈ X.G 0 ++ X.G 1) w H.a2 H.mm H.i0 H.i1 H.rcd H.sh H.pq H.gs (fun W W' hJ hc => RcK.stay H.ap hJ hc) (fun W hW => HA W (H.at_ hW))) ?_
      rintro e w' ⟨rfl, q⟩
      rw [he] at q ⊢
      rw [← hC]
      exact ⟨rfl, q⟩
    by_cases hk : X.kd = 3
    · have hw : whyF 6 X.kd x f false = if mayB f then 0 else 2 := by
        unfold whyF
        rw [if_neg (by decide), if_pos (show X.kd = kdOf 6 from hk), if_pos rfl]
      rw [hw] at her
      have hT : ∀ W, SlW X p n C W → SlG 213 X.s X.c X.h X.G C 5 n W := fun W h => by
        have := h.g
        rw [hk] at this
        exact this
      by_cases hr : 0 ≤ st ∧ st < (n : Int)
      · obtain ⟨i, rfl, hi⟩ := in_range hr
        by_cases hm : mayB f = true
        · rw [if_pos hm] at her
          have e2 : er = 0 := by rw [her]; unfold ansF; rw [if_pos rfl, if_pos hr]
          subst e2
          have hrow := H.rows a H.a2 i hi
          rw [hk] at hrow
          obtain ⟨kk, s, c, mn, mx, hkt, e3, hS⟩ := hrow.is3
          have htt := H.tt
          refine main 0 (upC C a i (smD (kk : Int) s c mn mx f)) rfl ?_ (fun W hW => ?_)
          · rw [nxC_ok, e3]
            unfold layD
            rw [if_neg (by decide), if_neg (by decide), smR_row f hS.hs hS.hc hS.hmn hS.hmx]
          · refine Calls.mono (ssam_okS (hT W hW) a i f H.a2 hi H.n16 (kk : Int) s c mn mx e3 ⟨by omega, by omega⟩ hS.hs hS.hc hS.hmn hS.hmx hf hm) ?_
            rintro e w' ⟨rfl, q⟩
            obtain ⟨r, d, q1, q2, _, _, q3, q4⟩ := q.out
            rw [hS.same (by omega) hf hm q3 q4] at q1
            refine ⟨rfl, ⟨hW.kd, ?_, fun k2 => absurd k2 (by rw [hk]; decide)⟩, q2⟩
            rw [hk]
            exact q1
        · rw [if_neg hm] at her
          have e2 : er = 2 := her
          subst e2
          have hm' : mayB f = false := by simpa using hm
          exact main 2 C rfl (nxC_no (by decide)).symm (fun W hW => Calls.mono (ssam_range (hT W hW) a i f H.a2 hi H.n16 hf hm') (fun e w' q => ⟨q.1, hW.below q.2.out, Chg.of_below q.2.out⟩))
      · have hr' : st < 0 ∨ (n : Int) ≤ st := by omega
        have HA : ∀ W, SlW X p n C W → Calls Tryz.prog 138 #[.pointer (some ⟨X.s, 0, none⟩), .pointer none, .int .i64 (a : Int), .int .i64 st, .float .f64 f] W fun e w' => e = .returned (.int .i64 1) ∧ SlW X p n C w' ∧ Chg (fun y => y ∈ X.G 0 ++ X.G 1) W w' := fun W hW => Calls.mono (ssam_arg (hT W hW) a st f H.a2 hr' H.n16 hf) (fun e w' q => ⟨q.1, hW.below q.2.out, Chg.of_below q.2.out⟩)
        by_cases hm : mayB f = true
        · rw [if_pos hm] at her
          have e2 : er = 1 := by rw [her]; unfold ansF; rw [if_pos rfl, if_neg hr]
          subst e2
          exact main 1 C (by unfold answ; rw [if_neg (fun q => absurd q.2 (by rw [hm]; decide))]) (nxC_no (by decide)).symm HA
        · rw [if_neg hm] at her
          have e2 : er = 2 := her
          subst e2
          have hm' : mayB f = false := by simpa using hm
          exact main 1 C (by unfold answ; rw [if_pos ⟨rfl, hm'⟩]) (nxC_no (by decide)).symm HA
    · have hw : whyF 6 X.kd x f false = 7 := by
        unfold whyF
        rw [if_neg (by decide), if_neg (show ¬ X.kd = kdOf 6 from hk)]
      rw [hw] at her
      have e2 : er = 7 := her
      subst e2
      refine main 7 C (by unfold answ; rw [if_neg (fun q => absurd q.1 (by decide))]) (nxC_no (by decide)).symm (fun W hW => Calls.mono (ssam_kind (tyK X.kd) ?_ X.s X.c a st f W hW.g.slab) (fun e w' q => ⟨q.1, by rw [q.2]; exact hW, by rw [q.2]; exact Chg.refl _ _⟩))
      rcases H.sl.kd with q | q | q
      · rw [q]; exact Or.inl rfl
      · rw [q]; exact Or.inr rfl
      · exact absurd q hk
  · rw [why_closed] at her
    have e2 : er = 8 := her
    subst e2
    rw [nxC_no (by decide)]
    refine Calls.mono (rsam_closed rc k ph a X.s r0 r1 st f hf neg m w H.a2 H.mm H.i0 H.i1 H.rcd H.sh H.pq) ?_
    rintro e w' ⟨rfl, q⟩
    exact ⟨rfl, H.closed q.out⟩
end
end Go.Proofs.YtaeapikhhbjlnaaGreatDoor
