/- PUSH of a snapshot of one value. Own work of the verifier. -/
import Derived.Test.YtgkdggcpplmnaaaGreatZBI
import Derived.Test.YtgkdggcpplmnaaaGreatZBR
namespace Go.Proofs.YtgkdggcpplmnaaaGreat.Ri
open Go.RowKit Me

set_option maxRecDepth 100000 in
set_option maxHeartbeats 4000000 in
theorem push_one (B b n k : Nat) (T : List Int) (R : List Rs) (tv sv : Value) (tm : Int) (p : Int) (x : Vl) (r : Nat) (v : Value) (w : World) (T' : List Int) (R' : Value → List Rs) (k' : Nat)
    (hg : Rg B b n T R k tv sv w) (hBw : B ≤ w.heap.size) (hF : ∀ q ∈ R, Lk1 p x q.1) (hv : SnAt w ⟨p, [x], r⟩ v) (hc : chkS ⟨p, [x], r⟩ = (0, 0)) (hW : SnW ⟨p, [x], r⟩) (hx : x.d.labels.length ≤ 1048576 ∧ x.cs.length ≤ 1048576)
    (hord : R.length = 0 ∨ 0 < R.length ∧ T.getD (plc k (R.length - 1) R.length) 0 < tm)
    (hlay : ∀ W u, Rg B b n T R k tv sv W → B ≤ W.heap.size → OS B (⟨p, [x], r⟩, u) W → Calls Tryz.prog 14 #[.pointer (some ⟨b, 0, none⟩), .int .i64 tm, sx (⟨p, [x], r⟩, u)] W fun e w' => (∃ v, e = .returned v) ∧ ∃ tv' sv', Rg B b n T' (R' u) k' tv' sv' w' ∧ Below B W w') :
    Calls Tryz.prog 6 #[.pointer (some ⟨b, 0, none⟩), .int .i64 tm, v] w fun e w' => e = .returned (.int .i64 0) ∧ ∃ u tv' sv', Rg B b n T' (R' u) k' tv' sv' w' ∧ Below B w w' := by
  obtain ⟨us, rfl, su⟩ := hv
  obtain ⟨ao, b1, o1, cap, rfl, -⟩ := sv_open su
  obtain ⟨tg, tc, sg, sc, ta, sa, e1, e2, hRw⟩ := hg.rw
  have HC : Hid (∀ W, Below w.heap.size w W → Calls Tryz.prog 11 #[.agg #[.int .i64 p, .slice ao 1 cap, .int .u64 (r : Int)]] W fun e w' => e = two 0 0 ∧ Below W.heap.size W w') := fun W hb => by
    have := check_any ⟨p, [x], r⟩ _ hW W ⟨_, rfl, su.below hb⟩
    rw [hc] at this
    exact this
  have HL : Hid (∀ W, Below w.heap.size w W → Calls Tryz.prog 10 #[.pointer (some ⟨b, 0, none⟩)] W fun e w' => e = .returned (.int .i64 (R.length : Int)) ∧ w' = W) := fun W hb => len_any b R.length tc ta W (cellB hb hRw.c1)
  have HN : Hid (0 < R.length → ∀ W, Below w.heap.size w W → Calls Tryz.prog 12 #[.pointer (some ⟨b, 0, none⟩)] W fun e w' => e = .returned (.int .i64 (T.getD (plc k (R.length - 1) R.length) 0)) ∧ Below W.heap.size W w') := fun h0 W hb => newest_any B b n k T R tv sv W (hg.below hb) h0
  have HU : Hid (∀ W, Below w.heap.size w W → Calls Tryz.prog 13 #[.pointer (some ⟨b, 0, none⟩), .agg #[.int .i64 p, .slice ao 1 cap, .int .u64 (r : Int)]] W fun e w' => e = .returned (.bool false) ∧ Below W.heap.size W w') := fun W hb => unlike_one B b n k T R tv sv p x r _ W (hg.below hb) (Nat.le_trans hBw hb.size) hF ⟨_, rfl, su.below hb⟩
  have HCp : Hid (∀ W, Below w.heap.size w W → Calls Tryz.prog 15 #[.agg #[.int .i64 p, .slice ao 1 cap, .int .u64 (r : Int)]] W fun e w' => CyQ W ⟨p, [x], r⟩ e w') := fun W hb => rcopied_any ⟨p, [x], r⟩ _ W ⟨_, rfl, su.below hb⟩ (by show 1 ≤ _; omega) (fun y hy => by
    have : y = x := by simpa using hy
    subst this
    exact hx)
  have HLy : Hid (∀ W u, Below w.heap.size w W → OS w.heap.size (⟨p, [x], r⟩, u) W → Calls Tryz.prog 14 #[.pointer (some ⟨b, 0, none⟩), .int .i64 tm, .agg #[.int .i64 p, u, .int .u64 (r : Int)]] W fun e w' => (∃ v, e = .returned v) ∧ ∃ tv' sv', Rg B b n T' (R' u) k' tv' sv' w' ∧ Below B W w') := fun W u hb ho => hlay W u (hg.below hb) (Nat.le_trans hBw hb.size) (ho.le hBw)
  have HX := hid_of (new_1 w (.cells #[.int .i64 p, .slice ao 1 cap, .int .u64 (r : Int)] 31))
  have HB1 := hid_of (bel1 w (.cells #[.int .i64 p, .slice ao 1 cap, .int .u64 (r : Int)] 31))
  have HK := hid_of hBw
  clear hg su hRw hF hlay hc hW
  generalize T.getD (plc k (R.length - 1) R.length) 0 = nw at *
  go_enter Tryz.func6, Tryz.ntmps6
  go_upto_region 1 with fail
  generalize w.alloc (.cells #[.int .i64 p, .slice ao 1 cap, .int .u64 (r : Int)] 31) = w1 at *
  obtain ⟨x0, x1, x2, -, -, -⟩ := three_cells HX.out
  go_upto_region 4 with (go_at_call 11; with_reducible refine (HC.out _ HB1.out).mono ?_; rintro e w2 ⟨rfl, hb2⟩)
  have HB2 := hid_of hb2
  clear hb2 HC
  go_cut [25] from 17 to 25 (fun x W => x = .bool false ∧ Hid (Below w1.heap.size w1 W))
  case first =>
    rcases hord with h0 | ⟨h0, h1⟩
    · have h0' : (R.length : Int) = 0 := by omega
      go_wp2_with (go_at_call 10; with_reducible refine (HL.out _ (bt HB1.out HB2.out)).mono ?_; rintro e w3 ⟨rfl, rfl⟩)
      go_meet
      exact ⟨rfl, HB2⟩
    · have h0' : (0 : Int) < (R.length : Int) := by omega
      have h1' : ¬ tm ≤ nw := by omega
      go_wp2_with (first
        | (go_at_call 10; with_reducible refine (HL.out _ (bt HB1.out HB2.out)).mono ?_; rintro e w3 ⟨rfl, rfl⟩)
        | (go_at_call 12; with_reducible refine (HN.out h0 _ (bt HB1.out HB2.out)).mono ?_; rintro e w4 ⟨rfl, hb4⟩))
      go_meet
      exact ⟨by rw [decide_eq_false (by omega)], bt HB2.out hb4⟩
  case rest =>
  obtain ⟨rfl, HB3⟩ := hcut
  clear HB2 HL HN x0 x1 x2
  obtain ⟨x0, x1, x2, -, -, -⟩ := three_cells (hkN HX.out HB3.out)
  go_upto_region 8 with (go_at_call 13; with_reducible refine (HU.out _ (bt HB1.out HB3.out)).mono ?_; rintro e w4 ⟨rfl, hb4⟩)
  have HB4 := hid_of (bt HB3.out hb4)
  clear HB3 hb4 HU x0 x1 x2
  obtain ⟨x0, x1, x2, -, -, -⟩ := three_cells (hkN HX.out HB4.out)
  go_wp2_with (first
    | (go_at_call 15; (with_reducible refine (HCp.out _ (bt HB1.out HB4.out)).mono ?_); rintro e w5 ⟨u, J, rfl, hb5, hj5, hm5⟩; have HB5 := hid_of (bt (bt HB1.out HB4.out) hb5); have HO5 := hid_of ((OS.of (r := (⟨p, [x], r⟩, u)) hj5 hm5).le (bt HB1.out HB4.out).size))
    | (go_at_call 14; (with_reducible refine (HLy.out _ _ HB5.out HO5.out).mono ?_); rintro e w6 ⟨⟨v6, rfl⟩, tv', sv', hR6, hb6⟩))
  go_ret
  exact ⟨rfl, u, tv', sv', hR6, (HB5.out.mono HK.out).trans hb6⟩
end Go.Proofs.YtgkdggcpplmnaaaGreat.Ri
