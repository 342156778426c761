/- New, of a counter. Own work of the verifier. -/
import Derived.Test.YtpllckgpolhafaaGreatDoorS11
namespace Go.Proofs.YtpllckgpolhafaaGreatDoor
open Go.RowKit

set_option maxRecDepth 10000 in
set_option maxHeartbeats 4000000 in
theorem new_counter (s : Nat) (p : Int) (h1 : 1 ≤ s) (h2 : s ≤ 16) (h3 : 1 ≤ p) (h4 : p ≤ 14) (hc : celF 1 (s : Int) p ≤ 1048576) (w : World) :
    Calls Tryz.prog 7 #[.int .i64 1, .int .i64 (s : Int), .int .i64 p] w fun e w' => ∃ sb c h G, e = .returned (.tuple #[.pointer (some ⟨sb, 0, none⟩), .int .i64 0]) ∧ SlabAt 130 sb c h G (fun _ => [0, 0]) s w' ∧ Below w.heap.size w w' ∧ ∀ g ∈ G 0 ++ G 1, w.heap.size ≤ g := by
  obtain ⟨w1, hw1⟩ : ∃ w1, w.alloc (.cells #[.slice none 0 0, .slice none 0 0] 135) = w1 := ⟨_, rfl⟩
  have g1 : w1.heap[w.heap.size]? = some (.cells #[.slice none 0 0, .slice none 0 0] 135 (0, 0)) := by rw [← hw1]; exact new_1 w _
  have hb1 : Below w.heap.size w w1 := by rw [← hw1]; exact bel1 _ _
  have hs1 : w1.heap.size = w.heap.size + 1 := by rw [← hw1]; simp
  have HU : Hid (∀ _ : Unit, Calls Tryz.prog 18 #[.int .i64 1, .int .i64 p] w fun e w' => e = .returned (.iface 130 (.pointer (some ⟨w.heap.size, 0, none⟩))) ∧ w' = w1) := fun _ => by
    have := unlaid_counter p w
    rw [hw1] at this
    exact this
  have HY : Hid (∀ W, Calls Tryz.prog 19 #[.int .i64 (s : Int), .int .i64 p] W fun e w' => e = .returned (.bool true) ∧ w' = W) := fun W => by
    have := smay_any (s : Int) p W
    rw [decide_eq_true (⟨by omega, by omega, h3, h4⟩ : okS (s : Int) p)] at this
    exact this
  have HC : Hid (∀ W, Calls Tryz.prog 20 #[.int .i64 1, .int .i64 (s : Int), .int .i64 p] W fun e w' => e = .returned (.int .i64 (celF 1 (s : Int) p)) ∧ Hid (Below W.heap.size W w')) := fun W => cells_counter (s : Int) p W
  have HG : Hid (w1.heap[w.heap.size]? = some (.cells #[.slice none 0 0, .slice none 0 0] 135 (0, 0))) := g1
  have hmf : ∀ (fn : Fn) (first cap : Array Value) (w : World), (Instr.makeFunc fn first cap).run Tryz.prog w = .ok (.func fn first cap) w := fun _ _ _ _ => rfl
  have hna : ∀ (a : Addr) (w : World), (nilAhead 419 130 (.pointer (some a)) "gnomon/slab.lay").run Tryz.prog w = .ok (some false) w := fun _ _ => by kernel_rfl
  have hnc : ¬ (1048576 : Int) < celF 1 (s : Int) p := by omega
  have HB1 : Hid _ := hb1
  clear g1 hb1 hw1 hc
  generalize celF 1 (s : Int) p = q at *
  have hnd : decide ((1048576 : Int) < q) = false := decide_eq_false hnc
  go_enter Tryz.func7, Tryz.ntmps7
  go_upto_region 8 with (first
    | (go_at_call 18; with_reducible refine Calls.mono (HU.out ()) ?_; rintro e w0 ⟨rfl, rfl⟩)
    | (go_at_call 19; with_reducible refine Calls.mono (HY.out _) ?_; rintro e w0 ⟨rfl, rfl⟩)
    | (go_at_call 20; with_reducible refine Calls.mono (HC.out _) ?_; rintro e w2 ⟨rfl, HB2⟩))
  have HG2 := hid_kept HG HB2
  generalize hcc : w.heap.size = c at *
  have HBa : Hid (Bare c w2.drew) := bare_counter HG2
  have HWd : Hid (∀ _ : Unit, Calls Tryz.prog 218 #[.pointer (some ⟨c, 0, none⟩)] w2.drew fun e w' => e = .returned (.int .i64 2) ∧ w' = w2.drew) := fun _ => cwidth_any _ _
  have HLy : Hid (∀ _ : Unit, Calls Tryz.prog 214 #[.pointer (some ⟨c, 0, none⟩), .int .i64 (s : Int), .int .i64 2] w2.drew fun e w' => e = .returned (.tuple #[]) ∧ Hid (LayQ c s 2 w2.drew w')) := fun _ => lay_any c s 2 h2 (by omega) w2.drew HBa.out
  clear HBa
  go_region_held3 (fun W => Mid c (c + 1) w2 W) (first | with_reducible assumption | exact Mid.refl _ _ _ | exact (Mid.refl _ _ _).drew)
    (first
      | (go_at_call 218; with_reducible refine Calls.mono (HWd.out ()) ?_; rintro e w3 ⟨rfl, rfl⟩)
      | (go_at_call 214; with_reducible refine Calls.mono (HLy.out ()) ?_; rintro e w3 ⟨rfl, HL3⟩; have hm3 := lay_mid HL3))
  all_goals
    obtain ⟨h, G, hNI⟩ := ni_start (T := 130) (w := w) (by omega : 0 < s) HL3.out (bt (by rw [hcc]; exact HB1.out) HB2.out) (by omega) [0, 0]
    have HNI : Hid (NI 130 w3.heap.size c h G [0, 0] [0, 0] s w 0 _) := hNI
    clear hNI HL3 hm3 hna hmf
    go_wp2_with fail
    go_loopw [36] (fun a wr => ∃ b : Nat, b ≤ 2 ∧ a = .int .i64 (b : Int) ∧ Hid (NI 130 w3.heap.size c h G [0, 0] [0, 0] s w b wr)) (fun a _ => 2 - (intOf a).toNat)
    case atStart => exact ⟨0, by omega, rfl, HNI.out⟩
    case round =>
      obtain ⟨b, hb2, rfl, HI⟩ := hrel
      by_cases hb : b < 2
      · have hb' : (b : Int) < 2 := by omega
        have HDr : Hid (∀ _ : Unit, Calls Tryz.prog 16 #[.pointer (some ⟨w3.heap.size, 0, none⟩), .pointer none, .int .i64 (b : Int)] wr fun e w' => (∃ v, e = .returned v) ∧ Hid (NI 130 w3.heap.size c h G [0, 0] [0, 0] s w (b + 1) w')) := fun _ => by
          have hx : xb [0, 0] [0, 0] b b = [0, 0] := if_neg (by omega)
          refine Calls.mono (drain_counter w3.heap.size c b (h b) hb (rwOf (G b) (xb [0, 0] [0, 0] b b) [0, 0]) wr (HI.out.at_.buf b hb [0, 0]) ?_ ?_) ?_
          · rw [hx]; exact drains_all (drains_counter _) (G b)
          · rw [rwOf_len, HI.out.at_.len b hb]; omega
          · exact fun e w' hd => HI.out.next hb (by simp) hd
        go_wp2_with (go_at_call 16; with_reducible refine Calls.mono (HDr.out ()) ?_; rintro e w5 ⟨⟨v, rfl⟩, HI5⟩)
        exact ⟨⟨b + 1, by omega, by simp, HI5.out⟩, by simp [intOf]; omega⟩
      · obtain rfl : b = 2 := by omega
        go_wp2_with fail
        go_ret2
        exact ⟨w3.heap.size, c, h, G, rfl, slab_both HI.out.at_, HI.out.below, HI.out.ge⟩
end Go.Proofs.YtpllckgpolhafaaGreatDoor
