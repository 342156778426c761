/- A SLAB WITH ANY CONTENTS: the counter's Add. Own work of the verifier. -/
import Derived.Test.YtpllckgpolhafaaGreatDoorUB
namespace Go.Proofs.YtpllckgpolhafaaGreatDoor
open Go.RowKit

set_option maxHeartbeats 1000000 in
theorem cadd_ok (c h g n cap : Nat) (b i : Nat) (lo hi x : Int) (hb : b < 2) (hi' : i < n) (hn : n ≤ 16) (hl : In64 lo) (hh : In64 hi) (hx : 0 ≤ x) (hx1 : x < 9223372036854775808) (w : World) (h0 : w.cell? ⟨c, b, none⟩ = some (.slice (some ⟨h, 0, none⟩) n cap)) (h1 : w.cell? ⟨h, i, none⟩ = some (slc 2 g)) (hr : RowW w g [lo, hi]) :
    Calls Tryz.prog 211 #[.pointer (some ⟨c, 0, none⟩), .pointer none, .int .i64 (b : Int), .int .i64 (i : Int), .int .i64 x] w fun e w' => e = .returned (.int .i64 0) ∧ Hid (RowW w' g (adW [lo, hi] x)) ∧ Hid (Mid g (g + 1) w w') := by
  have HR : Hid (∀ _ : Unit, Calls Tryz.prog 219 #[.pointer (some ⟨c, 0, none⟩), .int .i64 (b : Int), .int .i64 (i : Int), .bool true] w fun e w' => e = .returned (.tuple #[.slice (some ⟨g, 0, none⟩) 2 2, .int .i64 0]) ∧ w' = w) := fun _ => row_ok c h g n cap 2 b i hb hi' hn w h0 h1
  have HA : Hid (∀ _ : Unit, Calls Tryz.prog 220 #[.pointer none, .slice (some ⟨g, 0, none⟩) 2 2, .int .i64 x] w fun e w' => e = .returned (.tuple #[]) ∧ Hid (RowW w' g (adW [lo, hi] x)) ∧ Hid (Mid g (g + 1) w w')) := fun _ => addSum_any g 2 lo hi x [] w hr hl hh hx hx1
  have e1 : ¬ x < 0 := by omega
  clear hr h0 h1 hl hh
  go_enter Tryz.func211, Tryz.ntmps211
  go_wp2_with (first | (go_at_call 219; refine (HR.out ()).mono ?_; rintro e w1 ⟨rfl, rfl⟩) | (go_at_call 220; refine (HA.out ()).mono ?_; rintro e w1 ⟨rfl, HR1, HM1⟩))
  go_ret
  exact ⟨rfl, HR1, HM1⟩
theorem cadd_no (c : Nat) (b i x er : Int) (w : World) (hm : Hid (∀ _ : Unit, Calls Tryz.prog 219 #[.pointer (some ⟨c, 0, none⟩), .int .i64 b, .int .i64 i, .bool (decide (0 ≤ x))] w fun e w' => e = .returned (.tuple #[.slice none 0 0, .int .i64 er]) ∧ w' = w)) (he : ¬ er = 0) :
    Calls Tryz.prog 211 #[.pointer (some ⟨c, 0, none⟩), .pointer none, .int .i64 b, .int .i64 i, .int .i64 x] w fun e w' => e = .returned (.int .i64 er) ∧ w' = w := by
  go_enter Tryz.func211, Tryz.ntmps211
  go_wp2_with (go_at_call 219; refine (hm.out ()).mono ?_; rintro e w1 ⟨rfl, rfl⟩)
  go_ret
  exact ⟨rfl, rfl⟩
/-- Add, where it is laid. -/
theorem sadd_ok (s c : Nat) (h : Nat → Nat) (G : Nat → List Nat) (C : Nat → Nat → List Int) (n : Nat) (w : World) (H : SlG 130 s c h G C 2 n w) (b i : Nat) (hb : b < 2) (hi : i < n) (hn : n ≤ 16) (lo hi' x : Int) (hC : C b i = [lo, hi']) (hl : In64 lo) (hh : In64 hi') (hx : 0 ≤ x) (hx1 : x < 9223372036854775808) :
    Calls Tryz.prog 33 #[.pointer (some ⟨s, 0, none⟩), .pointer none, .int .i64 (b : Int), .int .i64 (i : Int), .int .i64 x] w fun e w' => e = .returned (.int .i64 0) ∧ Hid (SlG 130 s c h G (upC C b i (adW [lo, hi'] x)) 2 n w') ∧ Hid (∃ g, g ∈ G 0 ++ G 1 ∧ Mid g (g + 1) w w') := by
  obtain ⟨cap, hc⟩ := H.held b hb
  have hil : i < (G b).length := by rw [H.len b hb]; exact hi
  have hr := H.left b hb i hil
  rw [hC] at hr
  have hs := H.slab
  have HA : Hid (∀ _ : Unit, _) := fun _ => cadd_ok c (h b) (G b)[i] n cap b i lo hi' x hb hi hn hl hh hx hx1 w hc (H.rows b hb i hil) hr
  have HQ : Hid (∀ w', RowW w' (G b)[i] (adW [lo, hi'] x) → Mid (G b)[i] ((G b)[i] + 1) w w' → SlG 130 s c h G (upC C b i (adW [lo, hi'] x)) 2 n w' ∧ ∃ g, g ∈ G 0 ++ G 1 ∧ Mid g (g + 1) w w') := fun w' h1 h2 => ⟨H.put hb hil (by rw [adW_len]; rfl) h1 h2, _, mem_of hb (List.getElem_mem hil), h2⟩
  clear H hr hc hC
  go_enter Tryz.func33, Tryz.ntmps33
  go_wp2_with (go_at_call 211; with_reducible refine Calls.mono (HA.out ()) ?_; rintro e w1 ⟨rfl, HR1, HM1⟩)
  go_ret
  exact ⟨rfl, (HQ.out _ HR1.out HM1.out).1, (HQ.out _ HR1.out HM1.out).2⟩
/-- Add, where it is refused. -/
theorem sadd_no (s c : Nat) (b i x er : Int) (w : World) (hs : w.cell? ⟨s, 0, none⟩ = some (.iface 130 (.pointer (some ⟨c, 0, none⟩)))) (HA : Hid (∀ _ : Unit, Calls Tryz.prog 211 #[.pointer (some ⟨c, 0, none⟩), .pointer none, .int .i64 b, .int .i64 i, .int .i64 x] w fun e w' => e = .returned (.int .i64 er) ∧ w' = w)) :
    Calls Tryz.prog 33 #[.pointer (some ⟨s, 0, none⟩), .pointer none, .int .i64 b, .int .i64 i, .int .i64 x] w fun e w' => e = .returned (.int .i64 er) ∧ w' = w := by
  go_enter Tryz.func33, Tryz.ntmps33
  go_wp2_with (go_at_call 211; with_reducible refine Calls.mono (HA.out ()) ?_; rintro e w1 ⟨rfl, rfl⟩)
  go_ret
  exact ⟨rfl, rfl⟩
theorem sadd_range (s c : Nat) (h : Nat → Nat) (G : Nat → List Nat) (C : Nat → Nat → List Int) (n : Nat) (w : World) (H : SlG 130 s c h G C 2 n w) (b i : Nat) (hb : b < 2) (hi : i < n) (hn : n ≤ 16) (x : Int) (hx : x < 0) :
    Calls Tryz.prog 33 #[.pointer (some ⟨s, 0, none⟩), .pointer none, .int .i64 (b : Int), .int .i64 (i : Int), .int .i64 x] w fun e w' => e = .returned (.int .i64 2) ∧ w' = w := by
  obtain ⟨cap, hc⟩ := H.held b hb
  refine sadd_no s c b i x 2 w H.slab (fun _ => cadd_no c b i x 2 w (fun _ => ?_) (by decide))
  rw [decide_eq_false (by omega : ¬ 0 ≤ x)]
  exact row_range c (h b) n cap b i hb hi hn w hc
theorem sadd_arg (s c : Nat) (h : Nat → Nat) (G : Nat → List Nat) (C : Nat → Nat → List Int) (n : Nat) (w : World) (H : SlG 130 s c h G C 2 n w) (b : Nat) (i : Int) (hb : b < 2) (hi : i < 0 ∨ (n : Int) ≤ i) (hn : n ≤ 16) (x : Int) :
    Calls Tryz.prog 33 #[.pointer (some ⟨s, 0, none⟩), .pointer none, .int .i64 (b : Int), .int .i64 i, .int .i64 x] w fun e w' => e = .returned (.int .i64 1) ∧ w' = w := by
  obtain ⟨cap, hc⟩ := H.held b hb
  exact sadd_no s c b i x 1 w H.slab (fun _ => cadd_no c b i x 1 w (fun _ => row_arg c (h b) n cap b i hb hi hn _ w hc) (by decide))
end Go.Proofs.YtpllckgpolhafaaGreatDoor
