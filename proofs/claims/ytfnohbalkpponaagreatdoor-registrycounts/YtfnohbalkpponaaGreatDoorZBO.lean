/- THE RECORDER: records of one that is closed. Own work of the verifier. -/
import Derived.Test.YtfnohbalkpponaaGreatDoorZBN
import Derived.Test.YtfnohbalkpponaaGreatDoorZAV
namespace Go.Proofs.YtfnohbalkpponaaGreatDoor
open Go.RowKit

theorem record_closed (rc k p a : Nat) (r0 r1 st : Int) (neg : Bool) (m : Nat) (may : Bool) (lay : Value) (w : World) (ha : a < 2) (hm : m < 4611686018427387904) (hr0 : In64 r0) (hr1 : In64 r1)
    (hR : Rc w rc k st true) (hS : Sh w k p a r0 r1) (hP : Pq w p neg m) :
    Calls Tryz.prog 89 #[.pointer (some ⟨rc, 0, none⟩), .pointer none, .bool may, lay] w fun e w' => e = .returned (.int .i64 8) ∧ Sh w' k p a (bmp 8 a 0 r0) (bmp 8 a 1 r1) ∧ Pq w' p neg (m + 1) ∧ Chg (fun x => x = k ∨ x = p) w w' := by
  refine Calls.mono (record_any rc k p a r0 r1 st 8 neg m true may lay (fun _ => True) (fun _ => False) w ha hm hr0 hr1 hR hS hP (fun x e => e.elim) (fun _ _ _ _ => trivial) (fun W hW => Calls.mono (laid_closed rc k st (a : Int) may lay W (hW.Rc hR (fun e => rc_ne_ph hR hP e))) ?_)) ?_
  · rintro e w' ⟨rfl, rfl⟩
    exact ⟨rfl, trivial, Chg.refl _ _⟩
  · rintro e w' ⟨rfl, h1, h2, _, h4⟩
    exact ⟨rfl, h1, h2, h4.mono (fun x e => e.resolve_left id)⟩
theorem radd_closed (rc k p a s : Nat) (r0 r1 st n : Int) (neg : Bool) (m : Nat) (w : World) (ha : a < 2) (hm : m < 4611686018427387904) (hr0 : In64 r0) (hr1 : In64 r1) (hR : Rc w rc k st true) (hS : Sh w k p a r0 r1) (hP : Pq w p neg m) :
    Calls Tryz.prog 47 #[.pointer (some ⟨rc, 0, none⟩), .pointer none, .pointer (some ⟨s, 0, none⟩), .int .i64 n] w fun e w' => e = .returned (.int .i64 8) ∧ Hid (Sh w' k p a (bmp 8 a 0 r0) (bmp 8 a 1 r1) ∧ Pq w' p neg (m + 1) ∧ Chg (fun x => x = k ∨ x = p) w w') := by
  have hb := bxs_below w rc s (.int .i64 n) 2
  have hcB : Chg (fun x => x = p) w (bxs w rc s (.int .i64 n) 2) := Chg.of_below hb
  refine radd_any rc s n _ w (fun w' => Sh w' k p a (bmp 8 a 0 r0) (bmp 8 a 1 r1) ∧ Pq w' p neg (m + 1) ∧ Chg (fun x => x = k ∨ x = p) w w') (decide (0 ≤ n)) rfl (fun _ => ?_)
  refine Calls.mono (record_closed rc k p a r0 r1 st neg m _ _ (bxs w rc s (.int .i64 n) 2) ha hm hr0 hr1 (hcB.Rc hR (fun e => rc_ne_ph hR hP e)) (hcB.Sh hS (fun e => sh_ne_pq hS hP e.symm)) (Pq.below hP hb)) ?_
  rintro e w' ⟨rfl, h1, h2, h3⟩
  exact ⟨rfl, h1, h2, (Chg.of_below hb).trans h3 (fun x e => Or.inl e)⟩
end Go.Proofs.YtfnohbalkpponaaGreatDoor
/- New: what else stays. Own work of the verifier. -/
namespace Go.Proofs.YtfnohbalkpponaaGreatDoor
open Go.RowKit

theorem lay_keep {c n wd : Nat} {w w' : World} {u : Value} (h : Hid (LayQ c n wd w.drew w')) (hc : w.cell? ⟨c, 2, none⟩ = some u) : w'.cell? ⟨c, 2, none⟩ = some u := by
  obtain ⟨x0, G0, x1, G1, w1, _, _, h0, h1⟩ := h.out
  exact (h1.oth 2 (by decide)).trans ((h0.oth 2 (by decide)).trans hc)
theorem ni_keep {T : TypeId} {sb c : Nat} {h : Nat → Nat} {G : Nat → List Nat} {X Y : List Int} {n : Nat} {w wr w' : World} {b : Nat} {u : Value} (H : NI T sb c h G X Y n w b wr) (hb : b < 2) {e : Ending} (hd : DrQ (rwOf (G b) (xb X Y b b) Y) wr e w') (hc : wr.cell? ⟨c, 2, none⟩ = some u) : w'.cell? ⟨c, 2, none⟩ = some u := by
  obtain ⟨v, rfl, _, hw⟩ := hd
  have ho := hw.off
  rw [rwOf_g] at ho
  exact off_cell ho hc (fun k => H.at_.c_ne (mem_of hb k))
end Go.Proofs.YtfnohbalkpponaaGreatDoor
/- New, of a histogram: its precision, too. Own work of the verifier. -/
namespace Go.Proofs.YtfnohbalkpponaaGreatDoor
open Go.RowKit

set_option maxRecDepth 10000 in
set_option maxHeartbeats 4000000 in
theorem new_histogram_p (s : Nat) (p : Int) (h1 : 1 ≤ s) (h2 : s ≤ 16) (h3 : 1 ≤ p) (h4 : p ≤ 14) (m : Nat) (hm : Lg p = m) (hc : celF 2 (s : Int) p ≤ 1048576) (w : World) :
    Calls Tryz.prog 76 #[.int .i64 2, .int .i64 (s : Int), .int .i64 p] w fun e w' => ∃ sb c h G, e = .returned (.tuple #[.pointer (some ⟨sb, 0, none⟩), .int .i64 0]) ∧ SlabAt 299 sb c h G (fun _ => (List.replicate (m + 2) 0)) s w' ∧ w'.cell? ⟨c, 2, none⟩ = some (.int .i64 p) ∧ Below w.heap.size w w' ∧ ∀ g ∈ G 0 ++ G 1, w.heap.size ≤ g := by
  obtain ⟨w1, hw1⟩ : ∃ w1, w.alloc (.cells #[.slice none 0 0, .slice none 0 0, .int .i64 p] 301) = w1 := ⟨_, rfl⟩
  have g1 : w1.heap[w.heap.size]? = some (.cells #[.slice none 0 0, .slice none 0 0, .int .i64 p] 301 (0, 0)) := by rw [← hw1]; exact new_1 w _
  have hb1 : Below w.heap.size w w1 := by rw [← hw1]; exact bel1 _ _
  have hs1 : w1.heap.size = w.heap.size + 1 := by rw [← hw1]; simp
  have HU : Hid (∀ _ : Unit, Calls Tryz.prog 120 #[.int .i64 2, .int .i64 p] w fun e w' => e = .returned (.iface 299 (.pointer (some ⟨w.heap.size, 0, none⟩))) ∧ w' = w1) := fun _ => by
    have := unlaid_histogram p w
    rw [hw1] at this
    exact this
  have HY : Hid (∀ W, Calls Tryz.prog 121 #[.int .i64 (s : Int), .int .i64 p] W fun e w' => e = .returned (.bool true) ∧ w' = W) := fun W => by
    have := smay_any (s : Int) p W
    rw [decide_eq_true (⟨by omega, by omega, h3, h4⟩ : okS (s : Int) p)] at this
    exact this
  have HC : Hid (∀ W, Calls Tryz.prog 75 #[.int .i64 2, .int .i64 (s : Int), .int .i64 p] W fun e w' => e = .returned (.int .i64 (celF 2 (s : Int) p)) ∧ Hid (Below W.heap.size W w')) := fun W => cells_histogram (s : Int) p W
  have HG : Hid (w1.heap[w.heap.size]? = some (.cells #[.slice none 0 0, .slice none 0 0, .int .i64 p] 301 (0, 0))) := g1
  have hmf : ∀ (fn : Fn) (first cap : Array Value) (w : World), (Instr.makeFunc fn first cap).run Tryz.prog w = .ok (.func fn first cap) w := fun _ _ _ _ => rfl
  have hna : ∀ (a : Addr) (w : World), (nilAhead 503 299 (.pointer (some a)) "gnomon/slab.lay").run Tryz.prog w = .ok (some false) w := fun _ _ => by kernel_rfl
  have hm16 : m ≤ 1048576 := by have := Lg_le p; omega
  have hnc : ¬ (1048576 : Int) < celF 2 (s : Int) p := by omega
  have HB1 : Hid _ := hb1
  clear g1 hb1 hw1 hc
  generalize celF 2 (s : Int) p = q at *
  have hnd : decide ((1048576 : Int) < q) = false := decide_eq_false hnc
  go_enter Tryz.func76, Tryz.ntmps76
  go_upto_region 8 with (first
    | (go_at_call 120; with_reducible refine Calls.mono (HU.out ()) ?_; rintro e w0 ⟨rfl, rfl⟩)
    | (go_at_call 121; with_reducible refine Calls.mono (HY.out _) ?_; rintro e w0 ⟨rfl, rfl⟩)
    | (go_at_call 75; with_reducible refine Calls.mono (HC.out _) ?_; rintro e w2 ⟨rfl, HB2⟩))
  have HG2 := hid_kept HG HB2
  generalize hcc : w.heap.size = c at *
  have HBa : Hid (Bare c w2.drew) := bare_histogram HG2
  have HWd : Hid (∀ _ : Unit, Calls Tryz.prog 309 #[.pointer (some ⟨c, 0, none⟩)] w2.drew fun e w' => e = .returned (.int .i64 ((m : Int) + 2)) ∧ w' = w2.drew) := fun _ => by
    have := hwidth_any c p w2.drew (three_2 HG2)
    rw [hm, show ((m + 2 : Nat) : Int) = (m : Int) + 2 from by omega] at this
    exact this
  have HLy : Hid (∀ _ : Unit, Calls Tryz.prog 297 #[.pointer (some ⟨c, 0, none⟩), .int .i64 (s : Int), .int .i64 ((m : Int) + 2)] w2.drew fun e w' => e = .returned (.tuple #[]) ∧ Hid (LayQ c s (m + 2) w2.drew w')) := fun _ => by
    have := lay_any c s (m + 2) h2 (by omega) w2.drew HBa.out
    rw [show ((m + 2 : Nat) : Int) = (m : Int) + 2 from by omega] at this
    exact this
  have HPk : ∀ w3, Hid (LayQ c s (m + 2) w2.drew w3) → Hid (w3.cell? ⟨c, 2, none⟩ = some (.int .i64 p)) := fun w3 h => lay_keep h (three_2 HG2)
  clear HBa
  go_region_held3 (fun W => Mid c (c + 1) w2 W) (first | with_reducible assumption | exact Mid.refl _ _ _ | exact (Mid.refl _ _ _).drew)
    (first
      | (go_at_call 309; with_reducible refine Calls.mono (HWd.out ()) ?_; rintro e w3 ⟨rfl, rfl⟩)
      | (go_at_call 297; with_reducible refine Calls.mono (HLy.out ()) ?_; rintro e w3 ⟨rfl, HL3⟩; have hm3 := lay_mid HL3; have HPc := HPk _ HL3))
  all_goals
    obtain ⟨h, G, hNI⟩ := ni_start (T := 299) (w := w) (by omega : 0 < s) HL3.out (bt (by rw [hcc]; exact HB1.out) HB2.out) (by omega) (List.replicate (m + 2) 0)
    have HNI : Hid (NI 299 w3.heap.size c h G (List.replicate (m + 2) 0) (List.replicate (m + 2) 0) s w 0 _ ∧ _) := ⟨hNI, ((bel1 w3 (.cells #[.iface 299 (.pointer (some ⟨c, 0, none⟩))] 237 (0, 0))).cell (p := ⟨c, 2, none⟩) (lt_of_cell HPc.out)).trans HPc.out⟩
    clear hNI HL3 hm3 hna hmf HPc HPk
    go_wp2_with fail
    go_loopw [36] (fun a wr => ∃ b : Nat, b ≤ 2 ∧ a = .int .i64 (b : Int) ∧ Hid (NI 299 w3.heap.size c h G (List.replicate (m + 2) 0) (List.replicate (m + 2) 0) s w b wr ∧ wr.cell? ⟨c, 2, none⟩ = some (.int .i64 p))) (fun a _ => 2 - (intOf a).toNat)
    case atStart => exact ⟨0, by omega, rfl, HNI.out⟩
    case round =>
      obtain ⟨b, hb2, rfl, HI⟩ := hrel
      by_cases hb : b < 2
      · have hb' : (b : Int) < 2 := by omega
        have HDr : Hid (∀ _ : Unit, Calls Tryz.prog 86 #[.pointer (some ⟨w3.heap.size, 0, none⟩), .pointer none, .int .i64 (b : Int)] wr fun e w' => (∃ v, e = .returned v) ∧ Hid (NI 299 w3.heap.size c h G (List.replicate (m + 2) 0) (List.replicate (m + 2) 0) s w (b + 1) w' ∧ w'.cell? ⟨c, 2, none⟩ = some (.int .i64 p))) := fun _ => by
          have hx : xb (List.replicate (m + 2) 0) (List.replicate (m + 2) 0) b b = (List.replicate (m + 2) 0) := if_neg (by omega)
          refine Calls.mono (drain_histogram w3.heap.size c b (h b) hb (rwOf (G b) (xb (List.replicate (m + 2) 0) (List.replicate (m + 2) 0) b b) (List.replicate (m + 2) 0)) wr (HI.out.1.at_.buf b hb (List.replicate (m + 2) 0)) ?_ ?_) ?_
          · rw [hx]; exact drains_all (drains_histogram _ m (by omega)) (G b)
          · rw [rwOf_len, HI.out.1.at_.len b hb]; omega
          · exact fun e w' hd => ⟨(HI.out.1.next hb (by simp) hd).1, (HI.out.1.next hb (by simp) hd).2, ni_keep HI.out.1 hb hd HI.out.2⟩
        go_wp2_with (go_at_call 86; with_reducible refine Calls.mono (HDr.out ()) ?_; rintro e w5 ⟨⟨v, rfl⟩, HI5⟩)
        exact ⟨⟨b + 1, by omega, by simp, HI5.out⟩, by simp [intOf]; omega⟩
      · obtain rfl : b = 2 := by omega
        go_wp2_with fail
        go_ret2
        exact ⟨w3.heap.size, c, h, G, rfl, slab_both HI.out.1.at_, HI.out.2, HI.out.1.below, HI.out.1.ge⟩
end Go.Proofs.YtfnohbalkpponaaGreatDoor
/- New, of a summary. Own work of the verifier. -/
namespace Go.Proofs.YtfnohbalkpponaaGreatDoor
open Go.RowKit

set_option maxRecDepth 10000 in
set_option maxHeartbeats 4000000 in
theorem new_summary (s : Nat) (p : Int) (h1 : 1 ≤ s) (h2 : s ≤ 16) (h3 : 1 ≤ p) (h4 : p ≤ 14) (hc : celF 3 (s : Int) p ≤ 1048576) (w : World) :
    Calls Tryz.prog 76 #[.int .i64 3, .int .i64 (s : Int), .int .i64 p] w fun e w' => ∃ sb c h G, e = .returned (.tuple #[.pointer (some ⟨sb, 0, none⟩), .int .i64 0]) ∧ SlabAt 302 sb c h G (fun _ => [0, 0, 0, 9218868437227405312, -4503599627370496]) s w' ∧ Below w.heap.size w w' ∧ ∀ g ∈ G 0 ++ G 1, w.heap.size ≤ g := by
  obtain ⟨w1, hw1⟩ : ∃ w1, w.alloc (.cells #[.slice none 0 0, .slice none 0 0] 303) = w1 := ⟨_, rfl⟩
  have g1 : w1.heap[w.heap.size]? = some (.cells #[.slice none 0 0, .slice none 0 0] 303 (0, 0)) := by rw [← hw1]; exact new_1 w _
  have hb1 : Below w.heap.size w w1 := by rw [← hw1]; exact bel1 _ _
  have hs1 : w1.heap.size = w.heap.size + 1 := by rw [← hw1]; simp
  have HU : Hid (∀ _ : Unit, Calls Tryz.prog 120 #[.int .i64 3, .int .i64 p] w fun e w' => e = .returned (.iface 302 (.pointer (some ⟨w.heap.size, 0, none⟩))) ∧ w' = w1) := fun _ => by
    have := unlaid_summary p w
    rw [hw1] at this
    exact this
  have HY : Hid (∀ W, Calls Tryz.prog 121 #[.int .i64 (s : Int), .int .i64 p] W fun e w' => e = .returned (.bool true) ∧ w' = W) := fun W => by
    have := smay_any (s : Int) p W
    rw [decide_eq_true (⟨by omega, by omega, h3, h4⟩ : okS (s : Int) p)] at this
    exact this
  have HC : Hid (∀ W, Calls Tryz.prog 75 #[.int .i64 3, .int .i64 (s : Int), .int .i64 p] W fun e w' => e = .returned (.int .i64 (celF 3 (s : Int) p)) ∧ Hid (Below W.heap.size W w')) := fun W => cells_summary (s : Int) p W
  have HG : Hid (w1.heap[w.heap.size]? = some (.cells #[.slice none 0 0, .slice none 0 0] 303 (0, 0))) := g1
  have hmf : ∀ (fn : Fn) (first cap : Array Value) (w : World), (Instr.makeFunc fn first cap).run Tryz.prog w = .ok (.func fn first cap) w := fun _ _ _ _ => rfl
  have hna : ∀ (a : Addr) (w : World), (nilAhead 503 302 (.pointer (some a)) "gnomon/slab.lay").run Tryz.prog w = .ok (some false) w := fun _ _ => by kernel_rfl
  have hnc : ¬ (1048576 : Int) < celF 3 (s : Int) p := by omega
  have HB1 : Hid _ := hb1
  clear g1 hb1 hw1 hc
  generalize celF 3 (s : Int) p = q at *
  have hnd : decide ((1048576 : Int) < q) = false := decide_eq_false hnc
  go_enter Tryz.func76, Tryz.ntmps76
  go_upto_region 8 with (first
    | (go_at_call 120; with_reducible refine Calls.mono (HU.out ()) ?_; rintro e w0 ⟨rfl, rfl⟩)
    | (go_at_call 121; with_reducible refine Calls.mono (HY.out _) ?_; rintro e w0 ⟨rfl, rfl⟩)
    | (go_at_call 75; with_reducible refine Calls.mono (HC.out _) ?_; rintro e w2 ⟨rfl, HB2⟩))
  have HG2 := hid_kept HG HB2
  generalize hcc : w.heap.size = c at *
  have HBa : Hid (Bare c w2.drew) := bare_summary HG2
  have HWd : Hid (∀ _ : Unit, Calls Tryz.prog 315 #[.pointer (some ⟨c, 0, none⟩)] w2.drew fun e w' => e = .returned (.int .i64 5) ∧ w' = w2.drew) := fun _ => swidth_any _ _
  have HLy : Hid (∀ _ : Unit, Calls Tryz.prog 297 #[.pointer (some ⟨c, 0, none⟩), .int .i64 (s : Int), .int .i64 5] w2.drew fun e w' => e = .returned (.tuple #[]) ∧ Hid (LayQ c s 5 w2.drew w')) := fun _ => lay_any c s 5 h2 (by omega) w2.drew HBa.out
  clear HBa
  go_region_held3 (fun W => Mid c (c + 1) w2 W) (first | with_reducible assumption | exact Mid.refl _ _ _ | exact (Mid.refl _ _ _).drew)
    (first
      | (go_at_call 315; with_reducible refine Calls.mono (HWd.out ()) ?_; rintro e w3 ⟨rfl, rfl⟩)
      | (go_at_call 297; with_reducible refine Calls.mono (HLy.out ()) ?_; rintro e w3 ⟨rfl, HL3⟩; have hm3 := lay_mid HL3))
  all_goals
    obtain ⟨h, G, hNI⟩ := ni_start (T := 302) (w := w) (by omega : 0 < s) HL3.out (bt (by rw [hcc]; exact HB1.out) HB2.out) (by omega) [0, 0, 0, 9218868437227405312, -4503599627370496]
    have HNI : Hid (NI 302 w3.heap.size c h G [0, 0, 0, 0, 0] [0, 0, 0, 9218868437227405312, -4503599627370496] s w 0 _) := hNI
    clear hNI HL3 hm3 hna hmf
    go_wp2_with fail
    go_loopw [36] (fun a wr => ∃ b : Nat, b ≤ 2 ∧ a = .int .i64 (b : Int) ∧ Hid (NI 302 w3.heap.size c h G [0, 0, 0, 0, 0] [0, 0, 0, 9218868437227405312, -4503599627370496] s w b wr)) (fun a _ => 2 - (intOf a).toNat)
    case atStart => exact ⟨0, by omega, rfl, HNI.out⟩
    case round =>
      obtain ⟨b, hb2, rfl, HI⟩ := hrel
      by_cases hb : b < 2
      · have hb' : (b : Int) < 2 := by omega
        have HDr : Hid (∀ _ : Unit, Calls Tryz.prog 86 #[.pointer (some ⟨w3.heap.size, 0, none⟩), .pointer none, .int .i64 (b : Int)] wr fun e w' => (∃ v, e = .returned v) ∧ Hid (NI 302 w3.heap.size c h G [0, 0, 0, 0, 0] [0, 0, 0, 9218868437227405312, -4503599627370496] s w (b + 1) w')) := fun _ => by
          have hx : xb [0, 0, 0, 0, 0] [0, 0, 0, 9218868437227405312, -4503599627370496] b b = [0, 0, 0, 0, 0] := if_neg (by omega)
          refine Calls.mono (drain_summary w3.heap.size c b (h b) hb (rwOf (G b) (xb [0, 0, 0, 0, 0] [0, 0, 0, 9218868437227405312, -4503599627370496] b b) [0, 0, 0, 9218868437227405312, -4503599627370496]) wr (HI.out.at_.buf b hb [0, 0, 0, 9218868437227405312, -4503599627370496]) ?_ ?_) ?_
          · rw [hx]; exact drains_all (drains_summary _) (G b)
          · rw [rwOf_len, HI.out.at_.len b hb]; omega
          · exact fun e w' hd => HI.out.next hb (by simp) hd
        go_wp2_with (go_at_call 86; with_reducible refine Calls.mono (HDr.out ()) ?_; rintro e w5 ⟨⟨v, rfl⟩, HI5⟩)
        exact ⟨⟨b + 1, by omega, by simp, HI5.out⟩, by simp [intOf]; omega⟩
      · obtain rfl : b = 2 := by omega
        go_wp2_with fail
        go_ret2
        exact ⟨w3.heap.size, c, h, G, rfl, slab_both HI.out.at_, HI.out.below, HI.out.ge⟩
end Go.Proofs.YtfnohbalkpponaaGreatDoor
