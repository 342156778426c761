/- The calls whose answers the document fixes. Own work of the verifier. -/
import Derived.Test.YtbgdmlekhobjdaaGreatS13
namespace Go.Proofs.YtbgdmlekhobjdaaGreat
open Go.RowKit

theorem cel_8 : celF 1 2 1 = 8 := by decide +kernel
/-- A counter's two rows, where the second one holds 5. -/
def five (g0 g1 : Nat) : List Rw := [⟨g0, [0, 0], 0, 0, [0, 0]⟩, ⟨g1, [5, 0], 0, 5, [0, 0]⟩]
theorem five_sum (g0 g1 : Nat) : sumR (five g0 g1) 2 = 5 := by
  show rnd (rnd (0 + val 0 0) + val 0 5) = 5
  unfold rnd val; omega
theorem five_buf {s c g0 g1 : Nat} {h : Nat → Nat} {G : Nat → List Nat} {w w' : World} (H : SlabAt 111 s c h G (fun _ => [0, 0]) 2 w) (hG : G 0 = [g0, g1]) (hr : RowW w' g1 [5, 0]) (hm : Mid g1 (g1 + 1) w w') : Buf 111 s c 0 (h 0) (five g0 g1) w' := by
  have hB := H.buf 0 (by decide) [0, 0]
  rw [hG] at hB
  have hin : ∀ x, x ∉ ([g0, g1] : List Nat) → ¬ (g1 ≤ x ∧ x < g1 + 1) := fun x hx hc => hx (by simp; omega)
  have ce : ∀ (a : Addr) (u : Value), w.cell? a = some u → a.block ∉ ([g0, g1] : List Nat) → w'.cell? a = some u := fun a u ha hn => (World.cell?_of_block (hm.block a.block (lt_of_cell ha) (hin _ hn))).trans ha
  have e1 : (rwOf [g0, g1] [0, 0] [0, 0]).map (·.g) = [g0, g1] := rwOf_g _ _ _
  have s1 : s ∉ ([g0, g1] : List Nat) := by rw [← e1]; exact hB.s_ne
  have c1 : c ∉ ([g0, g1] : List Nat) := by rw [← e1]; exact hB.c_ne
  have h1 : h 0 ∉ ([g0, g1] : List Nat) := by rw [← e1]; exact hB.h_ne
  have n1 : ([g0, g1] : List Nat).Nodup := by rw [← e1]; exact hB.nd
  obtain ⟨cap, hc⟩ := hB.held
  refine ⟨ce _ _ hB.slab s1, ⟨cap, ce _ _ hc c1⟩, fun i hi => ?_, n1, s1, c1, h1, fun r hr' => ?_⟩
  · have hi2 : i < 2 := hi
    rcases (show i = 0 ∨ i = 1 by omega) with rfl | rfl
    · exact ce _ _ (hB.rows 0 (by rw [rwOf_len]; simp)) h1
    · exact ce _ _ (hB.rows 1 (by rw [rwOf_len]; simp)) h1
  · have hr2 : r = ⟨g0, [0, 0], 0, 0, [0, 0]⟩ ∨ r = ⟨g1, [5, 0], 0, 5, [0, 0]⟩ := by simpa [five] using hr'
    rcases hr2 with rfl | rfl
    · have hne : g0 ≠ g1 := by simp at n1; exact n1
      exact (hB.left ⟨g0, [0, 0], 0, 0, [0, 0]⟩ (by simp [rwOf])).mid hm (by show ¬ (g1 ≤ g0 ∧ g0 < g1 + 1); omega)
    · exact hr
theorem five_drains (c g0 g1 : Nat) : ∀ r ∈ five g0 g1, Drains 110 (.pointer (some ⟨c, 0, none⟩)) r.xs r.hi r.lo r.ys ∧ Wf r.hi r.lo := fun r hr => by
  have hr2 : r = ⟨g0, [0, 0], 0, 0, [0, 0]⟩ ∨ r = ⟨g1, [5, 0], 0, 5, [0, 0]⟩ := by simpa [five] using hr
  rcases hr2 with rfl | rfl
  · exact ⟨drains_counter _, wf_zero⟩
  · exact ⟨fun W g h => cdrain_any _ g 2 5 0 [] W h, by show Wf 0 5; constructor <;> decide⟩
theorem sn_form {w : World} {v : Value} {L : List Cn} (h : SN w v L) : ∃ ao n cap, v = .slice ao n cap := by
  rcases h with ⟨rfl, _⟩ | ⟨b, o, cap, rfl, _⟩
  · exact ⟨_, _, _, rfl⟩
  · exact ⟨_, _, _, rfl⟩
theorem slab_hid {T : TypeId} {s c : Nat} {h : Nat → Nat} {G : Nat → List Nat} {X : Nat → List Int} {n : Nat} {w w' : World} (H : Hid (SlabAt T s c h G X n w)) (hb : Hid (Below w.heap.size w w')) : Hid (SlabAt T s c h G X n w') := SlabAt.below H hb
theorem below_mid {g : Nat} {w a b : World} (h : Below w.heap.size w a) (hm : Mid g (g + 1) a b) (hg : w.heap.size ≤ g) : Below w.heap.size w b :=
  ⟨hm.os.trans h.os, hm.tape.trans h.tape, hm.output.trans h.output, Nat.le_trans h.size hm.size, fun k hk => by
    rw [hm.block k (Nat.lt_of_lt_of_le hk h.size) (by omega)]; exact h.block k hk⟩
theorem below_off {gs : List Nat} {w a b : World} (h : Below w.heap.size w a) (ho : Off gs a b) (hg : ∀ g ∈ gs, w.heap.size ≤ g) : Below w.heap.size w b :=
  ⟨ho.os.trans h.os, ho.tape.trans h.tape, ho.output.trans h.output, Nat.le_trans h.size ho.size, fun k hk => by
    rw [ho.block k (Nat.lt_of_lt_of_le hk h.size) (fun m => by have := hg k m; omega)]; exact h.block k hk⟩
theorem pair_of {l : List Nat} (h : l.length = 2) : ∃ a b, l = [a, b] := by
  match l, h with
  | [a, b], _ => exact ⟨a, b, rfl⟩
set_option maxRecDepth 10000 in
set_option maxHeartbeats 4000000 in
theorem fixed_any (w : World) : Calls Tryz.prog 5 #[] w fun e w' => e = .returned (.bool true) ∧ Below w.heap.size w w' := by
  have HN : Hid (∀ _ : Unit, Calls Tryz.prog 20 #[.int .i64 1, .int .i64 2, .int .i64 1] w fun e w' => ∃ sb c h G g0 g1, e = .returned (.tuple #[.pointer (some ⟨sb, 0, none⟩), .int .i64 0]) ∧ Hid (SlabAt 111 sb c h G (fun _ => [0, 0]) 2 w') ∧ Hid (Below w.heap.size w w') ∧ Hid (G 0 = [g0, g1]) ∧ w.heap.size ≤ g0 ∧ w.heap.size ≤ g1) := fun _ => by
    refine Calls.mono (new_counter 2 1 (by decide) (by decide) (by decide) (by decide) (by rw [show ((2 : Nat) : Int) = 2 from rfl, cel_8]; decide) w) ?_
    rintro e w' ⟨sb, c, h, G, rfl, hS, hb, hge⟩
    obtain ⟨g0, g1, hG⟩ := pair_of (hS.len 0 (by decide))
    exact ⟨sb, c, h, G, g0, g1, rfl, hS, hb, hG, hge g0 (by rw [hG]; simp), hge g1 (by rw [hG]; simp)⟩
  have HC : Hid (∀ W, Calls Tryz.prog 21 #[.int .i64 1, .int .i64 2, .int .i64 1] W fun e w' => e = .returned (.int .i64 8) ∧ Hid (Below W.heap.size W w')) := fun W => by
    have := cells_counter 2 1 W
    rw [cel_8] at this
    exact this
  have HA : Hid (∀ (W : World) (sb c g0 g1 : Nat) (h : Nat → Nat) (G : Nat → List Nat), Hid (SlabAt 111 sb c h G (fun _ => [0, 0]) 2 W) → Hid (G 0 = [g0, g1]) → Calls Tryz.prog 22 #[.pointer (some ⟨sb, 0, none⟩), .pointer none, .int .i64 0, .int .i64 1, .int .i64 5] W fun e w' => e = .returned (.int .i64 0) ∧ Hid (Buf 111 sb c 0 (h 0) (five g0 g1) w') ∧ Hid (Mid g1 (g1 + 1) W w')) := fun W sb c g0 g1 h G hS hG => by
    obtain ⟨cap, hc⟩ := hS.out.held 0 (by decide)
    have hrow := hS.out.rows 0 (by decide) 1 (by rw [hG.out]; simp)
    have hg1 : (G 0)[1]'(by rw [hG.out]; simp) = g1 := by simp [hG.out]
    rw [hg1] at hrow
    refine Calls.mono (sadd_five sb c (h 0) g1 cap W hS.out.slab hc hrow (hS.out.left 0 (by decide) g1 (by rw [hG.out]; simp))) ?_
    rintro e w' ⟨rfl, hr, hm⟩
    exact ⟨rfl, five_buf hS.out hG.out hr.out hm.out, hm⟩
  have HD : Hid (∀ (W : World) (sb c g0 g1 h : Nat), Hid (Buf 111 sb c 0 h (five g0 g1) W) → Calls Tryz.prog 23 #[.pointer (some ⟨sb, 0, none⟩), .pointer none, .int .i64 0] W fun e w' => ∃ ao k cap, e = .returned (.tuple #[.agg #[.int .i64 0, .int .u64 5, .slice ao k cap, .int .u64 0, .complex .f64 0 0, .float .f64 0, .float .f64 0], .int .i64 0]) ∧ Hid (Off [g0, g1] W w')) := fun W sb c g0 g1 h hB => by
    refine Calls.mono (drain_counter sb c 0 h (by decide) (five g0 g1) W hB.out (five_drains c g0 g1) (by show 2 < 1000; decide)) ?_
    rintro e w' ⟨v, rfl, hv, hw⟩
    obtain ⟨ao, k, cap, rfl⟩ := sn_form hv
    refine ⟨ao, k, cap, ?_, hw.off⟩
    rw [show (five g0 g1).length = 2 from rfl, five_sum]
    rfl
  have sF := store_f
  have sC := store_c
  go_enter Tryz.func5, Tryz.ntmps5
  go_wp2_with (first
    | (go_at_call 20; with_reducible refine Calls.mono (HN.out ()) ?_; rintro e w1 ⟨sb, c, h, G, g0, g1, rfl, HS1, HB1, HG, hg0, hg1⟩)
    | (go_at_call 21; with_reducible refine Calls.mono (HC.out _) ?_; rintro e w2 ⟨rfl, HB2⟩; have HS2 := slab_hid HS1 HB2)
    | (go_at_call 22; with_reducible refine Calls.mono (HA.out _ _ _ _ _ _ _ HS2 HG) ?_; rintro e w3 ⟨rfl, HB3, HM3⟩)
    | (go_at_call 23; with_reducible refine Calls.mono (HD.out _ _ _ _ _ _ HB3) ?_; rintro e w4 ⟨ao, k, cap, rfl, HO4⟩))
  go_ret
  refine ⟨rfl, ?_⟩
  have b2 := bt HB1.out HB2.out
  have b3 := below_mid b2 HM3.out hg1
  have b4 := below_off b3 HO4.out (fun g hg => by simp at hg; omega)
  exact b4.trans ((bel1 w4 _).mono b4.size)
end Go.Proofs.YtbgdmlekhobjdaaGreat
