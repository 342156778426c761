/- THE DOCUMENT's RECORD (of layer 14), of a stripe that isn't there: the walk. Own work of the verifier. -/
import Derived.Test.YtaeapikhhbjlnaaGreatDoorZBS
namespace Go.Proofs.YtaeapikhhbjlnaaGreatDoor
open Go.RowKit

section
variable {sb mb ib capI n p : Nat} {m : Mc} {Is : List Ins} {C : Nat → Nat → Nat → List Int} {w : World}
set_option maxRecDepth 10000 in
set_option maxHeartbeats 8000000 in
theorem rec14_out {id d a f : Nat} {kind nn st : Int} {cl : Bool} (H : DocW sb mb ib capI m Is n p C w) (hid : id < Is.length) (hle : Is.length ≤ 1000) (hd : w.heap[d]? = some (.cells #[.int .i64 st, .bool cl] 138 (0, 0))) (hs : ¬ (0 ≤ st ∧ st < (n : Int))) (ha : m.a = (a : Int)) (a2 : a < 2) (hk : kind = 4 ∨ kind = 5 ∨ kind = 6) (hf : f < 18446744073709551616) (hn : In64 nn) (n0 : 0 < n) (n16 : n ≤ 16) (hst : m.st = (n : Int)) (hpr : m.pr = (p : Int)) (p1 : 1 ≤ p) (p2 : p ≤ 14) (hkd : Is[id].kd = 1 ∨ Is[id].kd = 2 ∨ Is[id].kd = 3) (why : Int) (hwhy : why = whyF kind Is[id].kd nn f cl) (er : Int) (her : er = if why = 0 then 1 else why) :
    Calls Tryz.prog 84 #[.pointer (some ⟨sb, 0, none⟩), .pointer (some ⟨d, 0, none⟩), .int .i64 kind, .int .i64 (id : Int), .int .i64 nn, .int .u64 (f : Int)] w fun e w' => e = .returned (.int .i64 er) ∧ Hid (DocW sb mb ib capI (m.ref a) Is n p C w' ∧ Chg (fun x => x = mb) w w') := by
  obtain ⟨w1, hw1⟩ : ∃ w1, w.alloc (.cells #[.int .i64 st, .bool cl] 138) = w1 := ⟨_, rfl⟩
  have hb1 : Below w.heap.size w w1 := by rw [← hw1]; exact bel1 _ _
  have hx1 : w1.heap[w.heap.size]? = some (.cells #[.int .i64 st, .bool cl] 138 (0, 0)) := by rw [← hw1]; exact new_1 _ _
  have d0 : w.cell? ⟨d, 0, none⟩ = some (.int .i64 st) := by simp [World.cell?, hd]
  have d1 : w.cell? ⟨d, 1, none⟩ = some (.bool cl) := by simp [World.cell?, hd]
  have H1 := H.below hb1
  have e0 : w1.cell? ⟨d, 0, none⟩ = some (.int .i64 st) := (hb1.cell (p := ⟨d, 0, none⟩) (lt_of_cell d0)).trans d0
  have e1 : w1.cell? ⟨sb, 0, none⟩ = some (.pointer (some ⟨mb, 0, none⟩)) := H1.sdm.sh
  have e2 : w1.cell? ⟨mb, 0, none⟩ = some (.int .i64 (n : Int)) := H1.sdm.mm 0 _ (by rw [← hst]; rfl)
  have x0 : w1.cell? ⟨w.heap.size, 0, none⟩ = some (.int .i64 st) := by simp [World.cell?, hx1]
  have f0 : w1.frozen? ⟨w.heap.size, 0, none⟩ = false := by simp [World.frozen?, hx1]
  have HW2 : Hid (∀ W, W = (w1.setCell ⟨w.heap.size, 0, none⟩ (.int .i64 0)).drew → Below w.heap.size w W ∧ W.heap[w.heap.size]? = some (.cells #[.int .i64 0, .bool cl] 138 (0, 0))) := fun W e => by
    subst e
    refine ⟨?_, ?_⟩
    · have hcs : Chg (fun x => x = w.heap.size) w1 (w1.setCell ⟨w.heap.size, 0, none⟩ (.int .i64 0)) := Chg.set w1 ⟨w.heap.size, 0, none⟩ (.int .i64 0)
      exact (hb1.trans (hcs.below (B := w.heap.size) hb1.size (fun x e => Nat.le_of_eq e.symm))).drew
    · show (w1.setCell ⟨w.heap.size, 0, none⟩ (.int .i64 0)).heap[w.heap.size]? = _
      rw [heap_setCell_same w1 _ 0 _ _ _ hx1]; rfl
  have HPr : Hid (∀ W, Below w.heap.size w W → PrS sb mb ib id Is.length capI n p Is[id].kd w W) := fun W hb => prs_of H hid hst hpr hb
  have HFr : Hid (∀ W : World, _) := fresh_op n p Is[id].kd hkd n0 n16
  have HAl : Hid (∀ (w2 W : World) (v : Value), PrbQ n p Is[id].kd w2 v W → W.heap[w.heap.size]? = some (.cells #[.int .i64 0, .bool cl] 138 (0, 0)) → ∃ mb, v = .pointer (some ⟨mb, 0, none⟩) ∧ ∀ V, V.heap = (W.alloc (.cells (mkC kind w.heap.size 0 nn (f : Int)).arr 166)).heap → V.os = W.os → V.tape = W.tape → V.output = W.output → Calls Tryz.prog 49 #[.pointer (some ⟨mb, 0, none⟩), .pointer (some ⟨W.heap.size, 0, none⟩)] V fun e w' => e = .returned (.tuple #[]) ∧ Hid (w'.cell? ⟨W.heap.size, 25, none⟩ = some (.int .i64 why) ∧ Below w2.heap.size w2 w')) := fun w2 W v hQ hx => prb_alone hQ hkd hx n0 hk hf hn p1 p2 why hwhy rfl
  have HEn : Hid (∀ W, Below w.heap.size w W → W.cell? ⟨sb, 0, none⟩ = some (.pointer (some ⟨mb, 0, none⟩)) ∧ W.cell? ⟨mb, 8, none⟩ = some (.int .i64 (a : Int)) ∧ W.cell? ⟨mb, 9 + a, none⟩ = some (.int .i64 (m.ra a)) ∧ W.frozen? ⟨mb, 9 + a, none⟩ = false ∧ Hid (DocW sb mb ib capI (m.ref a) Is n p C (W.setCell ⟨mb, 9 + a, none⟩ (.int .i64 (wrap64 (m.ra a + 1)))) ∧ Chg (fun x => x = mb) w (W.setCell ⟨mb, 9 + a, none⟩ (.int .i64 (wrap64 (m.ra a + 1)))))) := fun W hb => by
    have HW := H.below hb
    have hc : Chg (fun x => x = mb) W (W.setCell ⟨mb, 9 + a, none⟩ (.int .i64 (wrap64 (m.ra a + 1)))) := Chg.set W ⟨mb, 9 + a, none⟩ _
    refine ⟨HW.sdm.sh, HW.sdm.mm 8 _ (by rw [← ha]; rfl), HW.sdm.mm (9 + a) _ (m.ra_cell a2), HW.sdm.mf _, HW.machine hc ?_ (m.ref_all a a2 1 (by decide)).2.2.2.1, (Chg.of_below hb).trans hc (fun x e => Or.inl e)⟩
    rw [heap_setCell_same W mb (9 + a) _ _ _ HW.mach, m.ra_set a2]
  have hmx : mb < w.heap.size := (Array.getElem?_eq_some_iff.1 H.mach).1
  have hid' : (id : Int) < (Is.length : Int) := by omega
  have hle' : Is.length ≤ 1000 := hle
  have Hw1 : Hid (w.alloc (.cells #[.int .i64 st, .bool cl] 138) = w1) := hw1
  have a2' : (a : Int) < 2 := by omega
  have Hb1 : Hid (Below w.heap.size w w1) := hb1
  clear H H1 hd hwhy hst hpr ha hb1 hx1 hw1 hk hkd hle a2
  generalize Is[id].kd = kd at *
  clear hid
  go_enter Tryz.func84, Tryz.ntmps84
  go_upto_region 2 with fail
  have hw1 := Hw1.out
  simp only [hw1]
  clear hw1 Hw1
  go_cut [39] from 20 to 38 (fun v W => v = .bool false ∧ W = w1.drew)
  case first =>
    by_cases h0 : 0 ≤ st
    · have h1 : ¬ st < (n : Int) := fun q => hs ⟨h0, q⟩
      go_region
      all_goals
        go_wp2_with fail
        go_meet
        exact ⟨rfl, rfl⟩
    · have h1 : st < 0 := by omega
      go_region
      all_goals
        go_wp2_with fail
        go_meet
        exact ⟨rfl, rfl⟩
  case rest =>
    obtain ⟨rfl, rfl⟩ := hcut
    go_upto_region 7 with fail
    obtain ⟨hB2, hX2⟩ := HW2.out _ rfl
    have HB2 := hid_of hB2
    have HX2 := hid_of hX2
    clear hB2 hX2 HW2 x0 f0 e0 e1 e2 d0 d1
    generalize (w1.setCell ⟨w.heap.size, 0, none⟩ (.int .i64 0)).drew = w2 at *
    have HS2 : Hid (∀ W1, Below w2.heap.size w2 W1 → PrS sb mb ib id Is.length capI n p kd w W1) := fun W1 hb => HPr.out W1 (HB2.out.trans (hb.mono HB2.out.size))
    go_cut [15] from 57 to 94 (fun v W => Hid (PrbQ n p kd w2 v W))
    case first =>
      go_region_held3 (fun W => PrS sb mb ib id Is.length capI n p kd w W)
        (((with_reducible refine HS2.out _ ?_); repeat (first | with_reducible exact hB9 | with_reducible exact Below.refl _ _ | with_reducible refine bel_d ?_ | with_reducible refine bel_n ?_ _)))
        ((go_at_call 37; with_reducible refine Calls.mono (HFr.out _) ?_; rintro e w9 ⟨I, rfl, H9⟩; have hB9 : Below w2.heap.size w2 w9 := below_undrew H9.out.2.2.1))
      all_goals
        go_wp2_with fail
        go_meet
        exact prb_of H9.out.1 H9.out.2.1 hB9 (fun x hx => le_undrew (H9.out.2.2.2 x hx))
    case rest =>
      have hBc : Below w2.heap.size w2 wc := by
        obtain ⟨_, _, _, _, _, _, h4, _⟩ := hcut.out
        exact h4
      obtain ⟨mb2, rfl, HAl2⟩ := HAl.out w2 wc _ hcut.out ((hBc.block _ (Array.getElem?_eq_some_iff.1 HX2.out).1).trans HX2.out)
      have HAc : Hid (∀ _ : Unit, _) := fun _ => HAl2 (wc.alloc (.cells #[.int .i64 kind, .int .i64 0, .string ⟨#[]⟩, .string ⟨#[]⟩, .slice none 0 0, .pointer (some ⟨w.heap.size, 0, none⟩), .int .i64 0, .int .i64 nn, .int .u64 (f : Int), .int .i64 0, .int .i64 0, .int .i64 0, .int .i64 0, .int .i64 0, .int .i64 0, .slice none 0 0, .slice none 0 0, .slice none 0 0, .int .i64 0, .int .u64 0, .int .u64 0, .int .i64 0, .int .i64 0, .bool false, .bool false, .int .i64 0, .int .i64 0, .pointer none, .int .i64 0, .slice none 0 0, .int .u64 0] 166)) rfl rfl rfl rfl
      have hne : ¬ wc.heap.size = mb := by have := hBc.size; have := HB2.out.size; omega
      clear HAl2 hBc HAl HFr HPr HS2
      go_upto_region 10 with (go_at_call 49; with_reducible refine Calls.mono (HAc.out ()) ?_; rintro e w8 ⟨rfl, H8⟩)
      obtain ⟨s1, s2, s3, s4, HD⟩ := HEn.out w8 (HB2.out.trans (H8.out.2.mono HB2.out.size))
      obtain ⟨_, _, _, _, HDd⟩ := HEn.out w8.drew (HB2.out.trans (H8.out.2.mono HB2.out.size)).drew
      have q25 := H8.out.1
      clear HEn HAc
      generalize m.ra a = ra at *
      by_cases h0 : why = 0
      · rw [if_pos h0] at her
        subst h0
        subst her
        go_region
        all_goals
          go_wp2_with fail
          go_ret
          exact ⟨rfl, by first | exact HDd | exact HD⟩
      · rw [if_neg h0] at her
        subst her
        go_region
        all_goals
          go_wp2_with fail
          go_ret
          exact ⟨rfl, by first | exact HDd | exact HD⟩
end
end Go.Proofs.YtaeapikhhbjlnaaGreatDoor
