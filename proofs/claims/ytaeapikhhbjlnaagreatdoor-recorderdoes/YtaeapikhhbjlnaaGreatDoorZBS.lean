/- THE DOCUMENT's RECORD (of layer 14): the machine's own part. Own work of the verifier. -/
import Derived.Test.YtaeapikhhbjlnaaGreatDoorKJ
import Derived.Test.YtaeapikhhbjlnaaGreatDoorZBR
import Derived.Deep.RegionHeld3
namespace Go.Proofs.YtaeapikhhbjlnaaGreatDoor
open Go.RowKit

/-- The machine and its instruments. -/
structure MacW (mb ib capI : Nat) (m : Mc) (Is : List Ins) (n p : Nat) (C : Nat → Nat → Nat → List Int) (w : World) : Prop where
  mach : w.heap[mb]? = some (.cells m.arr 124 (0, 0))
  l : 0 < Is.length → m.l = .slice (some ⟨ib, 0, none⟩) Is.length capI
  arr : 0 < Is.length → ∃ cur : Array Value, w.heap[ib]? = some (.cells cur 132 (0, 0)) ∧ ∀ j (hj : j < Is.length), ∀ o, o < 14 → cur[j * 14 + o]? = (Is[j].arr n)[o]?
  ins : ∀ j (hj : j < Is.length), InsW Is[j] n (wdF Is[j].kd p) (C j) w
  dj : ∀ i j (hi : i < Is.length) (hj : j < Is.length), i ≠ j → ∀ x, Is[i].Blk x → ¬ Is[j].Blk x
theorem DocW.mac {sb mb ib capI n p : Nat} {m : Mc} {Is : List Ins} {C : Nat → Nat → Nat → List Int} {w : World} (H : DocW sb mb ib capI m Is n p C w) : MacW mb ib capI m Is n p C w := ⟨H.mach, H.l, H.arr, H.ins, H.dj⟩
theorem MacW.doc {sb mb ib capI n p : Nat} {m : Mc} {Is : List Ins} {C : Nat → Nat → Nat → List Int} {w : World} (H : MacW mb ib capI m Is n p C w) (hs : w.heap[sb]? = some (.cells #[.pointer (some ⟨mb, 0, none⟩)] 135 (0, 0))) : DocW sb mb ib capI m Is n p C w := ⟨hs, H.mach, H.l, H.arr, H.ins, H.dj⟩
theorem ty_ne {w : World} {x y : Nat} {a b : Array Value} {t t' : TypeId} {z z' : Nat × Nat} (h : w.heap[x]? = some (.cells a t z)) (k : w.heap[y]? = some (.cells b t' z')) (hne : t ≠ t') : x ≠ y := fun e => by
  rw [e, k] at h
  injection h with h
  injection h with _ h
  exact hne h.symm
/-- One row of an instrument holds others now. -/
theorem InsW.put {I : Ins} {n wd : Nat} {C : Nat → Nat → List Int} {w w' : World} {S : Nat → Prop} (H : InsW I n wd C w) {b i : Nat} (hb : b < 2) (hi : i < (I.g b).length) {ys : List Int} (hr : RowD w' (I.g b)[i] ys) (hc : Chg S w w') (hS : ∀ x, I.Blk x → x ≠ (I.g b)[i] → ¬ S x) : InsW I n wd (upC C b i ys) w' := by
  have hrow := H.row b hb i hi
  refine ⟨fun b' hb' => (H.hb b' hb').heap (hc.block _ (H.hb b' hb').lt (hS _ (I.blk_h hb') (fun e => (H.hb b' hb').ne_row hrow e.symm))), H.len, fun b' hb' i' hi' => ?_, H.nd, H.hne⟩
  by_cases h : b' = b ∧ i' = i
  · obtain ⟨rfl, rfl⟩ := h
    rw [upC_at]
    exact hr
  · rw [upC_ne _ _ _ _ _ _ h]
    have h2 := H.row b' hb' i' hi'
    exact h2.heap (hc.block _ h2.lt (hS _ (I.blk_g hb' (List.getElem_mem hi')) (nd_ne H.nd hb hb' hi hi' h)))
/-- One instrument's contents are others now. -/
def upJ (C : Nat → Nat → Nat → List Int) (id : Nat) (D : Nat → Nat → List Int) : Nat → Nat → Nat → List Int := fun j => if j = id then D else C j
theorem upJ_at (C : Nat → Nat → Nat → List Int) (id : Nat) (D : Nat → Nat → List Int) : upJ C id D id = D := if_pos rfl
theorem upJ_ne (C : Nat → Nat → Nat → List Int) {id j : Nat} (D : Nat → Nat → List Int) (h : j ≠ id) : upJ C id D j = C j := if_neg h
section
variable {mb ib capI n p : Nat} {m : Mc} {Is : List Ins} {C : Nat → Nat → Nat → List Int} {W : World}
/-- Alone, of a record, over the machine and its instruments. -/
theorem MacW.alone {id x cb a i t f : Nat} {kind nn : Int} {cl : Bool} (H : MacW mb ib capI m Is n p C W) (hid : id < Is.length) (hle : Is.length ≤ 1000) (hx : W.heap[x]? = some (.cells #[.int .i64 (i : Int), .bool cl] 138 (0, 0))) (hc : W.heap[cb]? = some (.cells (mkC kind x (id : Int) nn (f : Int)).arr 166 (0, 0))) (hi : i < n) (ha : m.a = (a : Int)) (a2 : a < 2) (hk : kind = 4 ∨ kind = 5 ∨ kind = 6) (hf : f < 18446744073709551616) (hn : In64 nn) (hpr : m.pr = (p : Int)) (p1 : 1 ≤ p) (p2 : p ≤ 14) (hr : RowOk Is[id].kd p t (C id a i)) (why : Int) (hwhy : why = whyF kind Is[id].kd nn f cl) :
    Calls Tryz.prog 49 #[.pointer (some ⟨mb, 0, none⟩), .pointer (some ⟨cb, 0, none⟩)] W fun e w' => e = .returned (.tuple #[]) ∧ Hid (w'.cell? ⟨cb, 25, none⟩ = some (.int .i64 why) ∧ MacW mb ib capI (m.aft why a) Is n p (upJ C id (if why = 0 then upC (C id) a i (layD kind p (C id a i) nn f) else C id)) w' ∧ ∃ rb, rb ∈ Is[id].g a ∧ Chg (D3 cb mb rb) W w') := by
  have hI := H.ins id hid
  have hlen := hI.len a a2
  have hia : i < (Is[id].g a).length := by omega
  obtain ⟨rb, hrb⟩ : ∃ rb, rb = (Is[id].g a)[i] := ⟨_, rfl⟩
  have hrow : RowD W rb (C id a i) := by rw [hrb]; exact hI.row a a2 i hia
  have hrm : rb ∈ Is[id].g a := by rw [hrb]; exact List.getElem_mem hia
  obtain ⟨cur, hib, hcur⟩ := H.arr (by omega)
  have hl := H.l (by omega)
  have hcell : ∀ o v, o < 14 → (Is[id].arr n)[o]? = some v → W.cell? ⟨ib, id * 14 + o, none⟩ = some v := fun o v ho e => by
    have := hcur id hid o ho
    rw [e] at this
    simp [World.cell?, hib, this]
  have hD : Dst cb mb rb (mkC kind x (id : Int) nn (f : Int)) m (C id a i) W := ⟨hc, H.mach, hrow⟩
  have nrow : ∀ {y : Nat} {cs : Array Value} {t : TypeId} {z : Nat × Nat}, W.heap[y]? = some (.cells cs t z) → t ≠ 2 → y ≠ rb := fun h ht => ty_ne h hrow ht
  have hhb := hI.hb a a2
  obtain ⟨rest, hhd⟩ := hhb
  have xne : x ≠ cb ∧ x ≠ mb ∧ x ≠ rb := ⟨ty_ne hx hc (by decide), ty_ne hx H.mach (by decide), nrow hx (by decide)⟩
  have ine : ib ≠ cb ∧ ib ≠ mb ∧ ib ≠ rb := ⟨ty_ne hib hc (by decide), ty_ne hib H.mach (by decide), nrow hib (by decide)⟩
  have hne : Is[id].h a ≠ cb ∧ Is[id].h a ≠ mb ∧ Is[id].h a ≠ rb := ⟨ty_ne hhd hc (by decide), ty_ne hhd H.mach (by decide), nrow hhd (by decide)⟩
  have hE : ∀ V, Chg (D3 cb mb rb) W V → Ev x ib id (Is[id].h a) i rb (wdF Is[id].kd p) (wdF Is[id].kd p) n (Is[id].cap a) a Is[id].kd cl V := fun V hV => by
    have no : ∀ y, y ≠ cb ∧ y ≠ mb ∧ y ≠ rb → ¬ D3 cb mb rb y := fun y q k => by
      rcases k with k | k | k
      · exact q.1 k
      · exact q.2.1 k
      · exact q.2.2 k
    refine ⟨hV.cell (by simp [World.cell?, hx]) (no _ xne), hV.cell (by simp [World.cell?, hx]) (no _ xne), hV.cell (hcell 0 _ (by decide) rfl) (no _ ine), ?_, ?_⟩
    · refine hV.cell (a := ⟨ib, id * 14 + 4 + a, none⟩) ?_ (no _ ine)
      rcases (show a = 0 ∨ a = 1 by omega) with rfl | rfl
      · exact hcell 4 _ (by decide) rfl
      · exact hcell 5 _ (by decide) rfl
    · have := (hI.hb a a2).cell i hia
      rw [← hrb] at this
      exact hV.cell this (no _ hne)
  refine Calls.mono (alone_all hD hE a2 hi hk ha hl hid hle hf hn hpr p1 p2 hr hr.len) ?_
  rintro e w' ⟨rfl, q⟩
  obtain ⟨⟨c', e1, hD'⟩, hch⟩ := q.out
  rw [← hwhy] at e1 hD'
  refine ⟨rfl, hD'.cc 25 _ (by rw [← e1]; rfl), ⟨hD'.mach, fun h => by rw [(aft_all m why a a2).2.2.2.1]; exact H.l h, fun h => ⟨cur, hch.at_ hib (fun k => by rcases k with k | k | k; exact ine.1 k; exact ine.2.1 k; exact ine.2.2 k), hcur⟩, fun j hj => ?_, H.dj⟩, rb, hrm, hch⟩
  have tyc : ∀ (J : Ins) (C' : Nat → Nat → List Int) (wd y : Nat), InsW J n wd C' W → J.Blk y → y ≠ cb ∧ y ≠ mb := fun J C' wd y hJ hy => ⟨fun e => by rcases hJ.ty hy (by rw [e]; exact hc) with q | q <;> exact absurd q (by decide), fun e => by rcases hJ.ty hy (by rw [e]; exact H.mach) with q | q <;> exact absurd q (by decide)⟩
  by_cases hjd : j = id
  · subst hjd
    rw [upJ_at]
    have hput := hI.put (S := D3 cb mb rb) (w' := w') a2 hia (ys := if why = 0 then layD kind p (C j a i) nn f else C j a i) (by rw [← hrb]; exact hD'.rowd) hch (fun y hy hyr k => by
      have := tyc _ _ _ y hI hy
      rcases k with k | k | k
      · exact this.1 k
      · exact this.2 k
      · exact hyr (by rw [← hrb]; exact k))
    by_cases h0 : why = 0
    · rw [if_pos h0]
      rw [if_pos h0] at hput
      exact hput
    · rw [if_neg h0]
      rw [if_neg h0] at hput
      refine ⟨hput.hb, hput.len, fun b' hb' i' hi' => ?_, hput.nd, hput.hne⟩
      have h3 := hput.row b' hb' i' hi'
      by_cases h4 : b' = a ∧ i' = i
      · obtain ⟨rfl, rfl⟩ := h4
        rw [upC_at] at h3
        exact h3
      · rw [upC_ne _ _ _ _ _ _ h4] at h3
        exact h3
  · rw [upJ_ne _ _ hjd]
    exact (H.ins j hj).chg hch (fun y hy k => by
      have := tyc _ _ _ y (H.ins j hj) hy
      rcases k with k | k | k
      · exact this.1 k
      · exact this.2 k
      · exact H.dj j id hj hid hjd y hy (by rw [show y = rb from k]; exact Is[id].blk_g a2 hrm))
end
end Go.Proofs.YtaeapikhhbjlnaaGreatDoor
/- THE DOCUMENT's RECORD (of layer 14): the walk. Own work of the verifier. -/
namespace Go.Proofs.YtaeapikhhbjlnaaGreatDoor
open Go.RowKit

theorem nxC_if (kind : Int) (p : Nat) (C : Nat → Nat → List Int) (a i : Nat) (n : Int) (f : Nat) (er : Int) : nxC kind p C a (i : Int) n f er = if er = 0 then upC C a i (layD kind p (C a i) n f) else C := by
  unfold nxC
  rw [Int.toNat_natCast]
section
variable {sb mb ib capI n p : Nat} {m : Mc} {Is : List Ins} {C : Nat → Nat → Nat → List Int} {w : World}
set_option maxRecDepth 10000 in
set_option maxHeartbeats 4000000 in
theorem rec14_in {id d a i t f : Nat} {kind nn : Int} {cl : Bool} (H : DocW sb mb ib capI m Is n p C w) (hid : id < Is.length) (hle : Is.length ≤ 1000) (hd : w.heap[d]? = some (.cells #[.int .i64 (i : Int), .bool cl] 138 (0, 0))) (hi : i < n) (ha : m.a = (a : Int)) (a2 : a < 2) (hk : kind = 4 ∨ kind = 5 ∨ kind = 6) (hf : f < 18446744073709551616) (hn : In64 nn) (hst : m.st = (n : Int)) (hpr : m.pr = (p : Int)) (p1 : 1 ≤ p) (p2 : p ≤ 14) (hr : RowOk Is[id].kd p t (C id a i)) (why : Int) (hwhy : why = whyF kind Is[id].kd nn f cl) :
    Calls Tryz.prog 84 #[.pointer (some ⟨sb, 0, none⟩), .pointer (some ⟨d, 0, none⟩), .int .i64 kind, .int .i64 (id : Int), .int .i64 nn, .int .u64 (f : Int)] w fun e w' => e = .returned (.int .i64 why) ∧ Hid (DocW sb mb ib capI (m.aft why a) Is n p (upJ C id (nxC kind p (C id) a (i : Int) nn f why)) w' ∧ ∃ rb, rb ∈ Is[id].g a ∧ Chg (fun x => x = mb ∨ x = rb) w w') := by
  obtain ⟨w1, hw1⟩ : ∃ w1, w.alloc (.cells #[.int .i64 (i : Int), .bool cl] 138) = w1 := ⟨_, rfl⟩
  have hb1 : Below w.heap.size w w1 := by rw [← hw1]; exact bel1 _ _
  have hx1 : w1.heap[w.heap.size]? = some (.cells #[.int .i64 (i : Int), .bool cl] 138 (0, 0)) := by rw [← hw1]; exact new_1 _ _
  have d0 : w.cell? ⟨d, 0, none⟩ = some (.int .i64 (i : Int)) := by simp [World.cell?, hd]
  have d1 : w.cell? ⟨d, 1, none⟩ = some (.bool cl) := by simp [World.cell?, hd]
  have H1 := H.below hb1
  have e0 : w1.cell? ⟨d, 0, none⟩ = some (.int .i64 (i : Int)) := (hb1.cell (p := ⟨d, 0, none⟩) (lt_of_cell d0)).trans d0
  have e1 : w1.cell? ⟨sb, 0, none⟩ = some (.pointer (some ⟨mb, 0, none⟩)) := H1.sdm.sh
  have e2 : w1.cell? ⟨mb, 0, none⟩ = some (.int .i64 (n : Int)) := H1.sdm.mm 0 _ (by rw [← hst]; rfl)
  have e3 : ∀ o, (w1.alloc o).cell? ⟨sb, 0, none⟩ = some (.pointer (some ⟨mb, 0, none⟩)) := fun o => ((bel1 w1 o).cell (p := ⟨sb, 0, none⟩) (lt_of_cell e1)).trans e1
  have HAl : Hid (∀ W, Below w1.heap.size w1 W → W.heap[w1.heap.size]? = some (.cells (mkC kind w.heap.size (id : Int) nn (f : Int)).arr 166 (0, 0)) → Calls Tryz.prog 49 #[.pointer (some ⟨mb, 0, none⟩), .pointer (some ⟨w1.heap.size, 0, none⟩)] W fun e w' => e = .returned (.tuple #[]) ∧ w'.cell? ⟨w1.heap.size, 25, none⟩ = some (.int .i64 why) ∧ Hid (DocW sb mb ib capI (m.aft why a) Is n p (upJ C id (nxC kind p (C id) a (i : Int) nn f why)) w' ∧ ∃ rb, rb ∈ Is[id].g a ∧ Chg (fun x => x = mb ∨ x = rb) w w')) := fun W hW hc => by
    have HW := H1.below hW
    have hxW := (hW.block _ (Array.getElem?_eq_some_iff.1 hx1).1).trans hx1
    refine Calls.mono (HW.mac.alone hid hle hxW hc hi ha a2 hk hf hn hpr p1 p2 hr why hwhy) ?_
    rintro e w' ⟨rfl, q⟩
    obtain ⟨q1, q2, rb, hrb, q3⟩ := q.out
    have hrow : ∃ ys, RowD W rb ys := by
      obtain ⟨i', hi', e⟩ := List.getElem_of_mem hrb
      exact ⟨_, by rw [← e]; exact (HW.ins id hid).row a a2 i' hi'⟩
    obtain ⟨ys, hrow⟩ := hrow
    have hsb : ¬ D3 w1.heap.size mb rb sb := fun k => by
      rcases k with k | k | k
      · exact ty_ne HW.sh hc (by decide) k
      · exact ty_ne HW.sh HW.mach (by decide) k
      · exact ty_ne HW.sh hrow (by decide) k
    rw [← nxC_if] at q2
    refine ⟨rfl, q1, q2.doc (q3.at_ HW.sh hsb), rb, hrb, ?_⟩
    have hs := hb1.size
    refine ((Chg.of_below (S := fun x => x = mb ∨ x = rb) (hb1.trans (hW.mono hs)))).trans q3 (fun x k => ?_)
    rcases k with k | k | k
    · exact Or.inr (by omega)
    · exact Or.inl (Or.inl k)
    · exact Or.inl (Or.inr k)
  have hi' : (i : Int) < (n : Int) := by omega
  have Hw1 : Hid (w.alloc (.cells #[.int .i64 (i : Int), .bool cl] 138) = w1) := hw1
  clear H H1 hd hr hwhy hst hpr ha hi hb1 hx1 hw1 hk
  go_enter Tryz.func84, Tryz.ntmps84
  go_upto_region 2 with fail
  have hw1 := Hw1.out
  simp only [hw1]
  clear hw1 Hw1
  generalize w.heap.size = x at *
  have HAc : Hid (∀ _ : Unit, _) := fun _ => HAl.out ((w1.alloc (.cells #[.int .i64 kind, .int .i64 0, .string ⟨#[]⟩, .string ⟨#[]⟩, .slice none 0 0, .pointer (some ⟨x, 0, none⟩), .int .i64 (id : Int), .int .i64 nn, .int .u64 (f : Int), .int .i64 0, .int .i64 0, .int .i64 0, .int .i64 0, .int .i64 0, .int .i64 0, .slice none 0 0, .slice none 0 0, .slice none 0 0, .int .i64 0, .int .u64 0, .int .u64 0, .int .i64 0, .int .i64 0, .bool false, .bool false, .int .i64 0, .int .i64 0, .pointer none, .int .i64 0, .slice none 0 0, .int .u64 0] 166)).drew) (bel1 w1 _).drew (new_1 w1 _)
  go_region
  all_goals
    go_wp2_with (go_at_call 49; with_reducible refine Calls.mono (HAc.out ()) ?_; rintro e w4 ⟨rfl, q4, H4⟩)
    go_ret
    exact ⟨rfl, H4⟩
end
end Go.Proofs.YtaeapikhhbjlnaaGreatDoor
/- THE DOCUMENT's RECORD (of layer 14), of a stripe that isn't there. Own work of the verifier. -/
namespace Go.Proofs.YtaeapikhhbjlnaaGreatDoor
open Go.RowKit

theorem Mc.ref_all (m : Mc) (a : Nat) (ha : a < 2) (er : Int) (he : ¬ er = 0) : (m.ref a).st = m.st ∧ (m.ref a).pr = m.pr ∧ (m.ref a).a = m.a ∧ (m.ref a).l = m.l ∧ (m.ref a).r0 = bmp er a 0 m.r0 ∧ (m.ref a).r1 = bmp er a 1 m.r1 := by
  unfold Mc.ref bmp
  rcases (show a = 0 ∨ a = 1 by omega) with rfl | rfl
  · simp only [if_neg he]; exact ⟨rfl, rfl, rfl, rfl, rfl, rfl⟩
  · simp only [if_neg he]; exact ⟨rfl, rfl, rfl, rfl, rfl, rfl⟩
/-- What the buffer's count of refused records is. -/
def Mc.ra (m : Mc) (a : Nat) : Int := if a = 0 then m.r0 else m.r1
theorem Mc.ra_cell (m : Mc) {a : Nat} (ha : a < 2) : m.arr[9 + a]? = some (.int .i64 (m.ra a)) := by
  rcases (show a = 0 ∨ a = 1 by omega) with rfl | rfl <;> rfl
theorem Mc.ra_set (m : Mc) {a : Nat} (ha : a < 2) : m.arr.setIfInBounds (9 + a) (.int .i64 (wrap64 (m.ra a + 1))) = (m.ref a).arr := by
  rcases (show a = 0 ∨ a = 1 by omega) with rfl | rfl <;> rfl
/-- The probe's machine. -/
abbrev mcP (n p ib : Nat) : Mc := ⟨(n : Int), (p : Int), 0, 0, 0, 0, 0, 0, .slice (some ⟨ib, 0, none⟩) 1 1⟩
/-- The probe. -/
def PrbQ (n p : Nat) (kd : Int) (w : World) (v : Value) (W : World) : Prop := ∃ (mb ib : Nat) (I : Ins), v = .pointer (some ⟨mb, 0, none⟩) ∧ I.kd = kd ∧ MacW mb ib 1 (mcP n p ib) [I] n p (fun _ _ _ => frst kd (p : Int)) W ∧ Below w.heap.size w W ∧ w.heap.size ≤ mb ∧ ∀ x, I.Blk x → w.heap.size ≤ x
theorem prb_of {n p : Nat} {kd : Int} {w w1 : World} {I : Ins} (hk : I.kd = kd) (hI : InsW I n (wdF I.kd p) (fun _ _ => frst I.kd (p : Int)) w1) (hb : Below w.heap.size w w1) (hg : ∀ x, I.Blk x → w.heap.size ≤ x) : PrbQ n p kd w (.pointer (some ⟨w1.heap.size + 1, 0, none⟩)) ((w1.alloc (.cells (I.arr n) 132)).alloc (.cells (mcP n p w1.heap.size).arr 124)) := by
  have b2 := bel2 w1 (.cells (I.arr n) 132) (.cells (mcP n p w1.heap.size).arr 124)
  have hs := hb.size
  subst hk
  refine ⟨w1.heap.size + 1, w1.heap.size, I, rfl, rfl, ⟨Pr.new2 w1 _ _, fun _ => rfl, fun _ => ⟨I.arr n, Pr.new1 w1 _ _, fun j hj o ho => ?_⟩, fun j hj => ?_, fun i j hi hj hne => ?_⟩, hb.trans (b2.mono hs), by omega, hg⟩
  · have : j = 0 := by simp at hj; omega
    subst this
    simp
  · have : j = 0 := by simp at hj; omega
    subst this
    exact hI.chg (S := fun _ => False) (Chg.of_below b2) (fun _ _ k => k)
  · simp at hi hj
    omega
theorem PrbQ.drew {n p : Nat} {kd : Int} {w W : World} {v : Value} (h : PrbQ n p kd w v W) : PrbQ n p kd w v W.drew := by
  obtain ⟨mb, ib, I, h1, h2, h3, h4, h5, h6⟩ := h
  exact ⟨mb, ib, I, h1, h2, ⟨h3.mach, h3.l, h3.arr, fun j hj => (h3.ins j hj).chg (S := fun _ => False) (Chg.refl _ _).drew (fun _ _ k => k), h3.dj⟩, h4.drew, h5, h6⟩
/-- What the probe's making reads. -/
abbrev PrS (sb mb ib id nI capI n p : Nat) (kd : Int) (w W : World) : Prop := W.cell? ⟨sb, 0, none⟩ = some (.pointer (some ⟨mb, 0, none⟩)) ∧ W.cell? ⟨mb, 0, none⟩ = some (.int .i64 (n : Int)) ∧ W.cell? ⟨mb, 1, none⟩ = some (.int .i64 (p : Int)) ∧ W.cell? ⟨mb, 2, none⟩ = some (.int .i64 0) ∧ W.cell? ⟨mb, 11, none⟩ = some (.slice (some ⟨ib, 0, none⟩) nI capI) ∧ W.cell? ⟨ib, id * 14, none⟩ = some (.int .i64 kd) ∧ W.cell? ⟨ib, id * 14 + 1, none⟩ = some (.string ⟨#[]⟩) ∧ W.cell? ⟨ib, id * 14 + 2, none⟩ = some (.string ⟨#[]⟩) ∧ W.cell? ⟨ib, id * 14 + 3, none⟩ = some (.slice none 0 0) ∧ Below w.heap.size w W
theorem bel_d {B : Nat} {a b : World} (h : Below B a b) : Below B a b.drew := h.drew
theorem bel_n {a b : World} (h : Below a.heap.size a b) (o : Obj) : Below a.heap.size a (b.alloc o) := h.alloc h.size o
section
variable {sb mb ib capI n p : Nat} {m : Mc} {Is : List Ins} {C : Nat → Nat → Nat → List Int} {w : World}
theorem prs_of {id : Nat} (H : DocW sb mb ib capI m Is n p C w) (hid : id < Is.length) (hst : m.st = (n : Int)) (hpr : m.pr = (p : Int)) {W : World} (hb : Below w.heap.size w W) : PrS sb mb ib id Is.length capI n p Is[id].kd w W := by
  have H1 := H.below hb
  exact ⟨H1.sdm.sh, H1.sdm.mm 0 _ (by rw [← hst]; rfl), H1.sdm.mm 1 _ (by rw [← hpr]; rfl), H1.sdm.mm 2 _ rfl, H1.sdm.mm 11 _ (by rw [← H.l (by omega)]; rfl), H1.cell hid (o := 0) (by decide) rfl, H1.cell hid (o := 1) (by decide) rfl, H1.cell hid (o := 2) (by decide) rfl, H1.cell hid (o := 3) (by decide) rfl, hb⟩
/-- Alone, of the probe. -/
theorem prb_alone {x cb f : Nat} {kind nn kd : Int} {cl : Bool} {w2 W : World} {v : Value} (hQ : PrbQ n p kd w2 v W) (hkd : kd = 1 ∨ kd = 2 ∨ kd = 3) (hx : W.heap[x]? = some (.cells #[.int .i64 0, .bool cl] 138 (0, 0))) (hn : 0 < n) (hk : kind = 4 ∨ kind = 5 ∨ kind = 6) (hf : f < 18446744073709551616) (hnn : In64 nn) (p1 : 1 ≤ p) (p2 : p ≤ 14) (why : Int) (hwhy : why = whyF kind kd nn f cl) (hcb : cb = W.heap.size) :
    ∃ mb, v = .pointer (some ⟨mb, 0, none⟩) ∧ ∀ V, V.heap = (W.alloc (.cells (mkC kind x 0 nn (f : Int)).arr 166)).heap → V.os = W.os → V.tape = W.tape → V.output = W.output → Calls Tryz.prog 49 #[.pointer (some ⟨mb, 0, none⟩), .pointer (some ⟨cb, 0, none⟩)] V fun e w' => e = .returned (.tuple #[]) ∧ Hid (w'.cell? ⟨cb, 25, none⟩ = some (.int .i64 why) ∧ Below w2.heap.size w2 w') := by
  obtain ⟨mb, ib, I, rfl, rfl, hM, hB, hge, hbl⟩ := hQ
  refine ⟨mb, rfl, fun V h1 h2 h3 h4 => ?_⟩
  have hb : Below W.heap.size W V := by
    have b := bel1 W (.cells (mkC kind x 0 nn (f : Int)).arr 166)
    exact ⟨h2, h3, h4, by rw [h1]; exact b.size, fun k hk => by rw [h1]; exact b.block k hk⟩
  have hMV : MacW mb ib 1 (mcP n p ib) [I] n p (fun _ _ _ => frst I.kd (p : Int)) V := ⟨(hb.block mb (Array.getElem?_eq_some_iff.1 hM.mach).1).trans hM.mach, hM.l, fun h => by
    obtain ⟨cur, q1, q2⟩ := hM.arr h
    exact ⟨cur, (hb.block ib (Array.getElem?_eq_some_iff.1 q1).1).trans q1, q2⟩, fun j hj => (hM.ins j hj).chg (S := fun _ => False) (Chg.of_below hb) (fun _ _ k => k), hM.dj⟩
  have hcV : V.heap[cb]? = some (.cells (mkC kind x 0 nn (f : Int)).arr 166 (0, 0)) := by rw [h1, hcb]; exact new_1 W _
  refine Calls.mono (hMV.alone (id := 0) (i := 0) (a := 0) (t := 0) (cl := cl) (x := x) (by simp) (by simp) ((hb.block x (Array.getElem?_eq_some_iff.1 hx).1).trans hx) hcV hn rfl (by decide) hk hf hnn rfl p1 p2 (RowOk.first hkd 0) why hwhy) ?_
  rintro e w' ⟨rfl, q⟩
  obtain ⟨q1, _, rb, hrb, q3⟩ := q.out
  refine ⟨rfl, q1, (hB.trans (hb.mono hB.size)).trans (q3.below (by have := hB.size; have := hb.size; omega) (fun y k => ?_))⟩
  have hr2 := hbl rb (I.blk_g (b := 0) (by decide) hrb)
  have := hB.size
  rcases k with k | k | k <;> omega
end
end Go.Proofs.YtaeapikhhbjlnaaGreatDoor
