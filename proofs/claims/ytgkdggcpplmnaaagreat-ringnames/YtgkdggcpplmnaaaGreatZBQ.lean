/- FAMILIES of a snapshot of one value. Own work of the verifier. -/
import Derived.Test.YtgkdggcpplmnaaaGreatZBM
import Derived.Test.YtgkdggcpplmnaaaGreatZBH
import Derived.MapKept
import Derived.Maps.Own
import Derived.LoopN
namespace Go.Proofs.YtgkdggcpplmnaaaGreat.Ri
open Go.RowKit Me

def setB (w : World) (b : Nat) (o : Obj) : World := { w with heap := w.heap.setIfInBounds b o }
theorem setB_at {w : World} {b : Nat} {o o' : Obj} (h : w.heap[b]? = some o) : (setB w b o').heap[b]? = some o' := (MapKept.heap_set h).1
theorem setB_bel {u w : World} {b : Nat} (o' : Obj) (h : Below u.heap.size u w) (hb : u.heap.size ≤ b) : Below u.heap.size u (setB w b o') :=
  ⟨h.os, h.tape, h.output, by show u.heap.size ≤ (w.heap.setIfInBounds b o').size; rw [Array.size_setIfInBounds]; exact h.size, fun k hk => by
    show (w.heap.setIfInBounds b o')[k]? = _
    rw [Array.getElem?_setIfInBounds_ne (by omega)]
    exact h.block k hk⟩
/-- The family of a value. -/
abbrev famV (x : Vl) : Value := .agg #[.int .i64 x.d.kind, .string ⟨x.d.help.toArray⟩]
def famE (x : Vl) : Array MapEntry := #[⟨.string ⟨x.d.name.toArray⟩, famV x, 0⟩]
theorem ba_self (s : ByteArray) : (s == s) = true := by
  obtain ⟨d⟩ := s
  show (d == d) = true
  exact beq_self_eq_true d
theorem upd_fam {w : World} {b : Nat} (x : Vl) (hb : w.heap[b]? = some (.map #[] 0)) :
    (Instr.mapUpdate 69 (.map (some b)) (.string ⟨x.d.name.toArray⟩) (famV x)).run Tryz.prog w = .ok () (setB w b (.map (famE x) 1)) := by
  simp [Instr.mapUpdate, run_underlying Tryz.underlying69, MapKept.run_getObj_map hb, MapKept.run_checkKey Tryz.underlying9 (k := .string ⟨x.d.name.toArray⟩) trivial, MapKept.run_findKey (a := none) Tryz.underlying9 (show Instr.findNow .string (.string ⟨x.d.name.toArray⟩) [] 0 = some none from rfl), MapKept.run_setObj_map _ hb, Result.andThen, setB, famE]
theorem look_fam {w : World} {b : Nat} {x y : Vl} (hb : w.heap[b]? = some (.map (famE x) 1)) (hn : x.d.name = y.d.name) :
    (Instr.lookup 69 (.map (some b)) (.string ⟨y.d.name.toArray⟩) true).run Tryz.prog w = .ok (.tuple #[famV x, .bool true]) w := by
  rw [← hn]
  simp [Instr.lookup, run_underlying Tryz.underlying69, MapKept.run_getObj_map hb, MapKept.run_checkKey Tryz.underlying9 (k := .string ⟨x.d.name.toArray⟩) trivial, MapKept.run_findKey (a := some (0, famV x)) Tryz.underlying9 (show Instr.findNow .string (.string ⟨x.d.name.toArray⟩) (famE x).toList 0 = some (some (0, famV x)) by simp only [famE, Instr.findNow, Instr.sameNow]; rw [ba_self]), Result.andThen]
set_option maxHeartbeats 1000000 in
theorem fam_any (x : Vl) (lv : Value) (hs : ∃ a n c, lv = .slice a n c) (w : World) :
    Calls Tryz.prog 26 #[.agg #[.int .i64 x.d.kind, .string ⟨x.d.name.toArray⟩, .string ⟨x.d.help.toArray⟩, lv]] w fun e w' => e = .returned (famV x) ∧ Below w.heap.size w w' := by
  obtain ⟨a, n, c, rfl⟩ := hs
  go_enter Tryz.func26, Tryz.ntmps26
  go_wp2_with fail
  simp [bodyPost, results, Tryz.results26, go_sem]
  exact bt (bel1 _ _) (bel1 _ _)
set_option maxRecDepth 100000 in
set_option maxHeartbeats 4000000 in
theorem families_one (p : Int) (r : Nat) (x : Vl) (v : Value) (w : World) (hv : SnAt w ⟨p, [x], r⟩ v) :
    Calls Tryz.prog 24 #[v] w fun e w' => ∃ mb, e = .returned (.map (some mb)) ∧ w.heap.size ≤ mb ∧ w'.heap[mb]? = some (.map (famE x) 1) ∧ Below w.heap.size w w' := by
  obtain ⟨us, rfl, su⟩ := hv
  obtain ⟨ao, b1, o1, cap, rfl, hao, -, hr⟩ := sv_open su
  obtain rfl := hao (by simp)
  obtain ⟨lv, cv, g1, g2, g3⟩ := hr 0 (by simp)
  obtain ⟨la, lc, rfl⟩ := g2.form
  obtain ⟨ca, cc, rfl⟩ := g3.form
  simp only [List.getElem_cons_zero, Nat.zero_mul, Nat.add_zero] at g1
  clear g2 g3 hr su hao
  have HX := hid_of (C11.cC g1)
  have hmk : ∀ W : World, (Instr.makeMap 69 none).run Tryz.prog W = .ok (.map (some W.heap.size)) (W.alloc (.map #[] 0)) := fun _ => rfl
  have hix := index_val b1 o1 1 cap 0 0 rfl (by omega)
  rw [Nat.zero_mul, Nat.add_zero] at hix
  go_enter Tryz.func24, Tryz.ntmps24
  go_upto_region 2 with fail
  obtain ⟨w2, hw2⟩ : ∃ w2, (w.alloc (.cells #[.int .i64 p, .slice (some ⟨b1, o1, none⟩) 1 cap, .int .u64 (r : Int)] 31)).alloc (.map #[] 0) = w2 := ⟨_, rfl⟩
  have hb2 : Below w.heap.size w w2 := by rw [← hw2]; exact bt (bel1 _ _) (bel1 _ _)
  have hm2 : w2.heap[w.heap.size + 1]? = some (.map #[] 0) := by rw [← hw2]; exact hkN (o := .map #[] 0) (by have := new_1 (w.alloc (.cells #[.int .i64 p, .slice (some ⟨b1, o1, none⟩) 1 cap, .int .u64 (r : Int)] 31)) (.map #[] 0); rwa [show (w.alloc (.cells #[.int .i64 p, .slice (some ⟨b1, o1, none⟩) 1 cap, .int .u64 (r : Int)] 31)).heap.size = w.heap.size + 1 by simp] at this) (Below.refl _ _)
  have hn2 : w2.heap[w.heap.size]? = some (.cells #[.int .i64 p, .slice (some ⟨b1, o1, none⟩) 1 cap, .int .u64 (r : Int)] 31 (0, 0)) := by rw [← hw2]; exact hkN (new_1 _ _) (bel1 _ _)
  have hs2 : w2.heap.size = w.heap.size + 2 := by rw [← hw2]; simp
  rw [hw2]
  clear hw2
  obtain ⟨a0, a1, a2, -, -, -⟩ := three_cells hn2
  obtain ⟨r0, r1, r2, r3, r4, r5, r6, r7, r8, r9, r10⟩ := (g1.below hb2).cC
  go_upto_region 3 with fail
  refine wp_loop_rounds 2 (show Code.wp Tryz.prog _ _ _ _ from ?_)
  have sF := store_f
  go_upto_region 5 with fail
  obtain ⟨w3, hw3⟩ : ∃ w3, w2.alloc (.cells (vc x (.slice la x.d.labels.length lc) (.slice ca x.cs.length cc)) 45) = w3 := ⟨_, rfl⟩
  have hb3 : Below w.heap.size w w3 := by rw [← hw3]; exact bt hb2 (bel1 _ _)
  have hm3 : w3.heap[w.heap.size + 1]? = some (.map #[] 0) := by rw [← hw3]; exact hkN hm2 (bel1 _ _)
  have hn3 : w3.heap[w.heap.size + 2]? = some (.cells (vc x (.slice la x.d.labels.length lc) (.slice ca x.cs.length cc)) 45 (0, 0)) := by rw [← hw3, ← hs2]; exact new_1 _ _
  simp only [vc] at hw3
  rw [hw3]
  clear hw3 hb2 hm2 hn2 hs2 a0 a1 a2 r0 r1 r2 r3 r4 r5 r6 r7 r8 r9 r10 g1 HX hix hmk sF
  have HD : Hid (w3.drew.heap[w.heap.size + 2]? = some (.cells (vc x (.slice la x.d.labels.length lc) (.slice ca x.cs.length cc)) 45 (0, 0))) := hn3
  have HM : Hid (w3.drew.heap[w.heap.size + 1]? = some (.map #[] 0)) := hm3
  have HB : Hid (Below w.heap.size w w3.drew) := bt hb3 (drew_bel1 w3)
  obtain ⟨y0, y1, y2, y3, y4, y5, y6, y7, y8, y9, y10⟩ := eleven_cells HD
  have HF : Hid (∀ W, Calls Tryz.prog 26 #[.agg #[.int .i64 x.d.kind, .string ⟨x.d.name.toArray⟩, .string ⟨x.d.help.toArray⟩, .slice la x.d.labels.length lc]] W fun e w' => e = .returned (famV x) ∧ Below W.heap.size W w') := fun W => fam_any x _ ⟨_, _, _, rfl⟩ W
  clear hb3 hm3 hn3
  go_region_with (go_at_call 26; with_reducible refine (HF.out _).mono ?_; rintro e w4 ⟨rfl, hb4⟩; have q1 := cellB hb4 y1; have HB4 := hid_of (bt HB.out hb4); have hm4 := hkN HM.out hb4; have hu4 := upd_fam x hm4; have HM4 := hid_of (setB_at (o' := .map (famE x) 1) hm4))
  all_goals
    have HB5 := hid_of (setB_bel (.map (famE x) 1) HB4.out (by omega : w.heap.size ≤ w.heap.size + 1))
    clear HB4 hb4 hm4 hu4 q1
    generalize setB w4 (w.heap.size + 1) (.map (famE x) 1) = w5 at *
    go_wp2_with fail
    refine (show Code.wp Tryz.prog _ _ _ _ from ?_)
    go_wp2_with fail
    go_ret
    exact ⟨_, rfl, by omega, HM4.out, HB5.out⟩
end Go.Proofs.YtgkdggcpplmnaaaGreat.Ri
