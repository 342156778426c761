/- PARSE, where the reader gives up. Own work of the verifier. -/
import Derived.Test.YtliehacfoiigpaaGreatDoorSAZ
namespace Go.Proofs.YtliehacfoiigpaaGreatDoor
open Go.RowKit Me

theorem rs_new (w : World) : Rs (((w.alloc (.cells #[.int .i64 0, .slice none 0 0, .int .u64 0] 26)).alloc (.cells #[.int .i64 0] 27)).alloc (.cells #[.int .i64 0] 3)) w.heap.size (.int .i64 0) (.slice none 0 0) (.int .u64 0) (.int .i64 0) (.int .i64 0) := by
  refine ⟨?_, ?_, ?_⟩
  · exact hkN' (hkN' (new_1 w _) (bel1 _ _)) (bel1 _ _)
  · have := new_1 (w.alloc (.cells #[.int .i64 0, .slice none 0 0, .int .u64 0] 26)) (.cells #[.int .i64 0] 27)
    rw [show (w.alloc (.cells #[.int .i64 0, .slice none 0 0, .int .u64 0] 26)).heap.size = w.heap.size + 1 by simp] at this
    exact hkN' this (bel1 _ _)
  · have := new_1 ((w.alloc (.cells #[.int .i64 0, .slice none 0 0, .int .u64 0] 26)).alloc (.cells #[.int .i64 0] 27)) (.cells #[.int .i64 0] 3)
    rwa [show ((w.alloc (.cells #[.int .i64 0, .slice none 0 0, .int .u64 0] 26)).alloc (.cells #[.int .i64 0] 27)).heap.size = w.heap.size + 2 by simp] at this
set_option maxRecDepth 100000 in
set_option maxHeartbeats 4000000 in
theorem parse_cut (T : List UInt8) (g cap P : Nat) (w : World) (hm : Mx w) (ht : Wi.Tab w) (a : HdL T gnoT P []) (hP1 : 1 ≤ P) (hP2 : P ≤ 14) (hcv : ∀ W, Below w.heap.size w W → (convert 30 9 (.slice (some ⟨g, 0, none⟩) T.length cap)).run Tryz.prog W = .ok (.string ⟨T.toArray⟩) W) :
    Calls Tryz.prog 5 #[.slice (some ⟨g, 0, none⟩) T.length cap] w fun e w' => e = .returned (.tuple #[.agg #[.int .i64 0, .slice none 0 0, .int .u64 0], .int .i64 5, .int .i64 2]) ∧ Below w.heap.size w w' := by
  have hmf : ∀ (fn : Fn) (first cap : Array Value) (w : World), (Instr.makeFunc fn first cap).run Tryz.prog w = .ok (.func fn first cap) w := fun _ _ _ _ => rfl
  obtain ⟨W1, hW1⟩ : ∃ W1, W1 = ((w.alloc (.cells #[.int .i64 0, .slice none 0 0, .int .u64 0] 26)).alloc (.cells #[.int .i64 0] 27)).alloc (.cells #[.int .i64 0] 3) := ⟨_, rfl⟩
  have hR1 : Rs W1 w.heap.size (.int .i64 0) (.slice none 0 0) (.int .u64 0) (.int .i64 0) (.int .i64 0) := by rw [hW1]; exact rs_new w
  have hb1 : Below w.heap.size w W1 := by rw [hW1]; exact bt (bt (bel1 _ _) (bel1 _ _)) (bel1 _ _)
  have hcv1 := hcv W1 hb1
  obtain ⟨W2, hW2⟩ : ∃ W2, W2 = W1.alloc (.cells #[.string ⟨T.toArray⟩, .int .i64 0] 45) := ⟨_, rfl⟩
  have hb2 : Below W1.heap.size W1 W2 := by rw [hW2]; exact bel1 _ _
  have hN2 : W2.heap[W1.heap.size]? = some (.cells #[.string ⟨T.toArray⟩, .int .i64 0] 45) := by rw [hW2]; exact new_1 W1 _
  have hr2 : Rd W1 W1.heap.size W2 T 0 W2 := ⟨hN2, Chg.refl _ _, Nat.le_refl _, hb2⟩
  have hsz : W1.heap.size = w.heap.size + 3 := by rw [hW1]; simp
  have HS : La.HidC Tryz.prog 7 #[.pointer (some ⟨w.heap.size + 3, 0, none⟩)] W2 (fun e w' => e = gaveUp 5 2 ∧ Below W1.heap.size W1 w') := by
    rw [← hsz]
    exact snapshot_cut W1 W1.heap.size T 0 P W2 hr2 (hm.below hb1) (ht.below hb1) (by omega) a hP1 hP2
  have hlen : (T.length : Int) ≤ 4194304 := by have := a.len; omega
  have HW1 := hid_of hW1
  have HW2 := hid_of hW2
  have HR1 := hid_of hR1
  have HB1 := hid_of hb1
  clear hcv hm ht a hW1 hW2 hR1 hb1 hb2 hN2 hr2
  go_enter_defers Tryz.func5, Tryz.ntmps5
  go_upto_region 1 with fail
  rw [← HW1.out]
  go_upto_region 5 with fail
  rw [← HW2.out]
  clear hcv1 HW1 HW2 hsz
  go_wp2_with fail
  refine Calls.mono HS.out ?_
  rintro e w3 ⟨rfl, hb3⟩
  have HB3 := hid_of hb3
  clear HS hb3
  go_wp2_with fail
  refine leaves_cons (f := 6) (args := cap3 w.heap.size) (by simp) (by simp [go_sem]) ?_
  refine (catch_pan w.heap.size 5 2 [] _ _ _ _ _ w3 (HR1.out.below HB3.out)).mono ?_
  rintro e u' w4 ⟨rfl, rfl, hR4, hB4⟩
  obtain ⟨s0, s1, s2, -⟩ := three_cells hR4.s
  have e0 : w4.cell? ⟨w.heap.size + 1, 0, none⟩ = some (.int .i64 5) := by simp [World.cell?, hR4.e]
  have l0 : w4.cell? ⟨w.heap.size + 1 + 1, 0, none⟩ = some (.int .i64 2) := by simp [World.cell?, hR4.l]
  have hB5 : Below w.heap.size w w4 := ((HB1.out.trans (HB3.out.mono HB1.out.size))).trans hB4
  show ∃ v, (results Tryz.f5 _).run Tryz.prog w4 = .ok v w4 ∧ _
  refine ⟨.tuple #[.agg #[.int .i64 0, .slice none 0 0, .int .u64 0], .int .i64 5, .int .i64 2], ?_, rfl, hB5⟩
  clear hR4 hB4 hB5 HB1 HB3 HR1
  simp [results, Tryz.results5, go_sem, s0, s1, s2, e0, l0]
end Go.Proofs.YtliehacfoiigpaaGreatDoor
/- PARSE, where the text is that of one counter. Own work of the verifier. -/
namespace Go.Proofs.YtliehacfoiigpaaGreatDoor
open Go.RowKit Me

theorem own_put5 {w : World} {b B : Nat} {e : TypeId} {s n : Nat} {v : Value} {xs : List Value} (h : w.ownsRow B e s v n xs) (hb : b + 2 < B) (y0 y1 y2 y3 y4 : Value) : (((((w.setCell ⟨b, 0, none⟩ y0).setCell ⟨b, 1, none⟩ y1).setCell ⟨b, 2, none⟩ y2).setCell ⟨b + 1, 0, none⟩ y3).setCell ⟨b + 2, 0, none⟩ y4).ownsRow B e s v n xs := by
  have key : ∀ (W : World) (a : Addr) (y : Value), a.block < B → W.ownsRow B e s v n xs → (W.setCell a y).ownsRow B e s v n xs := fun W a y ha hW => (chg_set W a y).row hW (fun x hx e => own_neG hW ha (by rw [hx, e]))
  exact key _ _ _ hb (key _ _ _ (by show b + 1 < B; omega) (key _ _ _ (by show b < B; omega) (key _ _ _ (by show b < B; omega) (key _ _ _ (by show b < B; omega) h))))
theorem bel_put5 {w u : World} {b : Nat} (h : Below b u w) (y0 y1 y2 y3 y4 : Value) : Below b u (((((w.setCell ⟨b, 0, none⟩ y0).setCell ⟨b, 1, none⟩ y1).setCell ⟨b, 2, none⟩ y2).setCell ⟨b + 1, 0, none⟩ y3).setCell ⟨b + 2, 0, none⟩ y4) :=
  ((((h.setCell (p := ⟨b, 0, none⟩) (Nat.le_refl _) _).setCell (p := ⟨b, 1, none⟩) (Nat.le_refl _) _).setCell (p := ⟨b, 2, none⟩) (Nat.le_refl _) _).setCell (p := ⟨b + 1, 0, none⟩) (by show b ≤ b + 1; omega) _).setCell (p := ⟨b + 2, 0, none⟩) (by show b ≤ b + 2; omega) _
/-- The snapshot of one counter is told by Parse. -/
def PqR (w : World) (nm hp : List UInt8) (L : List La.Lb) (t : Int) (P r : Nat) (e : Ending) (w' : World) : Prop := ∃ g cap l', e = .returned (.tuple #[.agg #[.int .i64 (P : Int), .slice (some ⟨g, 0, none⟩) 1 cap, .int .u64 (r : Int)], .int .i64 0, .int .i64 0]) ∧ w'.ownsRow w.heap.size 39 11 (.slice (some ⟨g, 0, none⟩) 1 cap) 1 (flV [(cx nm hp L t, l', .slice none 0 0)]) ∧ Below w.heap.size w w'
set_option maxRecDepth 100000 in
set_option maxHeartbeats 4000000 in
theorem parse_one (T T1 T2 T3 T4 nm hp : List UInt8) (g cap P r : Nat) (L : List La.Lb) (t : Int) (c2 : UInt8) (w : World) (hm : Mx w) (ht : Wi.Tab w) (a : HdL T gnoT P T1) (hP1 : 1 ≤ P) (hP2 : P ≤ 14) (b : HdL T1 refT r (c2 :: T2)) (hT : (c2 :: T2).length ≤ 4194304)
    (k1 : (cut10 (c2 :: T2)).2.2 = true) (k2 : heR (cut10 (c2 :: T2)).1 = some (nm, hp)) (k3 : (cut10 (c2 :: T2)).2.1 = T3) (hN : nm.length ≤ 4194304)
    (k4 : (cut10 T3).2.2 = true) (k5 : tyR nm (cut10 T3).1 = 1) (k6 : (cut10 T3).2.1 = T4)
    (k7 : (cut10 T4).2.2 = true) (k8 : cntR nm (cut10 T4).1 = some (L, t)) (k9 : (cut10 T4).2.1 = []) (hx : VW (cx nm hp L t)) (hz : lstE ⟨P, [cx nm hp L t], r⟩ = 0) (hcv : ∀ W, Below w.heap.size w W → (convert 30 9 (.slice (some ⟨g, 0, none⟩) T.length cap)).run Tryz.prog W = .ok (.string ⟨T.toArray⟩) W) :
    Calls Tryz.prog 5 #[.slice (some ⟨g, 0, none⟩) T.length cap] w fun e w' => PqR w nm hp L t P r e w' := by
  have hmf : ∀ (fn : Fn) (first cap : Array Value) (w : World), (Instr.makeFunc fn first cap).run Tryz.prog w = .ok (.func fn first cap) w := fun _ _ _ _ => rfl
  obtain ⟨W1, hW1⟩ : ∃ W1, W1 = ((w.alloc (.cells #[.int .i64 0, .slice none 0 0, .int .u64 0] 26)).alloc (.cells #[.int .i64 0] 27)).alloc (.cells #[.int .i64 0] 3) := ⟨_, rfl⟩
  have hR1 : Rs W1 w.heap.size (.int .i64 0) (.slice none 0 0) (.int .u64 0) (.int .i64 0) (.int .i64 0) := by rw [hW1]; exact rs_new w
  have hb1 : Below w.heap.size w W1 := by rw [hW1]; exact bt (bt (bel1 _ _) (bel1 _ _)) (bel1 _ _)
  have hcv1 := hcv W1 hb1
  obtain ⟨W2, hW2⟩ : ∃ W2, W2 = W1.alloc (.cells #[.string ⟨T.toArray⟩, .int .i64 0] 45) := ⟨_, rfl⟩
  have hb2 : Below W1.heap.size W1 W2 := by rw [hW2]; exact bel1 _ _
  have hN2 : W2.heap[W1.heap.size]? = some (.cells #[.string ⟨T.toArray⟩, .int .i64 0] 45) := by rw [hW2]; exact new_1 W1 _
  have hr2 : Rd W1 W1.heap.size W2 T 0 W2 := ⟨hN2, Chg.refl _ _, Nat.le_refl _, hb2⟩
  have hsz : W1.heap.size = w.heap.size + 3 := by rw [hW1]; simp
  have HS : La.HidC Tryz.prog 7 #[.pointer (some ⟨w.heap.size + 3, 0, none⟩)] W2 (fun e w' => SqR W1 nm hp L t P r e w') := by
    rw [← hsz]
    exact snapshot_one W1 W1.heap.size T T1 T2 T3 T4 nm hp 0 P r L t c2 W2 hr2 (hm.below hb1) (ht.below hb1) (by omega) a hP1 hP2 b hT k1 k2 k3 hN k4 k5 k6 k7 k8 k9 hx hz
  have hlen : (T.length : Int) ≤ 4194304 := by have := a.len; omega
  have HW1 := hid_of hW1
  have HW2 := hid_of hW2
  have HR1 := hid_of hR1
  have HB1 := hid_of hb1
  clear hcv hm ht a b hT k1 k2 k3 hN k4 k5 k6 k7 k8 k9 hx hz hW1 hW2 hR1 hb1 hb2 hN2 hr2
  go_enter_defers Tryz.func5, Tryz.ntmps5
  go_upto_region 1 with fail
  rw [← HW1.out]
  go_upto_region 5 with fail
  rw [← HW2.out]
  clear hcv1 HW1 HW2
  have HSz := hid_of hsz
  clear hsz
  go_wp2_with fail
  refine Calls.mono HS.out ?_
  rintro e w3 ⟨g3, c3, l3, rfl, ho3, hb3⟩
  have hR3 := HR1.out.below hb3
  obtain ⟨s0, s1, s2, f1⟩ := three_cells hR3.s
  have f0 : w3.frozen? ⟨w.heap.size, 0, none⟩ = false := by simp [World.frozen?, hR3.s]
  have f2 : w3.frozen? ⟨w.heap.size, 2, none⟩ = false := by simp [World.frozen?, hR3.s]
  have e0 : w3.cell? ⟨w.heap.size + 1, 0, none⟩ = some (.int .i64 0) := by simp [World.cell?, hR3.e]
  have fe : w3.frozen? ⟨w.heap.size + 1, 0, none⟩ = false := by simp [World.frozen?, hR3.e]
  have l0 : w3.cell? ⟨w.heap.size + 1 + 1, 0, none⟩ = some (.int .i64 0) := by simp [World.cell?, hR3.l]
  have fl0 : w3.frozen? ⟨w.heap.size + 1 + 1, 0, none⟩ = false := by simp [World.frozen?, hR3.l]
  have HQ : Hid (Rs (((((w3.setCell ⟨w.heap.size, 0, none⟩ (.int .i64 (P : Int))).setCell ⟨w.heap.size, 1, none⟩ (.slice (some ⟨g3, 0, none⟩) 1 c3)).setCell ⟨w.heap.size, 2, none⟩ (.int .u64 (r : Int))).setCell ⟨w.heap.size + 1, 0, none⟩ (.int .i64 0)).setCell ⟨w.heap.size + 2, 0, none⟩ (.int .i64 0)) w.heap.size (.int .i64 (P : Int)) (.slice (some ⟨g3, 0, none⟩) 1 c3) (.int .u64 (r : Int)) (.int .i64 0) (.int .i64 0) ∧ (((((w3.setCell ⟨w.heap.size, 0, none⟩ (.int .i64 (P : Int))).setCell ⟨w.heap.size, 1, none⟩ (.slice (some ⟨g3, 0, none⟩) 1 c3)).setCell ⟨w.heap.size, 2, none⟩ (.int .u64 (r : Int))).setCell ⟨w.heap.size + 1, 0, none⟩ (.int .i64 0)).setCell ⟨w.heap.size + 2, 0, none⟩ (.int .i64 0)).ownsRow w.heap.size 39 11 (.slice (some ⟨g3, 0, none⟩) 1 c3) 1 (flV [(cx nm hp L t, l3, .slice none 0 0)]) ∧ Below w.heap.size w (((((w3.setCell ⟨w.heap.size, 0, none⟩ (.int .i64 (P : Int))).setCell ⟨w.heap.size, 1, none⟩ (.slice (some ⟨g3, 0, none⟩) 1 c3)).setCell ⟨w.heap.size, 2, none⟩ (.int .u64 (r : Int))).setCell ⟨w.heap.size + 1, 0, none⟩ (.int .i64 0)).setCell ⟨w.heap.size + 2, 0, none⟩ (.int .i64 0))) := ⟨hR3.put _ _ _ _ _, own_monoG (own_put5 ho3 (by have := HSz.out; omega) _ _ _ _ _) (by have := HSz.out; omega), bel_put5 (HB1.out.trans (hb3.mono HB1.out.size)) _ _ _ _ _⟩
  clear HS hb3 ho3 hR3 HR1 HB1 HSz
  go_wp2_with fail
  change bodyPostD _ _ _ _ _ (((((w3.setCell ⟨w.heap.size, 0, none⟩ (.int .i64 (P : Int))).setCell ⟨w.heap.size, 1, none⟩ (.slice (some ⟨g3, 0, none⟩) 1 c3)).setCell ⟨w.heap.size, 2, none⟩ (.int .u64 (r : Int))).setCell ⟨w.heap.size + 1, 0, none⟩ (.int .i64 0)).setCell ⟨w.heap.size + 2, 0, none⟩ (.int .i64 0))
  obtain ⟨q1, q2, q3⟩ := HQ.out
  clear HQ s0 s1 s2 f0 f1 f2 e0 fe l0 fl0
  generalize (((((w3.setCell ⟨w.heap.size, 0, none⟩ (.int .i64 (P : Int))).setCell ⟨w.heap.size, 1, none⟩ (.slice (some ⟨g3, 0, none⟩) 1 c3)).setCell ⟨w.heap.size, 2, none⟩ (.int .u64 (r : Int))).setCell ⟨w.heap.size + 1, 0, none⟩ (.int .i64 0)).setCell ⟨w.heap.size + 2, 0, none⟩ (.int .i64 0)) = W5 at *
  refine leaves_cons (f := 6) (args := cap3 w.heap.size) (by simp) (by simp [go_sem]) ?_
  refine (catch_idle w.heap.size W5).mono ?_
  rintro e u' w4 ⟨rfl, rfl, hb4⟩
  have hR4 := q1.below hb4
  obtain ⟨s0, s1, s2, -⟩ := three_cells hR4.s
  have e0 : w4.cell? ⟨w.heap.size + 1, 0, none⟩ = some (.int .i64 0) := by simp [World.cell?, hR4.e]
  have l0 : w4.cell? ⟨w.heap.size + 1 + 1, 0, none⟩ = some (.int .i64 0) := by simp [World.cell?, hR4.l]
  have hQ : PqR w nm hp L t P r (.returned (.tuple #[.agg #[.int .i64 (P : Int), .slice (some ⟨g3, 0, none⟩) 1 c3, .int .u64 (r : Int)], .int .i64 0, .int .i64 0])) w4 := ⟨g3, c3, l3, rfl, own_belG q2 hb4, q3.trans (hb4.mono q3.size)⟩
  show ∃ v, (results Tryz.f5 _).run Tryz.prog w4 = .ok v w4 ∧ _
  refine ⟨.tuple #[.agg #[.int .i64 (P : Int), .slice (some ⟨g3, 0, none⟩) 1 c3, .int .u64 (r : Int)], .int .i64 0, .int .i64 0], ?_, hQ⟩
  clear hQ hR4 hb4 q1 q2 q3
  simp [results, Tryz.results5, go_sem, s0, s1, s2, e0, l0]
end Go.Proofs.YtliehacfoiigpaaGreatDoor
