/- THE READER: a whole snapshot of one counter, and one that is cut off. Own work of the verifier. -/
import Derived.Test.YtliehacfoiigpaaGreatDoorSAX
import Derived.LoopN
namespace Go.Proofs.YtliehacfoiigpaaGreatDoor
open Go.RowKit Me

theorem own_monoG {W : World} {B b : Nat} {e : TypeId} {s n : Nat} {v : Value} {xs : List Value} (h : W.ownsRow B e s v n xs) (hb : b ≤ B) : W.ownsRow b e s v n xs := by
  refine ⟨h.1, ?_⟩
  rcases h.2 with k | ⟨g, cap, cur, k1, k2, k3⟩
  · exact Or.inl k
  · exact Or.inr ⟨g, cap, cur, k1, by omega, k3⟩
/-- A head line: what it begins with, and a number. -/
structure HdL (T G : List UInt8) (k : Nat) (T1 : List UInt8) : Prop where
  ended : (cut10 T).2.2 = true
  pre : Lib.hasPrefix (cut10 T).1 G = true
  num : whoR (Lib.trimPrefix (cut10 T).1 G) = some k
  rest : (cut10 T).2.1 = T1
  len : T.length ≤ 4194304
theorem HdL.next {T G : List UInt8} {k : Nat} {T1 : List UInt8} (h : HdL T G k T1) {u : World} {rb n : Nat} {W : World} (hr : Rd u rb W T n W) (hm : Mx u) (hn : n ≤ 1152921504606846976) : Calls Tryz.prog 10 #[.pointer (some ⟨rb, 0, none⟩)] W fun e w' => e = .returned (.string ⟨(cut10 T).1.toArray⟩) ∧ Rd u rb W T1 (n + 1) w' := by
  refine Calls.mono (next_any u rb T n W W hr hm h.len (by omega)) ?_
  rintro e w' (⟨-, q2, q3⟩ | ⟨q1, -⟩)
  · rw [h.rest] at q3; exact ⟨q2, q3⟩
  · rw [h.ended] at q1; cases q1
theorem HdL.behind {T G : List UInt8} {k : Nat} {T1 : List UInt8} (h : HdL T G k T1) {u : World} {rb n : Nat} {S : List UInt8} {w0 W : World} (hr : Rd u rb w0 S n W) : Calls Tryz.prog 9 #[.pointer (some ⟨rb, 0, none⟩), .string ⟨(cut10 T).1.toArray⟩, .string ⟨G.toArray⟩] W fun e w' => e = .returned (.string ⟨(Lib.trimPrefix (cut10 T).1 G).toArray⟩) ∧ w' = W := by
  refine Calls.mono (behind_any u rb S _ G n w0 W hr) ?_
  rintro e w' ⟨rfl, ⟨-, q⟩ | ⟨q, -⟩⟩
  · exact ⟨q, rfl⟩
  · rw [h.pre] at q; cases q
theorem HdL.whole {T G : List UInt8} {k : Nat} {T1 : List UInt8} (h : HdL T G k T1) {u : World} {rb n : Nat} {S : List UInt8} {w0 W : World} (hr : Rd u rb w0 S n W) (ht : Wi.Tab u) : Calls Tryz.prog 8 #[.pointer (some ⟨rb, 0, none⟩), .string ⟨(Lib.trimPrefix (cut10 T).1 G).toArray⟩] W fun e w' => e = .returned (.int .u64 (k : Int)) ∧ Below W.heap.size W w' ∧ k < 18446744073709551616 := by
  refine Calls.mono (whole_any u rb S _ n w0 W hr ht) ?_
  rintro e w' ⟨hb, ⟨k', q1, q2, q3⟩ | ⟨q, -⟩⟩
  · rw [h.num] at q1; cases q1; exact ⟨q3, hb, q2⟩
  · rw [h.num] at q; cases q
abbrev gnoT : List UInt8 := [35, 32, 103, 110, 111, 109, 111, 110, 32]
abbrev refT : List UInt8 := [35, 32, 114, 101, 102, 117, 115, 101, 100, 32]
set_option maxRecDepth 100000 in
set_option maxHeartbeats 4000000 in
theorem snapshot_cut (u : World) (rb : Nat) (T : List UInt8) (n P : Nat) (w : World) (h : Rd u rb w T n w) (hm : Mx u) (ht : Wi.Tab u) (hn : n ≤ 1152921504606846976) (a : HdL T gnoT P []) (hP1 : 1 ≤ P) (hP2 : P ≤ 14) :
    Calls Tryz.prog 7 #[.pointer (some ⟨rb, 0, none⟩)] w fun e w' => e = gaveUp 5 (n + 2) ∧ Below u.heap.size u w' := by
  obtain ⟨W0, hW0⟩ : ∃ W0, W0 = w.alloc (.cells #[.int .i64 0, .slice none 0 0, .int .u64 0] 26) := ⟨_, rfl⟩
  have hb0 : Below w.heap.size w W0 := by rw [hW0]; exact bel1 _ _
  have h0 := (h.below hb0).re
  have HN : La.HidC _ _ _ _ _ := a.next h0 hm hn
  have HBh : Hid (∀ W, Rd u rb W0 [] (n + 1) W → Calls _ _ _ _ _) := fun W k => a.behind k
  have HWh : Hid (∀ W, Rd u rb W0 [] (n + 1) W → Calls _ _ _ _ _) := fun W k => a.whole k ht
  have HYes : Hid (∀ W, Calls Tryz.prog 11 #[.pointer (some ⟨rb, 0, none⟩), .bool true] W fun e w' => e = .returned (.tuple #[]) ∧ w' = W) := fun W => must_yes rb W
  have HN2 : Hid (∀ W, Rd u rb W0 [] (n + 1) W → Calls Tryz.prog 10 #[.pointer (some ⟨rb, 0, none⟩)] W fun e w' => e = gaveUp 5 (n + 2) ∧ Below u.heap.size u w') := fun W k => by
    refine Calls.mono (next_any u rb [] (n + 1) W W k.re hm (by simp) (by omega)) ?_
    rintro e w' (⟨q1, -⟩ | ⟨-, q2, q3⟩)
    · exact absurd q1 (by decide)
    · exact ⟨q2, q3.st⟩
  have HW0 := hid_of hW0
  clear h hm ht hn a hW0 hb0 h0
  generalize (cut10 T).1 = A at *
  generalize hS : Lib.trimPrefix A gnoT = S at *
  clear hS
  go_enter Tryz.func7, Tryz.ntmps7
  go_upto_region 1 with fail
  rw [← HW0.out]
  clear HW0
  go_wp2_with fail
  refine Calls.mono HN.out ?_
  rintro e w1 ⟨rfl, hr1⟩
  have D1 : La.HidC _ _ _ _ _ := HBh.out _ hr1
  have D2 : La.HidC _ _ _ _ _ := HWh.out _ hr1
  have HR1 := hid_of hr1
  clear HN HBh HWh hr1
  go_wp2_with fail
  refine Calls.mono D1.out ?_
  rintro e w2 ⟨rfl, rfl⟩
  go_wp2_with fail
  refine Calls.mono D2.out ?_
  rintro e w3 ⟨rfl, hb3, hk⟩
  have D3 : La.HidC _ _ _ _ _ := HN2.out _ (HR1.out.below hb3)
  clear HN2 HR1 hb3 D1 D2
  go_wp2_with fail
  rw [show decide ((P : Int) ≤ 14) = true from decide_eq_true (by omega)]
  refine Calls.mono (HYes.out _) ?_
  rintro e w4 ⟨rfl, rfl⟩
  clear HYes
  go_wp2_with fail
  refine Calls.mono D3.out ?_
  rintro e w5 ⟨rfl, hb5⟩
  have HB5 := hid_of hb5
  clear hb5 D3
  go_wp2_with fail
  exact ⟨rfl, rfl, HB5.out⟩
/-- A snapshot of one counter is told. -/
def SqR (u : World) (nm hp : List UInt8) (L : List La.Lb) (t : Int) (P r : Nat) (e : Ending) (w' : World) : Prop := ∃ g cap l', e = .returned (.agg #[.int .i64 (P : Int), .slice (some ⟨g, 0, none⟩) 1 cap, .int .u64 (r : Int)]) ∧ w'.ownsRow u.heap.size 39 11 (.slice (some ⟨g, 0, none⟩) 1 cap) 1 (flV [(cx nm hp L t, l', .slice none 0 0)]) ∧ Below u.heap.size u w'
set_option maxRecDepth 100000 in
set_option maxHeartbeats 4000000 in
theorem snapshot_one (u : World) (rb : Nat) (T T1 T2 T3 T4 nm hp : List UInt8) (n P r : Nat) (L : List La.Lb) (t : Int) (c2 : UInt8) (w : World) (h : Rd u rb w T n w) (hm : Mx u) (ht : Wi.Tab u) (hn : n ≤ 576460752303423488) (a : HdL T gnoT P T1) (hP1 : 1 ≤ P) (hP2 : P ≤ 14) (b : HdL T1 refT r (c2 :: T2)) (hT : (c2 :: T2).length ≤ 4194304)
    (k1 : (cut10 (c2 :: T2)).2.2 = true) (k2 : heR (cut10 (c2 :: T2)).1 = some (nm, hp)) (k3 : (cut10 (c2 :: T2)).2.1 = T3) (hN : nm.length ≤ 4194304)
    (k4 : (cut10 T3).2.2 = true) (k5 : tyR nm (cut10 T3).1 = 1) (k6 : (cut10 T3).2.1 = T4)
    (k7 : (cut10 T4).2.2 = true) (k8 : cntR nm (cut10 T4).1 = some (L, t)) (k9 : (cut10 T4).2.1 = []) (hx : VW (cx nm hp L t)) (hz : lstE ⟨P, [cx nm hp L t], r⟩ = 0) :
    Calls Tryz.prog 7 #[.pointer (some ⟨rb, 0, none⟩)] w fun e w' => SqR u nm hp L t P r e w' := by
  obtain ⟨W0, hW0⟩ : ∃ W0, W0 = w.alloc (.cells #[.int .i64 0, .slice none 0 0, .int .u64 0] 26) := ⟨_, rfl⟩
  have hb0 : Below w.heap.size w W0 := by rw [hW0]; exact bel1 _ _
  have hN0 : W0.heap[w.heap.size]? = some (.cells #[.int .i64 0, .slice none 0 0, .int .u64 0] 26) := by rw [hW0]; exact new_1 w _
  have h0 := (h.below hb0).re
  have hlt : rb < w.heap.size := h.lt
  have hus : u.heap.size ≤ w.heap.size := h.st.size
  have HN : La.HidC _ _ _ _ _ := a.next h0 hm (by omega)
  have HBh : Hid (∀ W, Rd u rb W0 T1 (n + 1) W → Calls _ _ _ _ _) := fun W k => a.behind k
  have HWh : Hid (∀ W, Rd u rb W0 T1 (n + 1) W → Calls _ _ _ _ _) := fun W k => a.whole k ht
  have HYes : Hid (∀ W, Calls Tryz.prog 11 #[.pointer (some ⟨rb, 0, none⟩), .bool true] W fun e w' => e = .returned (.tuple #[]) ∧ w' = W) := fun W => must_yes rb W
  have HN2 : Hid (∀ W, Rd u rb W T1 (n + 1) W → Calls _ _ _ _ _) := fun W k => b.next k hm (by omega)
  have HBh2 : Hid (∀ w0 W, Rd u rb w0 (c2 :: T2) (n + 2) W → Calls _ _ _ _ _) := fun w0 W k => b.behind k
  have HWh2 : Hid (∀ w0 W, Rd u rb w0 (c2 :: T2) (n + 2) W → Calls _ _ _ _ _) := fun w0 W k => b.whole k ht
  have HFa : Hid (∀ sb B W, Ss u rb sb B P r (.slice none 0 0) [] (c2 :: T2) (n + 2) W → Calls _ _ _ _ _) := fun sb B W k => family_one u rb sb B P r (c2 :: T2) T3 T4 nm hp (n + 2) L t W k hm ht hT (by omega) k1 k2 k3 hN k4 k5 k6 k7 k8 k9 hx hz
  have HW0 := hid_of hW0
  have HN0 := hid_of hN0
  have H0 := hid_of h0
  clear h hm ht hn a b hW0 hb0 h0 hN0 hT k1 k2 k3 hN k4 k5 k6 k7 k8 k9 hx hz
  generalize (cut10 T).1 = A at *
  generalize hS : Lib.trimPrefix A gnoT = S at *
  generalize (cut10 T1).1 = A2 at *
  generalize hS2 : Lib.trimPrefix A2 refT = S2 at *
  clear hS hS2
  go_enter Tryz.func7, Tryz.ntmps7
  go_upto_region 1 with fail
  rw [← HW0.out]
  clear HW0
  go_wp2_with fail
  refine Calls.mono HN.out ?_
  rintro e w1 ⟨rfl, hr1⟩
  have D1 : La.HidC _ _ _ _ _ := HBh.out _ hr1
  have D2 : La.HidC _ _ _ _ _ := HWh.out _ hr1
  have HR1 := hid_of hr1
  clear HN HBh HWh hr1
  go_wp2_with fail
  refine Calls.mono D1.out ?_
  rintro e w2 ⟨rfl, rfl⟩
  go_wp2_with fail
  refine Calls.mono D2.out ?_
  rintro e w3 ⟨rfl, hb3, hk⟩
  have hr3 := HR1.out.below hb3
  have D3 : La.HidC _ _ _ _ _ := HN2.out _ hr3.re
  have HR3 := hid_of hr3
  clear HN2 HR1 hb3 hr3 D1 D2
  go_wp2_with fail
  rw [show decide ((P : Int) ≤ 14) = true from decide_eq_true (by omega)]
  refine Calls.mono (HYes.out _) ?_
  rintro e w4 ⟨rfl, rfl⟩
  clear HYes
  go_wp2_with fail
  refine Calls.mono D3.out ?_
  rintro e w5 ⟨rfl, hr5⟩
  have hr5 := HR3.out.then hr5
  have D4 : La.HidC _ _ _ _ _ := HBh2.out _ _ hr5
  have D5 : La.HidC _ _ _ _ _ := HWh2.out _ _ hr5
  have HR5 := hid_of hr5
  clear HBh2 HWh2 hr5 D3 HR3
  go_wp2_with fail
  refine Calls.mono D4.out ?_
  rintro e w6 ⟨rfl, rfl⟩
  go_wp2_with fail
  refine Calls.mono D5.out ?_
  rintro e w7 ⟨rfl, hb7, hr64⟩
  have HR7 := hid_of (HR5.out.below hb7)
  clear HR5 hb7 D4 D5
  go_wp2_with fail
  obtain ⟨W8, hW8⟩ : ∃ W8, W8 = w7.alloc (.cells #[.int .i64 (P : Int), .slice none 0 0, .int .u64 (r : Int)] 26) := ⟨_, rfl⟩
  have hb8 : Below w7.heap.size w7 W8 := by rw [hW8]; exact bel1 _ _
  have hN8 : W8.heap[w7.heap.size]? = some (.cells #[.int .i64 (P : Int), .slice none 0 0, .int .u64 (r : Int)] 26) := by rw [hW8]; exact new_1 w7 _
  have hr8 := HR7.out.below hb8
  have hs8 : W8.heap.size = w7.heap.size + 1 := by rw [hW8]; simp
  have hw7 : w.heap.size < w7.heap.size := by have := HR7.out.ch.size; have := (Array.getElem?_eq_some_iff.1 HN0.out).1; omega
  have hS8 : Ss u rb w7.heap.size (w7.heap.size + 1) P r (.slice none 0 0) [] (c2 :: T2) (n + 2) W8 := ⟨hr8.re, hN8, World.ownsRow_nil _ _ _ _, (fun q hq => by cases hq), by omega, by omega, by omega, by omega, by omega, (fun q hq => by cases hq), hr64⟩
  have D8 : La.HidC _ _ _ _ _ := HFa.out _ _ _ hS8
  have HN9 := hid_of (hr8.ch.at_ HN0.out (show w.heap.size ≠ rb by omega))
  obtain ⟨c0, c1, -, -⟩ := hr8.cells
  rw [← hW8]
  have HW7 := hid_of hw7
  clear HFa hW8 hb8 hN8 hr8 hs8 hS8 HR7 hw7 HN0 H0
  refine wp_loop_rounds 2 (show Code.wp Tryz.prog _ _ _ _ from ?_)
  go_wp2_with fail
  refine Calls.mono D8.out ?_
  rintro e w9 ⟨rfl, v', l', h9, hC9⟩
  obtain ⟨ao, g, cap, hv, hao, -⟩ := own_slice h9.own
  obtain rfl := hao (by simp)
  have hv : v' = .slice (some ⟨g, 0, none⟩) 1 cap := hv
  subst hv
  clear c0 c1
  obtain ⟨c0, c1, -, -⟩ := h9.rd.cells
  have c0 : w9.cell? ⟨rb, 0, none⟩ = some (.string ⟨#[]⟩) := by simpa using c0
  obtain ⟨s0, s1, s2, -⟩ := three_cells h9.sn
  have hx9 := hC9.at_ HN9.out (by have := HW7.out; rintro (e | e) <;> omega)
  obtain ⟨x0, x1, x2, x3⟩ := three_cells hx9
  have f0 : w9.frozen? ⟨w.heap.size, 0, none⟩ = false := by simp [World.frozen?, hx9]
  have f2 : w9.frozen? ⟨w.heap.size, 2, none⟩ = false := by simp [World.frozen?, hx9]
  have HP : Hid ((((w9.setCell ⟨w.heap.size, 0, none⟩ (.int .i64 (P : Int))).setCell ⟨w.heap.size, 1, none⟩ (.slice (some ⟨g, 0, none⟩) 1 cap)).setCell ⟨w.heap.size, 2, none⟩ (.int .u64 (r : Int))).heap[w.heap.size]? = some (.cells #[.int .i64 (P : Int), .slice (some ⟨g, 0, none⟩) 1 cap, .int .u64 (r : Int)] 26)) := by
    have i1 := Lib.heap_setCell_same (i := 0) hx9 (.int .i64 (P : Int))
    have i2 := Lib.heap_setCell_same (i := 1) i1 (.slice (some ⟨g, 0, none⟩) 1 cap)
    have i3 := Lib.heap_setCell_same (i := 2) i2 (.int .u64 (r : Int))
    unfold Hid
    simpa using i3
  have HQ : Hid ((((w9.setCell ⟨w.heap.size, 0, none⟩ (.int .i64 (P : Int))).setCell ⟨w.heap.size, 1, none⟩ (.slice (some ⟨g, 0, none⟩) 1 cap)).setCell ⟨w.heap.size, 2, none⟩ (.int .u64 (r : Int))).ownsRow u.heap.size 39 11 (.slice (some ⟨g, 0, none⟩) 1 cap) 1 (flV [(cx nm hp L t, l', .slice none 0 0)]) ∧ Below u.heap.size u (((w9.setCell ⟨w.heap.size, 0, none⟩ (.int .i64 (P : Int))).setCell ⟨w.heap.size, 1, none⟩ (.slice (some ⟨g, 0, none⟩) 1 cap)).setCell ⟨w.heap.size, 2, none⟩ (.int .u64 (r : Int)))) := by
    have hb : w.heap.size < w7.heap.size + 1 := by have := HW7.out; omega
    have o0 := h9.own
    have o1 := (chg_set w9 ⟨w.heap.size, 0, none⟩ (.int .i64 (P : Int))).row o0 (fun x hx e => own_neG o0 hb (by rw [hx, e]))
    have o2 := (chg_set (w9.setCell ⟨w.heap.size, 0, none⟩ (.int .i64 (P : Int))) ⟨w.heap.size, 1, none⟩ (.slice (some ⟨g, 0, none⟩) 1 cap)).row o1 (fun x hx e => own_neG o1 hb (by rw [hx, e]))
    have o3 := (chg_set ((w9.setCell ⟨w.heap.size, 0, none⟩ (.int .i64 (P : Int))).setCell ⟨w.heap.size, 1, none⟩ (.slice (some ⟨g, 0, none⟩) 1 cap)) ⟨w.heap.size, 2, none⟩ (.int .u64 (r : Int))).row o2 (fun x hx e => own_neG o2 hb (by rw [hx, e]))
    exact ⟨own_monoG o3 (by omega), ((h9.rd.st.setCell (p := ⟨w.heap.size, 0, none⟩) hus _).setCell (p := ⟨w.heap.size, 1, none⟩) hus _).setCell (p := ⟨w.heap.size, 2, none⟩) hus _⟩
  clear D8 h9 hC9 HN9 HW7 hx9 c1
  go_wp2_with fail
  show Code.wp Tryz.prog _ _ _ _
  go_wp2_with fail
  refine bodyPost_ret (results_cell_row (P := Tryz.prog) rfl _ _ w.heap.size 26 _ (0, 0) _ rfl HP.out Tryz.underlying26 rfl (by kernel_rfl)) rfl ?_
  exact ⟨g, cap, l', rfl, HQ.out.1, HQ.out.2⟩
end Go.Proofs.YtliehacfoiigpaaGreatDoor
