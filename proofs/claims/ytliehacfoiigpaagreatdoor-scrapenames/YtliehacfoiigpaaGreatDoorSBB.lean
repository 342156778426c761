/- THE TWO TEXTS that awake reads. Own work of the verifier. -/
import Derived.Test.YtliehacfoiigpaaGreatDoorSBA
import Derived.Lib.SlBytesConst
namespace Go.Proofs.YtliehacfoiigpaaGreatDoor
open Go.RowKit Me

abbrev tA4 : List UInt8 := [97, 32, 55, 10]
abbrev tA3 : List UInt8 := [35, 32, 84, 89, 80, 69, 32, 97, 32, 99, 111, 117, 110, 116, 101, 114, 10] ++ tA4
abbrev tA2 : List UInt8 := [32, 72, 69, 76, 80, 32, 97, 32, 10] ++ tA3
abbrev tA1 : List UInt8 := [35, 32, 114, 101, 102, 117, 115, 101, 100, 32, 53, 10, 35] ++ tA2
abbrev tA0 : List UInt8 := [35, 32, 103, 110, 111, 109, 111, 110, 32, 49, 10] ++ tA1
abbrev tB0 : List UInt8 := [35, 32, 103, 110, 111, 109, 111, 110, 32, 51, 10]
theorem cutA0 : cut10 tA0 = ([35, 32, 103, 110, 111, 109, 111, 110, 32, 49], tA1, true) := by decide
theorem cutA1 : cut10 tA1 = ([35, 32, 114, 101, 102, 117, 115, 101, 100, 32, 53], 35 :: tA2, true) := by decide
theorem cutA2 : cut10 (35 :: tA2) = ([35, 32, 72, 69, 76, 80, 32, 97, 32], tA3, true) := by decide
theorem cutA3 : cut10 tA3 = ([35, 32, 84, 89, 80, 69, 32, 97, 32, 99, 111, 117, 110, 116, 101, 114], tA4, true) := by decide
theorem cutA4 : cut10 tA4 = ([97, 32, 55], [], true) := by decide
theorem cutB0 : cut10 tB0 = ([35, 32, 103, 110, 111, 109, 111, 110, 32, 51], [], true) := by decide
theorem who1 : whoR [49] = some 1 := by kernel_rfl
theorem who5 : whoR [53] = some 5 := by kernel_rfl
theorem who3 : whoR [51] = some 3 := by kernel_rfl
theorem heA : heR [35, 32, 72, 69, 76, 80, 32, 97, 32] = some ([97], []) := by kernel_rfl
theorem tyA : tyR [97] [35, 32, 84, 89, 80, 69, 32, 97, 32, 99, 111, 117, 110, 116, 101, 114] = 1 := by kernel_rfl
theorem cnA : cntR [97] [97, 32, 55] = some ([], 7) := by kernel_rfl
end Go.Proofs.YtliehacfoiigpaaGreatDoor
/- awake; ScrapeNames' walk. Own work of the verifier. -/
namespace Go.Proofs.YtliehacfoiigpaaGreatDoor
open Go.RowKit Me

theorem lstA : lstE ⟨((1 : Nat) : Int), [cx [97] [] [] 7], 5⟩ = 0 := by
  have h1 : La.chkD (cx [97] [] [] 7).d = 0 := by
    have e1 : La.nameB [97] = true := by decide
    have e2 : La.txE [] = 0 := by unfold La.txE; rw [La.utfB]; rfl
    unfold La.chkD
    simp [e1, e2, La.chkL]
  have h2 : holdB 1 (cx [97] [] [] 7) = true := by
    unfold holdB
    rw [if_pos (by decide)]
    decide
  unfold lstE chkS
  rw [if_neg (by decide), if_neg (by decide)]
  show (chkV 1 none [cx [97] [] [] 7] 0).1 = 0
  simp only [chkV, chk1, h1, h2]
  simp
theorem vwA : VW (cx [97] [] [] 7) := ⟨⟨by decide, by decide⟩, (fun c hc => by cases hc), by decide, by decide, by decide, by decide, by decide, ⟨by decide, by decide, fun a ha => by cases ha⟩⟩
theorem conv_row {W : World} {g cap : Nat} {fr : Nat × Nat} (l : List UInt8) (h : W.heap[g]? = some (.cells (Lib.byteCells l).toArray 5 fr)) : (convert 30 9 (.slice (some ⟨g, 0, none⟩) l.length cap)).run Tryz.prog W = .ok (.string ⟨l.toArray⟩) W :=
  run_convert_bytes_back W 30 9 5 ⟨g, 0, none⟩ cap l Tryz.underlying30 Tryz.underlying5 Tryz.underlying9 (fun j hj => by simp [World.cell?, h, Lib.byteCells, hj, Addr.add_lit])
theorem hdA0 : HdL tA0 gnoT 1 tA1 := ⟨by rw [cutA0], by rw [cutA0]; decide, by rw [cutA0]; exact who1, by rw [cutA0], by decide⟩
theorem hdA1 : HdL tA1 refT 5 (35 :: tA2) := ⟨by rw [cutA1], by rw [cutA1]; decide, by rw [cutA1]; exact who5, by rw [cutA1], by decide⟩
theorem hdB0 : HdL tB0 gnoT 3 [] := ⟨by rw [cutB0], by rw [cutB0]; decide, by rw [cutB0]; exact who3, by rw [cutB0], by decide⟩
theorem parseA (w : World) (g : Nat) (fr : Nat × Nat) (hm : Mx w) (ht : Wi.Tab w) (h : w.heap[g]? = some (.cells (Lib.byteCells tA0).toArray 5 fr)) : Calls Tryz.prog 5 #[.slice (some ⟨g, 0, none⟩) 54 54] w fun e w' => PqR w [97] [] [] 7 1 5 e w' :=
  parse_one tA0 tA1 tA2 tA3 tA4 [97] [] g 54 1 5 [] 7 35 w hm ht hdA0 (by decide) (by decide) hdA1 (by decide) (by rw [cutA2]) (by rw [cutA2]; exact heA) (by rw [cutA2]) (by decide) (by rw [cutA3]) (by rw [cutA3]; exact tyA) (by rw [cutA3]) (by rw [cutA4]) (by rw [cutA4]; exact cnA) (by rw [cutA4]) vwA lstA (fun W hb => conv_row tA0 (hkN' h hb))
theorem parseB (w : World) (g : Nat) (fr : Nat × Nat) (hm : Mx w) (ht : Wi.Tab w) (h : w.heap[g]? = some (.cells (Lib.byteCells tB0).toArray 5 fr)) : Calls Tryz.prog 5 #[.slice (some ⟨g, 0, none⟩) 11 11] w fun e w' => e = .returned (.tuple #[.agg #[.int .i64 0, .slice none 0 0, .int .u64 0], .int .i64 5, .int .i64 2]) ∧ Below w.heap.size w w' :=
  parse_cut tB0 g 11 3 w hm ht hdB0 (by decide) (by decide) (fun W hb => conv_row tB0 (hkN' h hb))
end Go.Proofs.YtliehacfoiigpaaGreatDoor
/- awake; ScrapeNames' walk. Own work of the verifier. -/
namespace Go.Proofs.YtliehacfoiigpaaGreatDoor
open Go.RowKit Me

abbrev byA : Array Value := #[.int .u8 35, .int .u8 32, .int .u8 103, .int .u8 110, .int .u8 111, .int .u8 109, .int .u8 111, .int .u8 110, .int .u8 32, .int .u8 49, .int .u8 10, .int .u8 35, .int .u8 32, .int .u8 114, .int .u8 101, .int .u8 102, .int .u8 117, .int .u8 115, .int .u8 101, .int .u8 100, .int .u8 32, .int .u8 53, .int .u8 10, .int .u8 35, .int .u8 32, .int .u8 72, .int .u8 69, .int .u8 76, .int .u8 80, .int .u8 32, .int .u8 97, .int .u8 32, .int .u8 10, .int .u8 35, .int .u8 32, .int .u8 84, .int .u8 89, .int .u8 80, .int .u8 69, .int .u8 32, .int .u8 97, .int .u8 32, .int .u8 99, .int .u8 111, .int .u8 117, .int .u8 110, .int .u8 116, .int .u8 101, .int .u8 114, .int .u8 10, .int .u8 97, .int .u8 32, .int .u8 55, .int .u8 10]
abbrev byB : Array Value := #[.int .u8 35, .int .u8 32, .int .u8 103, .int .u8 110, .int .u8 111, .int .u8 109, .int .u8 111, .int .u8 110, .int .u8 32, .int .u8 51, .int .u8 10]
theorem byA_eq : byA = (Lib.byteCells tA0).toArray := by rfl
theorem byB_eq : byB = (Lib.byteCells tB0).toArray := by rfl
set_option maxRecDepth 100000 in
set_option maxHeartbeats 2000000 in
theorem awake_any (w : World) (hm : Mx w) (ht : Wi.Tab w) : Calls Tryz.prog 4 #[] w fun e w' => e = .returned (.bool true) ∧ Below w.heap.size w w' := by
  obtain ⟨W1, hW1⟩ : ∃ W1, W1 = w.alloc (.cells byA 5 (54, 55)) := ⟨_, rfl⟩
  have hb1 : Below w.heap.size w W1 := by rw [hW1]; exact bel1 _ _
  have hN1 : W1.heap[w.heap.size]? = some (.cells (Lib.byteCells tA0).toArray 5 (54, 55)) := by rw [hW1, byA_eq]; exact new_1 w _
  have HA : La.HidC _ _ _ _ _ := parseA W1 w.heap.size (54, 55) (hm.below hb1) (ht.below hb1) hN1
  have HBp : Hid (∀ W g, Below w.heap.size w W → W.heap[g]? = some (Obj.cells (Lib.byteCells tB0).toArray 5 (11, 12)) → Calls _ _ _ _ _) := fun W g hb hg => parseB W g (11, 12) (hm.below hb) (ht.below hb) hg
  have HW1 := hid_of hW1
  have HB1 := hid_of hb1
  have kc := fun (w : World) (C : Array Value) (n c : Nat) => Lib.run_convert_bytes_const (P := Tryz.prog) w 30 5 C n c Tryz.underlying30 Tryz.underlying5
  clear hm ht hW1 hb1 hN1
  go_enter Tryz.func4, Tryz.ntmps4
  go_wp2_with fail
  rw [← HW1.out]
  refine (HA.out).mono ?_
  rintro e w2 ⟨g, cap, l', rfl, ho, hb2⟩
  obtain ⟨W3, hW3⟩ : ∃ W3, W3 = w2.alloc (.cells #[.int .i64 ((1 : Nat) : Int), .slice (some ⟨g, 0, none⟩) 1 cap, .int .u64 ((5 : Nat) : Int)] 26) := ⟨_, rfl⟩
  have hb3 : Below w2.heap.size w2 W3 := by rw [hW3]; exact bel1 _ _
  have hN3 : W3.heap[w2.heap.size]? = some (.cells #[.int .i64 1, .slice (some ⟨g, 0, none⟩) 1 cap, .int .u64 5] 26) := by rw [hW3]; exact new_1 w2 _
  have ho3 := own_belG ho hb3
  have hbw3 := bt (bt HB1.out hb2) hb3
  have HW3 := hid_of hW3
  have HN3 := hid_of hN3
  have HO3 := hid_of ho3
  have HB3 := hid_of hbw3
  clear HA HW1 HB1 ho hb2 hb3 hN3 ho3 hbw3 hW3
  go_upto_region 2 with fail
  rw [show w2.alloc (.cells #[.int .i64 1, .slice (some ⟨g, 0, none⟩) 1 cap, .int .u64 5] 26) = W3 from HW3.out.symm]
  clear HW3
  obtain ⟨W4, hW4⟩ : ∃ W4, W4 = W3.alloc (.cells byB 5 (11, 12)) := ⟨_, rfl⟩
  have hb4 : Below W3.heap.size W3 W4 := by rw [hW4]; exact bel1 _ _
  have hN4 : W4.heap[W3.heap.size]? = some (.cells (Lib.byteCells tB0).toArray 5 (11, 12)) := by rw [hW4, byB_eq]; exact new_1 W3 _
  have D4 : La.HidC _ _ _ _ _ := HBp.out W4 W3.heap.size (bt HB3.out hb4) hN4
  have HW4 := hid_of hW4
  have HB4 := hid_of hb4
  clear HBp hW4 hb4 hN4
  go_wp2_with fail
  rw [← HW4.out]
  refine (D4.out).mono ?_
  rintro e w5 ⟨rfl, hb5⟩
  have hb5' := bt HB4.out hb5
  obtain ⟨W6, hW6⟩ : ∃ W6, W6 = w5.alloc (.cells #[.int .i64 0, .slice none 0 0, .int .u64 0] 26) := ⟨_, rfl⟩
  have hb6 : Below W3.heap.size W3 W6 := bt hb5' (by rw [hW6]; exact bel1 _ _)
  obtain ⟨s0, s1, s2, -⟩ := three_cells (hkN' HN3.out hb6)
  have r5 : W6.cell? ⟨g, 5, none⟩ = some (.int .u64 7) := (own_row (own_belG HO3.out hb6) rfl 0 (by simp)).c5
  have HB6 := hid_of (bt HB3.out hb6)
  have HW6 := hid_of hW6
  clear D4 HW4 HB4 HN3 HO3 HB3 hb5 hb5' hb6 hW6
  go_upto_region 3 with fail
  rw [← HW6.out]
  clear HW6
  go_wp2_with fail
  go_ret
  exact ⟨rfl, HB6.out⟩
set_option maxHeartbeats 400000 in
theorem snames_walk (w : World) (hm : Mx w) (ht : Wi.Tab w) : Calls Tryz.prog 3 #[] w fun e w' => e = .returned (.bool true) ∧ Below w.heap.size w w' := by
  have H : La.HidC _ _ _ _ _ := awake_any w hm ht
  clear hm ht
  go_enter Tryz.func3, Tryz.ntmps3
  go_wp2_with fail
  refine Calls.mono H.out ?_
  rintro e w1 ⟨rfl, hb⟩
  have HB := hid_of hb
  clear H hb
  go_wp2_with fail
  go_ret
  exact ⟨rfl, HB.out⟩
end Go.Proofs.YtliehacfoiigpaaGreatDoor
