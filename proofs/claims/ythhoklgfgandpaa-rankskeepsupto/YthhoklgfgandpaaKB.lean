/- THE WALK OF RanksKeeps. Own work of the verifier. -/
import Derived.Test.YthhoklgfgandpaaKA
namespace Go.Proofs.Ythhoklgfgandpaa
open Go.RowKit

set_option maxRecDepth 10000 in
set_option maxHeartbeats 8000000 in
theorem keeps_walk (v v' : Value) (A B : List Cn) (hlA : A.length ≤ 1048576) (hlB : B.length ≤ 1048576) (hW : Wc (A ++ B)) (w : World) (h : SN w v A) (h' : SN w v' B) :
    Calls Try.prog 7 #[v, v'] w fun e w' => e = .returned (.bool true) ∧ Below w.heap.size w w' := by
  obtain ⟨ao, b0, o0, cap0, hv, _⟩ := h.sc
  obtain ⟨ao', b0', o0', cap0', hv', _⟩ := h'.sc
  subst hv hv'
  obtain ⟨w1, hw1⟩ : ∃ w1, w.alloc (.cells #[.int .i64 (-7), .int .u64 7] 49) = w1 := ⟨_, rfl⟩
  have hb1 : Below w.heap.size w w1 := by rw [← hw1]; exact (Below.refl _ _).alloc (Nat.le_refl _) _
  have hh1 : w1.heap[w.heap.size]? = some (.cells #[.int .i64 (-7), .int .u64 7] 49 (0, 0)) := by rw [← hw1]; exact new_1 w _
  have hsz1 : w1.heap.size = w.heap.size + 1 := by rw [← hw1]; simp
  have c0 : w1.cell? ⟨w.heap.size, 0, none⟩ = some (.int .i64 (-7)) := by simp [World.cell?, hh1]
  have c1 : w1.cell? ⟨w.heap.size, 1, none⟩ = some (.int .u64 7) := by simp [World.cell?, hh1]
  have HSt1 : Hid (St w.heap.size w1 w1) := ⟨c0, c1, Below.refl _ _⟩
  have hp1 : w.heap.size < w1.heap.size := by omega
  have HSa : Hid (∀ W, St w.heap.size w1 W → SN W (.slice ao A.length cap0) A) := fun W hb => (h.below hb1).below hb.2.2
  have HSa1 : Hid (∀ W, Below w1.heap.size w1 W → SN W (.slice ao A.length cap0) A) := fun W hb => (h.below hb1).below hb
  have HSb : Hid (∀ W, Below w1.heap.size w1 W → SN W (.slice ao' B.length cap0') B) := fun W hb => (h'.below hb1).below hb
  have HB1 : Hid _ := hb1
  clear hh1 h h' hb1
  go_enter Try.func7, Try.ntmps7
  go_upto_region 2 with fail
  clear hw1 c0 c1 hsz1
  generalize hpp : w.heap.size = p at *
  have HP : Hid (w.heap.size = p) := hpp
  clear hpp
  go_cut [6] (fun s W => ∃ g cap, s = .slice (some ⟨g, 0, none⟩) (A.length + 2) cap ∧ W.ownsRow w1.heap.size 49 2 (.slice (some ⟨g, 0, none⟩) (A.length + 2) cap) (A.length + 2) (fl (A ++ [(-7, 7), (-7, 7)])) ∧ St p w1 W)
  case first =>
    as_aux_lemma =>
      go_region_held3 (fun W => W.cell? ⟨p, 0, none⟩ = some (.int .i64 (-7)) ∧ W.cell? ⟨p, 1, none⟩ = some (.int .u64 7) ∧ Below w1.heap.size w1 W)
        (first | assumption | exact St.drew HSt1.out hp1 | exact St.kept (by assumption) hp1 (by assumption) | exact St.keep (by assumption) hp1 (by assumption) | exact St.alloc (by assumption) hp1 _)
        (first
          | (refine step_copy (by rfl) _ _ (by rfl) (by rfl) (by rfl) (by first | assumption | exact St.drew HSt1.out hp1) HSa.out hlA ?_; intro v1 w2 hown1 hbc)
          | (refine step_two (by rfl) _ _ (by rfl) (by assumption) (by rfl) (hown1.alloc _) hlA _ (by rfl) (new_1 _ _) ?_; intro g cap w3 hown2 hst2 hb2)
          | (refine step_two (by rfl) _ _ (by rfl) (by assumption) (by rfl) hown1 hlA _ (by rfl) (new_atd hbc) ?_; intro g cap w3 hown2 hst2 hb2))
      all_goals
        go_wp2_with fail
        go_meet
        exact ⟨g, cap, rfl, hown2, hst2.keep hp1 hb2⟩
  case rest =>
  obtain ⟨gA, cA, rfl, ownA, stA⟩ := hcut
  obtain ⟨w2, hw2⟩ : ∃ w2, w2 = wc := ⟨_, rfl⟩
  subst hw2
  have hp2 : p < w2.heap.size := Nat.lt_of_lt_of_le hp1 stA.2.2.size
  have HSt2 : Hid (St p w2 w2) := ⟨stA.1, stA.2.1, Below.refl _ _⟩
  have HSb2 : Hid (∀ W, St p w2 W → SN W (.slice ao' B.length cap0') B) := fun W hb => HSb.out W (stA.2.2.trans (hb.2.2.mono stA.2.2.size))
  have HOA : Hid _ := ownA
  have HBA : Hid (Below w1.heap.size w1 w2) := stA.2.2
  clear ownA stA HSt1
  go_upto_region 3 with fail
  go_cut [7] (fun s W => ∃ g cap, s = .slice (some ⟨g, 0, none⟩) (B.length + 2) cap ∧ W.ownsRow w2.heap.size 49 2 (.slice (some ⟨g, 0, none⟩) (B.length + 2) cap) (B.length + 2) (fl (B ++ [(-7, 7), (-7, 7)])) ∧ St p w2 W)
  case first =>
    as_aux_lemma =>
      go_region_held3 (fun W => W.cell? ⟨p, 0, none⟩ = some (.int .i64 (-7)) ∧ W.cell? ⟨p, 1, none⟩ = some (.int .u64 7) ∧ Below w2.heap.size w2 W)
        (first | assumption | exact St.drew HSt2.out hp2 | exact St.kept (by assumption) hp2 (by assumption) | exact St.keep (by assumption) hp2 (by assumption) | exact St.alloc (by assumption) hp2 _)
        (first
          | (refine step_copy (by rfl) _ _ (by rfl) (by rfl) (by rfl) (by first | assumption | exact St.drew HSt2.out hp2) HSb2.out hlB ?_; intro v1 w2 hown1 hbc)
          | (refine step_two (by rfl) _ _ (by rfl) (by assumption) (by rfl) (hown1.alloc _) hlB _ (by rfl) (new_1 _ _) ?_; intro g cap w3 hown2 hst2 hb2)
          | (refine step_two (by rfl) _ _ (by rfl) (by assumption) (by rfl) hown1 hlB _ (by rfl) (new_atd hbc) ?_; intro g cap w3 hown2 hst2 hb2))
      all_goals
        go_wp2_with fail
        go_meet
        exact ⟨g, cap, rfl, hown2, hst2.keep hp2 hb2⟩
  case rest =>
  obtain ⟨gB, cB, rfl, ownB, stB⟩ := hcut
  obtain ⟨w3, hw3⟩ : ∃ w3, w3 = wc := ⟨_, rfl⟩
  subst hw3
  obtain ⟨rB, mB1, mB2, mB3, mB4, mB5⟩ := gc_marks ownB (by simp)
  obtain ⟨rA, mA1, mA2, mA3, mA4, mA5⟩ := gc_marks (own_keep HOA.out stB.2.2) (by simp)
  have HRA : Hid _ := rA
  have HRB : Hid _ := rB
  have HFA : Hid (∀ o, w3.frozen? ⟨gA, o, none⟩ = false) := mA5
  have HB3 : Hid (Below w1.heap.size w1 w3) := HBA.out.trans (stB.2.2.mono HBA.out.size)
  have HM : Hid (w3.cell? ⟨p, 0, none⟩ = some (.int .i64 (-7)) ∧ w3.cell? ⟨p, 1, none⟩ = some (.int .u64 7)) := ⟨stB.1, stB.2.1⟩
  have hgA : gA < w2.heap.size := (World.ownsRow.lt HOA.out gA rfl).2
  have hw23 : w2.heap.size ≤ w3.heap.size := stB.2.2.size
  have hw12 : w1.heap.size ≤ w2.heap.size := HBA.out.size
  have hSt3 : Below w3.heap.size w3 w3 := Below.refl _ _
  unfold maxLen at mA2 mB2
  have i1 : (0 : Int) ≤ (A.length : Int) := by omega
  have i2 : (A.length : Int) ≤ (cA : Int) := by omega
  have i3 : (0 : Int) ≤ (B.length : Int) := by omega
  have i4 : (B.length : Int) ≤ (cB : Int) := by omega
  clear ownB stB rA rB mA5 mB5 HSt2 HOA HBA HSb2
  go_upto_region 4 with fail
  go_cut [8, 9] (fun s t W => s = .slice (some ⟨gA, 0, none⟩) A.length cA ∧ t = .slice (some ⟨gB, 0, none⟩) B.length cB ∧ Below w3.heap.size w3 W)
  case first =>
    as_aux_lemma =>
      go_region_held3 (fun W => Below w3.heap.size w3 W) (first | assumption | exact Below.drew (by assumption)) (fail)
      all_goals
        go_wp2_with fail
        go_meet
        exact ⟨rfl, rfl, by assumption⟩
  case rest =>
  obtain ⟨rfl, rfl, hb4⟩ := hcut
  obtain ⟨w4, hw4⟩ : ∃ w4, w4 = wc := ⟨_, rfl⟩
  subst hw4
  have HX : Hid (∀ W, Below w3.heap.size w3 W → SN W (.slice (some ⟨gA, 0, none⟩) A.length cA) A) := fun W hb => Or.inr ⟨gA, 0, cA, rfl, by omega, (row_left HRA.out).below hb (fun _ => mA4)⟩
  have HY : Hid (∀ W, Below w3.heap.size w3 W → SN W (.slice (some ⟨gB, 0, none⟩) B.length cB) B) := fun W hb => Or.inr ⟨gB, 0, cB, rfl, by omega, (row_left HRB.out).below hb (fun _ => mB4)⟩
  have HSa3 : Hid (∀ W, Below w3.heap.size w3 W → SN W (.slice ao A.length cap0) A) := fun W hb => HSa1.out W (HB3.out.trans (hb.mono HB3.out.size))
  have HSb3 : Hid (∀ W, Below w3.heap.size w3 W → SN W (.slice ao' B.length cap0') B) := fun W hb => HSb.out W (HB3.out.trans (hb.mono HB3.out.size))
  have HRM : Hid (∀ W, Below w3.heap.size w3 W → Calls Try.prog 17 #[.slice ao A.length cap0, .slice ao' B.length cap0'] W fun e w' => Md W (A ++ B) e w') := fun W hb => doc_ref.merge W _ _ A B (HSa3.out W hb) (HSb3.out W hb) hW hlA hlB
  have HCM : Hid (∀ W, Below w3.heap.size w3 W → Calls Try.prog 16 #[.slice (some ⟨gA, 0, none⟩) A.length cA, .slice (some ⟨gB, 0, none⟩) B.length cB] W fun e w' => Md W (A ++ B) e w') := fun W hb => doc_now.merge W _ _ A B (HX.out W hb) (HY.out W hb) hW hlA hlB
  have HWA : Hid (Wc A) := fun c hc => hW c (List.mem_append_left _ hc)
  have HWB : Hid (Wc B) := fun c hc => hW c (List.mem_append_right _ hc)
  have HQ : Hid (∀ W, Below w3.heap.size w3 W → Calls Try.prog 20 #[.int .i64 3, .slice (some ⟨gA, 0, none⟩) A.length cA, .int .i64 1, .int .i64 2] W fun e w' => (∃ r, e = .returned r) ∧ Below W.heap.size W w') := fun W hb => by
    obtain ⟨x, hx⟩ := mayIs_ex 3 A
    refine Calls.mono (doc_now.quant W _ A 3 1 2 x (HX.out W hb) HWA.out (by omega) hx (by decide)) ?_
    rintro e w' ⟨rfl, hk⟩
    exact ⟨⟨_, rfl⟩, hk⟩
  have HQ2 : Hid (∀ W, Below w3.heap.size w3 W → Calls Try.prog 22 #[.int .i64 3, .slice (some ⟨gA, 0, none⟩) A.length cA, .int .i64 9] W fun e w' => (∃ r, e = .returned r) ∧ Below W.heap.size W w') := fun W hb => by
    obtain ⟨x, hx⟩ := mayIs_ex 3 A
    refine Calls.mono (doc_now.most W _ A 3 9 x (HX.out W hb) HWA.out (by omega) hx) ?_
    rintro e w' ⟨rfl, hk⟩
    exact ⟨⟨_, rfl⟩, hk⟩
  clear HSa HSa1 HSb hSt3
  go_wp2_with fail
  refine Calls.mono (HRM.out _ (by first | exact hb4 | exact hb4.drew)) ?_
  rintro e w5 ⟨m0, O, rfl, hI, hG0⟩
  have hb4s : w3.heap.size ≤ w4.heap.size := hb4.size
  have hb5 : Below w3.heap.size w3 w5 := bt (by first | exact hb4 | exact hb4.drew) hG0.below
  clear hb4
  go_wp2_with fail
  refine Calls.mono (HCM.out _ hb5) ?_
  rintro e w6 ⟨m1, O1, rfl, hI1, hG1⟩
  obtain rfl : O1 = O := hI1.uniq hI
  have hb6 : Below w3.heap.size w3 w6 := bt hb5 hG1.below
  clear hI1
  go_wp2_with fail
  refine Calls.mono (HCM.out _ hb6) ?_
  rintro e w7 ⟨m2, O2, rfl, hI2, hG2⟩
  obtain rfl : O2 = O1 := hI2.uniq hI
  have hb7 : Below w3.heap.size w3 w7 := bt hb6 hG2.below
  clear hI2
  go_wp2_with fail
  refine Calls.mono (HQ.out _ hb7) ?_
  rintro e w8 ⟨⟨r8, rfl⟩, hk⟩
  have hb8 : Below w3.heap.size w3 w8 := bt hb7 hk
  have hc8 : Below w7.heap.size w7 w8 := hk
  clear hk
  go_wp2_with fail
  refine Calls.mono (HQ2.out _ hb8) ?_
  rintro e w9 ⟨⟨r9, rfl⟩, hk⟩
  have hb9 : Below w3.heap.size w3 w9 := bt hb8 hk
  have hc9 : Below w7.heap.size w7 w9 := bt hc8 hk
  clear hk hb8 hc8
  have hlO : O2.length ≤ 2097152 := by have := isMerge_len hI; rw [List.length_append] at this; omega
  -- what stands at w9
  have HG0 : Hid (GC w4.heap.size w4 m0 O2 w9) := hG0.keep (bt hG1.below (bt hG2.below hc9))
  have HG1 : Hid (GC w5.heap.size w5 m1 O2 w6) := hG1
  have HO0 : Hid (w5.ownsRow w4.heap.size 49 2 m0 O2.length (fl O2)) := hG0.own
  have Hb5 : Hid (Below w3.heap.size w3 w5) := hb5
  have HG2 : Hid (GC w6.heap.size w6 m2 O2 w9) := hG2.keep hc9
  have HC1 : Hid (Below w6.heap.size w6 w9) := bt hG2.below hc9
  have HC0 : Hid (Below w5.heap.size w5 w9) := bt hG1.below HC1.out
  obtain ⟨jA, hjA⟩ : ∃ jA, jA = A.length + 1 := ⟨_, rfl⟩
  obtain ⟨jB, hjB⟩ : ∃ jB, jB = B.length + 1 := ⟨_, rfl⟩
  have HM9 : Hid (MK p gA A.length jA gB B.length jB w9 w9) := by
    obtain ⟨⟨x1, x2⟩, x3, x4⟩ := marks_cells HRA.out
    obtain ⟨⟨y1, y2⟩, y3, y4⟩ := marks_cells HRB.out
    rw [← hjA] at x3 x4
    rw [← hjB] at y3 y4
    exact ⟨cell_kept hb9 HM.out.1, cell_kept hb9 HM.out.2, cell_kept hb9 x1, cell_kept hb9 x2, cell_kept hb9 x3, cell_kept hb9 x4, cell_kept hb9 y1, cell_kept hb9 y2, cell_kept hb9 y3, cell_kept hb9 y4, Below.refl _ _⟩
  have HS1 : Hid (∀ W, MK p gA A.length jA gB B.length jB w9 W → Calls Try.prog 15 #[m1, m0] W fun e w' => e = .returned (.bool true) ∧ Below W.heap.size W w') := fun W h => same_true ((HG1.out.keep HC1.out).sn.below h.b) (HG0.out.sn.below h.b) hlO
  have HS2 : Hid (∀ W, MK p gA A.length jA gB B.length jB w9 W → Calls Try.prog 15 #[m2, m0] W fun e w' => e = .returned (.bool true) ∧ Below W.heap.size W w') := fun W h => same_true (HG2.out.sn.below h.b) (HG0.out.sn.below h.b) hlO
  have HS3 : Hid (∀ W, MK p gA A.length jA gB B.length jB w9 W → Calls Try.prog 15 #[.slice (some ⟨gA, 0, none⟩) A.length cA, .slice ao A.length cap0] W fun e w' => e = .returned (.bool true) ∧ Below W.heap.size W w') := fun W h => same_true (HX.out W (bt hb9 h.b)) (HSa3.out W (bt hb9 h.b)) (by omega)
  have HS4 : Hid (∀ W, MK p gA A.length jA gB B.length jB w9 W → Calls Try.prog 15 #[.slice (some ⟨gB, 0, none⟩) B.length cB, .slice ao' B.length cap0'] W fun e w' => e = .returned (.bool true) ∧ Below W.heap.size W w') := fun W h => same_true (HY.out W (bt hb9 h.b)) (HSb3.out W (bt hb9 h.b)) (by omega)
  have k5 : (0 : Int) ≤ (jA : Int) := by omega
  have k6 : (0 : Int) ≤ (jB : Int) := by omega
  obtain ⟨nA, hnA⟩ : ∃ nA, A.length + 2 = nA := ⟨_, rfl⟩
  obtain ⟨nB, hnB⟩ : ∃ nB, B.length + 2 = nB := ⟨_, rfl⟩
  have k1 : (A.length : Int) < (nA : Int) := by omega
  have k2 : (jA : Int) < (nA : Int) := by omega
  have k3 : (B.length : Int) < (nB : Int) := by omega
  have k4 : (jB : Int) < (nB : Int) := by omega
  have HlO : Hid (O2.length ≤ 2097152) := hlO
  have Hsz : Hid (w1.heap.size ≤ gA ∧ gA < w2.heap.size ∧ w2.heap.size ≤ gB ∧ gB < w3.heap.size ∧ p < w1.heap.size ∧ w2.heap.size ≤ w3.heap.size ∧ w1.heap.size ≤ w2.heap.size ∧ w3.heap.size ≤ w4.heap.size ∧ w4.heap.size ≤ w5.heap.size ∧ w5.heap.size ≤ w6.heap.size ∧ w6.heap.size ≤ w9.heap.size ∧ gA < w3.heap.size) := ⟨mA3, hgA, mB3, mB4, hp1, hw23, hw12, hb4s, hG0.below.size, hG1.below.size, HC1.out.size, mA4⟩
  have HcA : Hid (A.length + 2 ≤ cA ∧ cA ≤ 9223372036854775807 ∧ B.length + 2 ≤ cB ∧ cB ≤ 9223372036854775807) := ⟨mA1, mA2, mB1, mB2⟩
  go_upto_region 10 with fail
  have s1 : IntKind.i64.wrap ((A.length : Int) + 1) = (jA : Int) := by rw [IntKind.wrap_i64]; omega
  have s2 : IntKind.i64.wrap ((B.length : Int) + 1) = (jB : Int) := by rw [IntKind.wrap_i64]; omega
  clear hjA hjB hnA hnB hlO hW hI hb9 hb5 hb6 hb7 hc9 hG0 hG1 hG2 mA1 mA2 mB1 mB2 mA3 mB3 mA4 mB4 hgA hw23 hw12 hp1 hp2 HQ HQ2 HRM i2 i4 hb4s
  go_cut [109] (fun s W => s = .bool false ∧ MK p gA A.length jA gB B.length jB w9 W)
  case first =>
    as_aux_lemma =>
      go_region_held3 (fun W => W.cell? ⟨p, 0, none⟩ = some (.int .i64 (-7)) ∧ W.cell? ⟨p, 1, none⟩ = some (.int .u64 7) ∧ W.cell? ⟨gA, A.length * 2, none⟩ = some (.int .i64 (-7)) ∧ W.cell? ⟨gA, A.length * 2 + 1, none⟩ = some (.int .u64 7) ∧ W.cell? ⟨gA, jA * 2, none⟩ = some (.int .i64 (-7)) ∧ W.cell? ⟨gA, jA * 2 + 1, none⟩ = some (.int .u64 7) ∧ W.cell? ⟨gB, B.length * 2, none⟩ = some (.int .i64 (-7)) ∧ W.cell? ⟨gB, B.length * 2 + 1, none⟩ = some (.int .u64 7) ∧ W.cell? ⟨gB, jB * 2, none⟩ = some (.int .i64 (-7)) ∧ W.cell? ⟨gB, jB * 2 + 1, none⟩ = some (.int .u64 7) ∧ Below w9.heap.size w9 W)
        (first | with_reducible assumption | with_reducible exact MK.kept HM9.out (Below.drew (Below.refl _ _)) | with_reducible exact MK.kept (by assumption) hk)
        (first
          | (go_at_call 15; first | with_reducible refine Calls.mono (HS1.out _ (by assumption)) ?_ | with_reducible refine Calls.mono (HS2.out _ (by assumption)) ?_ | with_reducible refine Calls.mono (HS3.out _ (by assumption)) ?_ | with_reducible refine Calls.mono (HS4.out _ (by assumption)) ?_
             rintro e w' ⟨rfl, hk⟩))
      all_goals
        go_wp2_with fail
        go_meet
        exact ⟨rfl, by assumption⟩
  case rest =>
  obtain ⟨rfl, hb10⟩ := hcut
  obtain ⟨w10, hw10⟩ : ∃ w10, w10 = wc := ⟨_, rfl⟩
  subst hw10
  have HC10 : Hid (Below w6.heap.size w6 w10) := bt HC1.out hb10.b
  have HM10 : Hid (MK p gA A.length jA gB B.length jB w9 w10) := hb10
  have HB10 : Hid (Below w9.heap.size w9 w10) := hb10.b
  clear hb10
  have hCO : Hid (CO w5.heap.size w6.heap.size w10 m1 O2.length w10) := CO.start HG1.out HC10.out
  have HFm : Hid ((m1 = .slice none 0 0 ∧ O2 = []) ∨ ∃ g cap, m1 = .slice (some ⟨g, 0, none⟩) O2.length cap ∧ O2.length ≤ cap) := gc_form2 HG1.out
  obtain ⟨am, cm, hmv, hcm⟩ : ∃ am cm, m1 = .slice am O2.length cm ∧ (0 < O2.length → ∃ g, am = some ⟨g, 0, none⟩) := by
    rcases HFm.out with ⟨e1, e2⟩ | ⟨g, cap, e1, _⟩
    · exact ⟨none, 0, by rw [e1, e2]; rfl, fun k => by rw [e2] at k; simp at k⟩
    · exact ⟨_, cap, e1, fun _ => ⟨g, rfl⟩⟩
  subst hmv
  have hlO := HlO.out
  clear HM9 HS1 HS2 HS3 HS4
  go_wp2_with fail
  go_loopw [13] (fun a wr => ∃ i : Nat, i ≤ O2.length ∧ a = .int .i64 (i : Int) ∧ Hid (CO w5.heap.size w6.heap.size w10 (.slice am O2.length cm) O2.length wr)) (fun a _ => O2.length - (intOf a).toNat)
  case atStart => exact ⟨0, by omega, rfl, hCO⟩
  case round =>
    obtain ⟨i, hi, rfl, hC⟩ := hrel
    by_cases hlt : i < O2.length
    · as_aux_lemma =>
        have hlt' : (i : Int) < (O2.length : Int) := by omega
        obtain ⟨g, rfl⟩ := hcm (by omega)
        obtain ⟨⟨u1, q1⟩, ⟨u2, q2⟩, q3⟩ := hC.out.cells i hlt
        have f1 := q3 (i * 2)
        have f2 := q3 (i * 2 + 1)
        have HC2 : Hid (CO w5.heap.size w6.heap.size w10 (.slice (some ⟨g, 0, none⟩) O2.length cm) O2.length ((wr.setCell ⟨g, i * 2, none⟩ (.int .i64 (-9))).setCell ⟨g, i * 2 + 1, none⟩ (.int .u64 0))) := (hC.out.set (i * 2) _).set (i * 2 + 1) _
        clear q3 hC
        go_wp2_with fail
        exact ⟨⟨i + 1, by omega, by go_num, HC2⟩, by simp [intOf]; omega⟩
    · as_aux_lemma =>
        obtain rfl : i = O2.length := by omega
        have hlt' : ¬ (O2.length : Int) < (O2.length : Int) := by omega
        clear hi hlt
        go_wp2_with fail
        obtain ⟨i0, hi0, hz0, hz1, hz2⟩ := info_parts infoC
        go_loopw [11, 14] (fun v a wr => ∃ k : Nat, k ≤ 30 ∧ a = .int .i64 (k : Int) ∧ Hid (CO w5.heap.size w6.heap.size w10 v (O2.length + k) wr)) (fun _ a _ => 30 - (intOf a).toNat)
        case atStart => exact ⟨0, by omega, rfl, hC⟩
        case round =>
          obtain ⟨k, hk, rfl, hC⟩ := hrel
          by_cases hlt : k < 30
          · as_aux_lemma =>
              have hlt' : (k : Int) < 30 := by omega
              obtain ⟨xs, hx⟩ := hC.out.own
              have Hx : Hid _ := hx
              have hsz := hC.out.mid.size
              have hsz2 := Hsz.out
              have hbs : w5.heap.size ≤ wr.heap.size := by have := HC10.out.size; omega
              clear hx hsz hsz2
              go_wp2_with (at_builtin; refine wpList_append_own_at _ rfl _ _ 23 rfl w5.heap.size 49 i0 (.agg #[.int .i64 0, .int .u64 0]) 2 16 Try.underlying23 hi0 hz0 hz1 hz2 rfl (by decide) _ _ _ rfl (World.ownsRow.alloc Hx.out _) ⟨_, 0, none⟩ 1 1 [_, _] rfl rfl (cell_two_new _ _ _ _) (two_one (-8) 0) (by unfold maxLen; omega) (by omega) (by simp; omega) ?_; intro v5 w11 hown hgrow hnil hat; have hC5 := hC.out.push _ hown hgrow hat; clear hown hgrow hnil hat)
              exact ⟨⟨k + 1, by omega, by go_num, hC5⟩, by simp [intOf]; omega⟩
          · as_aux_lemma =>
              obtain rfl : k = 30 := by omega
              clear hk hlt
              have HBw : Hid (∀ W, Mid w5.heap.size w6.heap.size w10 W → Below w5.heap.size w5 W) := fun W hm => (bt HC0.out HB10.out).trans (hm.toBelow (by have := HC10.out.size; have := Hsz.out; omega))
              have hMN : Hid (MN p gA A.length w5.heap.size w6.heap.size w10 wr) := by
                have hz := Hsz.out
                obtain ⟨h1, h2, h3, h4, _⟩ := HM10.out
                have hm := hC.out.mid
                exact ⟨cell_mid hm h1 (by show p < _; omega), cell_mid hm h2 (by show p < _; omega), cell_mid hm h3 (by show gA < _; omega), cell_mid hm h4 (by show gA < _; omega), hm⟩
              have HS2 : Hid (∀ W, MN p gA A.length w5.heap.size w6.heap.size w10 W → Calls Try.prog 15 #[m2, m0] W fun e w' => e = .returned (.bool true) ∧ Below W.heap.size W w') := fun W h => same_true (own_sn (own_mid (own_keep HG2.out.own HB10.out) h.m) (by have := h.m.size; have := HC10.out.size; omega)) ((own_sn HO0.out (by have := Hsz.out; omega)).below (HBw.out W h.m)) HlO.out
              have HS3 : Hid (∀ W, MN p gA A.length w5.heap.size w6.heap.size w10 W → Calls Try.prog 15 #[.slice (some ⟨gA, 0, none⟩) A.length cA, .slice ao A.length cap0] W fun e w' => e = .returned (.bool true) ∧ Below W.heap.size W w') := fun W h => same_true (HX.out W (bt Hb5.out (HBw.out W h.m))) (HSa3.out W (bt Hb5.out (HBw.out W h.m))) (by omega)
              have HS4 : Hid (∀ W, MN p gA A.length w5.heap.size w6.heap.size w10 W → Calls Try.prog 15 #[.slice (some ⟨gB, 0, none⟩) B.length cB, .slice ao' B.length cap0'] W fun e w' => e = .returned (.bool true) ∧ Below W.heap.size W w') := fun W h => same_true (HY.out W (bt Hb5.out (HBw.out W h.m))) (HSb3.out W (bt Hb5.out (HBw.out W h.m))) (by omega)
              clear hC
              go_upto_region 20 with fail
              go_cut [152] (fun s W => s = .bool false ∧ MN p gA A.length w5.heap.size w6.heap.size w10 W)
              case first =>
                as_aux_lemma =>
                  go_region_held3 (fun W => W.cell? ⟨p, 0, none⟩ = some (.int .i64 (-7)) ∧ W.cell? ⟨p, 1, none⟩ = some (.int .u64 7) ∧ W.cell? ⟨gA, A.length * 2, none⟩ = some (.int .i64 (-7)) ∧ W.cell? ⟨gA, A.length * 2 + 1, none⟩ = some (.int .u64 7) ∧ Mid w5.heap.size w6.heap.size w10 W)
                    (first | with_reducible assumption | with_reducible exact MN.kept hMN.out (Below.drew (Below.refl _ _)) | with_reducible exact MN.kept (by assumption) hk)
                    (first
                      | (go_at_call 15; first | with_reducible refine Calls.mono (HS2.out _ (by assumption)) ?_ | with_reducible refine Calls.mono (HS3.out _ (by assumption)) ?_ | with_reducible refine Calls.mono (HS4.out _ (by assumption)) ?_
                         rintro e w' ⟨rfl, hk⟩))
                  all_goals
                    go_wp2_with fail
                    go_meet
                    exact ⟨rfl, by assumption⟩
              case rest =>
              obtain ⟨rfl, hM20⟩ := hcut
              obtain ⟨w20, hw20⟩ : ∃ w20, w20 = wc := ⟨_, rfl⟩
              subst hw20
              have HB20 : Hid (Below w5.heap.size w5 w20) := HBw.out _ hM20.m
              have HB320 : Hid (Below w3.heap.size w3 w20) := bt Hb5.out HB20.out
              have HO2 : Hid (w20.ownsRow w6.heap.size 49 2 m2 O2.length (fl O2)) := own_mid (own_keep HG2.out.own HB10.out) hM20.m
              have HI0 : Hid (Mid gA (gA + 1) w20 w20 ∧ Wc A ∧ RowC w20 gA 0 A ∧ ∀ o, w20.frozen? ⟨gA, o, none⟩ = false) := ⟨Mid.refl _ _ _, HWA.out, (row_left HRA.out).below HB320.out (fun _ => Hsz.out.2.2.2.2.2.2.2.2.2.2.2), fun o => (HB320.out.frozen (p := ⟨gA, o, none⟩) Hsz.out.2.2.2.2.2.2.2.2.2.2.2).trans (HFA.out o)⟩
              clear hM20 hMN HS2 HS3 HS4
              go_wp2_with fail
              go_loopw [15] (fun a wr => ∃ (i : Nat) (L : List Cn), i ≤ A.length ∧ a = .int .i64 (i : Int) ∧ L.length = A.length ∧ Hid (Mid gA (gA + 1) w20 wr ∧ Wc L ∧ RowC wr gA 0 L ∧ ∀ o, wr.frozen? ⟨gA, o, none⟩ = false)) (fun a _ => A.length - (intOf a).toNat)
              case atStart => exact ⟨0, A, by omega, rfl, rfl, HI0⟩
              case round =>
                obtain ⟨i, L, hi, rfl, hL, hJ⟩ := hrel
                by_cases hlt : i < A.length
                · as_aux_lemma =>
                    have hlt' : (i : Int) < (A.length : Int) := by omega
                    have hiL : i < L.length := by omega
                    obtain ⟨j1, j2, j3, j4⟩ := hJ.out
                    have q1 := (j3 i hiL).2
                    rw [Nat.zero_add] at q1
                    have f1 := j4 (i * 2 + 1)
                    have hy : IntKind.u64.wrap ((L[i].2 : Int) + 3) = (((L[i].2 + 3) % 18446744073709551616 : Nat) : Int) := by rw [IntKind.wrap_u64]; omega
                    have HJ2 : Hid (Mid gA (gA + 1) w20 (wr.setCell ⟨gA, i * 2 + 1, none⟩ (.int .u64 (((L[i].2 + 3) % 18446744073709551616 : Nat) : Int))) ∧ Wc (L.set i (L[i].1, (L[i].2 + 3) % 18446744073709551616)) ∧ RowC (wr.setCell ⟨gA, i * 2 + 1, none⟩ (.int .u64 (((L[i].2 + 3) % 18446744073709551616 : Nat) : Int))) gA 0 (L.set i (L[i].1, (L[i].2 + 3) % 18446744073709551616)) ∧ ∀ o, (wr.setCell ⟨gA, i * 2 + 1, none⟩ (.int .u64 (((L[i].2 + 3) % 18446744073709551616 : Nat) : Int))).frozen? ⟨gA, o, none⟩ = false) :=
                      ⟨j1.setCell (Or.inl (by show gA ≤ gA ∧ gA < gA + 1; omega)) _, wc_set j2 hiL (Nat.mod_lt _ (by decide)), row_set j3 hiL _, fun o => (World.frozen?_setCell _ _ _ _).trans (j4 o)⟩
                    have hLs : (L.set i (L[i].1, (L[i].2 + 3) % 18446744073709551616)).length = A.length := by rw [List.length_set]; exact hL
                    have HLs : Hid _ := hLs
                    clear j1 j2 j3 j4 hJ hLs
                    generalize L.set i (L[i].1, (L[i].2 + 3) % 18446744073709551616) = L' at *
                    generalize (L[i].2 + 3) % 18446744073709551616 = y' at *
                    generalize L[i].2 = y at *
                    go_wp2_with fail
                    exact ⟨⟨i + 1, L', by omega, by go_num, HLs.out, HJ2⟩, by simp [intOf]; omega⟩
                · as_aux_lemma =>
                    obtain rfl : i = A.length := by omega
                    have hlt' : ¬ (A.length : Int) < (A.length : Int) := by omega
                    obtain ⟨j1, j2, j3, j4⟩ := hJ.out
                    have hz := Hsz.out
                    have HBf : Hid (Below w.heap.size w wr) := by
                      unfold Hid
                      rw [HP.out]
                      have t1 : Below w1.heap.size w1 w20 := HB3.out.trans (HB320.out.mono HB3.out.size)
                      have t2 : Below gA w20 wr := j1.toBelow (by have := HB320.out.size; omega)
                      exact HB1.out.trans ((t1.trans (t2.mono hz.1)).mono (by omega))
                    have hx : SN wr (.slice (some ⟨gA, 0, none⟩) A.length cA) L := by rw [← hL]; exact Or.inr ⟨gA, 0, cA, rfl, by have := HcA.out; omega, j3⟩
                    have hy : SN wr (.slice (some ⟨gB, 0, none⟩) B.length cB) B := Or.inr ⟨gB, 0, cB, rfl, by have := HcA.out; omega, row_mid ((row_left HRB.out).below HB320.out (fun _ => by omega)) j1 (fun _ => by omega)⟩
                    have hWL : Wc (L ++ B) := fun c hc => by
                      rcases List.mem_append.1 hc with k | k
                      · exact j2 c k
                      · exact HWB.out c k
                    have hlL : L.length ≤ 1048576 := by omega
                    have h2 : SN wr m2 O2 := own_sn (own_mid (own_le HO2.out (by omega)) j1) (by have := j1.size; have := HB320.out.size; omega)
                    have h0 : SN wr m0 O2 := own_sn (own_mid (own_le (own_keep HO0.out HB20.out) (by omega)) j1) (by have := j1.size; have := HB320.out.size; omega)
                    have HM1 : Hid (∀ _ : Unit, _) := fun _ => doc_now.merge wr _ _ L B hx hy hWL hlL hlB
                    have HM2 : Hid (∀ W, Below wr.heap.size wr W → Calls Try.prog 17 #[.slice (some ⟨gA, 0, none⟩) A.length cA, .slice (some ⟨gB, 0, none⟩) B.length cB] W fun e w' => Md W (L ++ B) e w') := fun W hb => doc_ref.merge W _ _ L B (hx.below hb) (hy.below hb) hWL hlL hlB
                    have HSl : Hid (∀ W, Below wr.heap.size wr W → Calls Try.prog 15 #[m2, m0] W fun e w' => e = .returned (.bool true) ∧ Below W.heap.size W w') := fun W hb => same_true (h2.below hb) (h0.below hb) HlO.out
                    have HF : Hid (∀ W, _) := fixed_any
                    have HlL : Hid (L.length ≤ 1048576) := hlL
                    clear j1 j2 j3 j4 hJ hz hx hy hWL hlL h2 h0 hlt hi
                    go_wp2_with fail
                    refine Calls.mono (HM1.out ()) ?_
                    rintro e w21 ⟨m3, O3, rfl, hI3, hG3⟩
                    have hb21 : Below wr.heap.size wr w21 := hG3.below
                    go_wp2_with fail
                    refine Calls.mono (HM2.out _ hb21) ?_
                    rintro e w22 ⟨m4, O4, rfl, hI4, hG4⟩
                    obtain rfl : O4 = O3 := hI4.uniq hI3
                    have hb22 := bt hb21 hG4.below
                    have hlO4 : O4.length ≤ 2097152 := by have := isMerge_len hI3; rw [List.length_append] at this; have := HlL.out; omega
                    have HS5 : Hid (∀ _ : Unit, _) := fun _ => same_true (hG3.sn.below hG4.below) hG4.sn hlO4
                    clear hG3 hG4 hI3 hI4 hb21 hlO4
                    go_wp2_with fail
                    refine Calls.mono (HS5.out ()) ?_
                    rintro e w23 ⟨rfl, hk⟩
                    have hb23 := bt hb22 hk
                    clear hk hb22
                    go_wp2_with fail
                    refine Calls.mono (HSl.out _ hb23) ?_
                    rintro e w24 ⟨rfl, hk⟩
                    have hb24 := bt hb23 hk
                    clear hk hb23
                    go_wp2_with fail
                    refine Calls.mono (HF.out _) ?_
                    rintro e w25 ⟨rfl, hk⟩
                    go_wp2_with fail
                    go_ret
                    exact ⟨rfl, bt HBf.out (bt hb24 hk)⟩
end Go.Proofs.Ythhoklgfgandpaa
