/- ExpoKeeps: THE WALK. Own work of the verifier. -/
import Derived.Test.YtlgfgeacphkhnaaGreatDoorWBU
import Derived.Test.YtlgfgeacphkhnaaGreatDoorWBT
import Derived.Test.YtlgfgeacphkhnaaGreatDoorWBR
namespace Go.Proofs.YtlgfgeacphkhnaaGreatDoor
open Go.RowKit Me

noncomputable def wrT (s : Sn) (A : List (List UInt8)) : List UInt8 := if (chkS s).1 = 0 ∧ fitB A.flatten = true then A.flatten else []
noncomputable def wrZ (s : Sn) (A : List (List UInt8)) : Int := if (chkS s).1 = 0 then (if fitB A.flatten = true then 0 else 4) else (chkS s).1
theorem wrT_len (s : Sn) (A : List (List UInt8)) : (wrT s A).length ≤ 4194304 := by
 unfold wrT
 split
 ·rename_i h
  have := h.2
  unfold fitB at this
  simp only [decide_eq_true_eq] at this
  omega
 ·simp
theorem wr_all {w W : World} {s : Sn} {A : List (List UInt8)} {e : Ending} (hA : A ≠ []) (h : WrQ w s A e W) : ∃ u, e = .returned (.tuple #[u, .int .i64 (wrZ s A)]) ∧ W.ownsRow w.heap.size 5 1 u (wrT s A).length (Lib.byteCells (wrT s A)) := by
 have hfit : (wrL [] A).2 = fitB A.flatten := by
  have := wrL_all A []
  rw [List.nil_append] at this
  cases h1 : (wrL [] A).2 <;> cases h2 : fitB A.flatten <;> simp_all
 rcases h with ⟨h1, rfl⟩ | ⟨h1, h2, rfl⟩ | ⟨h1, h2, ao, cap, rfl, ho⟩
 ·exact ⟨_, by rw [wrZ, if_neg h1], by rw [wrT, if_neg (fun k => h1 k.1)]; exact World.ownsRow_nil _ _ _ _⟩
 ·rw [hfit] at h2
  exact ⟨_, by rw [wrZ, if_pos h1, if_neg (by rw [h2]; decide)], by rw [wrT, if_neg (fun k => by rw [h2] at k; exact absurd k.2 (by decide))]; exact World.ownsRow_nil _ _ _ _⟩
 ·rw [hfit] at h2
  exact ⟨_, by rw [wrZ, if_pos h1, if_pos h2], by rw [wrT, if_pos ⟨h1, h2⟩]; exact ho⟩
theorem dw_all {s : Sn} {A : List (List UInt8)} {e : Ending} (h : DwQ s A e) : e = .returned (.tuple #[.string ⟨(wrT s A).toArray⟩, .int .i64 (wrZ s A)]) := by
 rcases h with ⟨h1, rfl⟩ | ⟨h1, h2, rfl⟩ | ⟨h1, h2, rfl⟩
 ·rw [wrZ, if_neg h1, wrT, if_neg (fun k => h1 k.1)]
 ·rw [wrZ, if_pos h1, if_neg (by rw [h2]; decide), wrT, if_neg (fun k => by rw [h2] at k; exact absurd k.2 (by decide))]
 ·rw [wrZ, if_pos h1, if_pos h2, wrT, if_pos ⟨h1, h2⟩]
set_option maxRecDepth 100000 in
set_option maxHeartbeats 8000000 in
theorem keeps_walk (s : Sn) (v : Value) (hS : SnW s) (hL : ∀ x ∈ s.vs, x.d.labels.length ≤ 4398046511104) (w : World) (hv : SnAt w s v) (ht : Wi.Tab w) (hg : Rl.Glob2 w) :
  Calls Tryz.prog 3 #[v] w fun e w' => e = .returned (.bool true) ∧ Below w.heap.size w w' := by
 have hv0 := hv
 obtain ⟨uv, rfl, hu⟩ := hv
 obtain ⟨ao, b1, o1, cap, rfl, hao, -, -, hr⟩ := hu.open
 have HW : Hid (∀ W v, Below w.heap.size w W → SnAt W s v → Calls Tryz.prog 7 #[v] W (wrP (wrZ s (exL (vlL s.p.toNat) s)) (wrT s (exL (vlL s.p.toNat) s)) W)) := fun W v hb hv =>
  (write_any (vlL s.p.toNat) s v hS W hv (ht.below hb) (wv_all hS (ht.below hb) (hg.below hb))).mono fun e w' ⟨h1, h2⟩ => ⟨wr_all (by simp [exL]) h1, h2⟩
 have HD : Hid (∀ W, Below w.heap.size w W → Calls Tryz.prog 6 #[.agg #[.int .i64 s.p, .slice ao s.vs.length cap, .int .u64 (s.r : Int)]] W fun e w' => e = .returned (.tuple #[.string ⟨(wrT s (exL (vlL s.p.toNat) s)).toArray⟩, .int .i64 (wrZ s (exL (vlL s.p.toNat) s))]) ∧ Below W.heap.size W w') := fun W hb => (dwrite_any rpr_all s _ hS W (hv0.below hb)).mono fun e w' ⟨h1, h2⟩ => ⟨dw_all h1, h2⟩
 have HM : Hid (∀ W v, Below w.heap.size w W → SnAt W s v → Calls Tryz.prog 8 #[v, .agg #[.int .i64 s.p, .slice ao s.vs.length cap, .int .u64 (s.r : Int)]] W fun e w' => e = .returned (.bool true) ∧ Below W.heap.size W w') := fun W v hb hv => (rsames_any s s v _ hS hS W hv (hv0.below hb)).mono fun e w' ⟨h1, h2⟩ => ⟨by rw [h1, smS_refl], h2⟩
 have HRl := hid_of (wrT_len s (exL (vlL s.p.toNat) s))
 generalize wrT s (exL (vlL s.p.toNat) s) = R at *
 generalize wrZ s (exL (vlL s.p.toNat) s) = z at *
 obtain ⟨W0, hW0⟩ : ∃ W0, W0 = w.alloc (.cells #[.int .i64 s.p, .slice ao s.vs.length cap, .int .u64 (s.r : Int)] 25) := ⟨_, rfl⟩
 have hN0 : W0.heap[w.heap.size]? = some (bxS s (.slice ao s.vs.length cap)) := by rw [hW0]; exact new_1 w _
 have hb0 : Below w.heap.size w W0 := by rw [hW0]; exact bel1 w _
 have HAw : La.HidC _ _ _ _ _ := awake_any W0 (ht.below hb0)
 have HFw : Hid (∀ W, Below w.heap.size w W → _) := fun W hb => few16_any s _ W (hv0.below hb) (fun x hx => ⟨(hS.vs x hx).cl, hL x hx⟩)
 have HN := hid_of hN0
 have HB0 := hid_of hb0
 have HW0 := hid_of hW0
 have HRw := hid_of hr
 have HAo := hid_of hao
 clear hv0 hu ht hg hS hr hN0 hb0 hW0 hL hao
 go_enter Tryz.func3, Tryz.ntmps3
 show Code.wp Tryz.prog (sDrop 0 kB) (kQ w) _ _
 rw [kpt0]
 refine wp_seq_k fun K hK => ?_
 dsimp only [sDrop, sFirst, bodyC, kB, Tryz.f3]
 go_wp2_with fail
 rw [← HW0.out]
 clear HW0
 rw [kpt1]
 refine wp_seq_k fun K hK => ?_
 dsimp only [sDrop, sFirst, bodyC, kB, Tryz.f3]
 go_wp2_with (refine (HAw.out).mono ?_; rintro e w1 ⟨rfl, hb1⟩)
 have HB1 := hid_of (bt HB0.out hb1)
 have HN1 := hid_of (hkN HN.out hb1)
 clear HAw hb1 HN HB0
 rw [kpt2]
 by_cases hfew : wgtL s.vs ≤ 1048576
 ·have HF : La.HidC _ _ _ _ _ := HFw.out w1 HB1.out
  rw [decide_eq_true hfew] at HF
  refine wp_seq_k fun K hK => ?_
  obtain ⟨c0, c1, c2, _, _, _⟩ := three_cells HN1.out
  dsimp only [sDrop, sFirst, bodyC, kB, Tryz.f3]
  go_wp2_with (refine (HF.out).mono ?_; rintro e w3 ⟨rfl, hb3⟩)
  have HB3 := hid_of (bt HB1.out hb3)
  have HN3 := hid_of (hkN HN1.out hb3)
  have hlo : w.heap.size < w3.heap.size := (Array.getElem?_eq_some_iff.1 HN3.out).1
  clear HFw HF hb3 HN1 HB1 c0 c1 c2
  rw [kpt3]
  refine wp_seq_k fun K hK => ?_
  obtain ⟨c0, c1, c2, _, _, _⟩ := three_cells HN3.out
  have sF := store_f
  dsimp only [sDrop, sFirst, bodyC, kB, Tryz.f3]
  go_wp2_with fail
  obtain ⟨W4, hW4⟩ : ∃ W4, W4 = w3.alloc (.cells #[.int .i64 s.p, .slice ao s.vs.length cap, .int .u64 (s.r : Int)] 25) := ⟨_, rfl⟩
  rw [← hW4]
  have HG1 : Hid (W4.heap[w.heap.size]? = some (bxS s (.slice ao s.vs.length cap))) := by unfold Hid; rw [hW4]; exact hkN HN3.out (bel1 _ _)
  have HG3 : Hid (W4.heap[w3.heap.size]? = some (bxS s (.slice ao s.vs.length cap))) := by unfold Hid; rw [hW4]; exact new_1 _ _
  have HB4 : Hid (Below w.heap.size w W4) := by unfold Hid; rw [hW4]; exact bt HB3.out (bel1 _ _)
  have HSz : Hid (W4.heap.size = w3.heap.size + 1) := by unfold Hid; rw [hW4]; simp
  have hl : s.vs.length ≤ 1048576 := Nat.le_trans (wgtL_len s.vs) hfew
  have HX : Hid (∀ x ∈ s.vs, x.d.labels.length ≤ 1048576 ∧ x.cs.length ≤ 1048576) := fun x hx => by have := wgt_mem hx; exact ⟨by omega, by omega⟩
  clear c0 c1 c2 HN3 HB3 hW4 hfew
  rw [kpt4]
  refine wp_seq_k fun K hK => ?_
  obtain ⟨c0, c1, c2, _, _, _⟩ := three_cells HG1.out
  obtain ⟨i0, hi0, hz0, hz1, hz2⟩ := info_parts infoV
  have hz0' := hid_of hz0
  have hz1' := hid_of hz1
  have hz2' := hid_of hz2
  have hwl : IntKind.i64.wrap ((s.vs.length : Int) + 2) = (s.vs.length : Int) + 2 := by rw [IntKind.wrap_i64]; omega
  clear hz0 hz1 hz2
  dsimp only [sDrop, sFirst, bodyC, kB, Tryz.f3]
  go_wp2_with (first
   | (refine wpList_make_own _ rfl _ _ 22 rfl (w3.heap.size + 1) 36 i0 _ 11 Tryz.underlying22 hi0 hz0'.out hz1'.out .i64 .i64 _ (s.vs.length + 2) rfl rfl (by first | rfl | omega | simp) (by rw [hz2'.out]; omega) (by unfold maxLen; omega) (Nat.le_of_eq HSz.out.symm) ?_; intro w5 hown hgr; obtain ⟨e0, e1, e2, f0, f1, f2⟩ := three_cells (hkN HG3.out (bel_gn hgr))))
  refine wp_fr rfl ?_
  refine keeps_copy s w _ w3.heap.size ao b1 o1 cap _ _ (kQ w) hl HX.out HAo.out HRw.out rfl rfl rfl (Kc.start HG1.out HG3.out hlo HB4.out (bel_gn hgr) hown) ?_
  intro f1 v J W1 q1 q2 q3 q4 q5
  refine keeps_told s w W1 _ ao cap z R v J f1 (kQ w) HW.out HD.out HM.out q1 q2 q3 q4 q5 ?_
  intro f2 told Vs W2 r3 r8 r9 r10 r11 r12
  refine keeps_over s w W2 _ _ v told R z J Vs f2 (kQ w) HRl.out r3 r8 r9 r10 r11 r12 ?_
  intro f3 told3 W3 a3 a8 a9 a10 a11
  refine keeps_read s w W3 _ _ v told3 R z J Vs f3 (kQ w) HRl.out a3 a8 a9 a10 r11 a11 ?_
  intro f4 b3 b8 b9
  have hJl : J.length = s.vs.length := by rw [← q4, List.length_map]
  refine keeps_room s w W3 _ _ v R z J f4 (kQ w) (fun r hr => (HX.out r.1 (by rw [← q4]; exact List.mem_map_of_mem hr)).1) (by omega) b3 b8 b9 a11.kc ?_
  intro f5 c3 c8 c9
  exact keeps_end s w W3 _ _ v R z J f5 HW.out c3 c8 c9 q4 a11.kc
 ·have HF : La.HidC _ _ _ _ _ := HFw.out w1 HB1.out
  rw [decide_eq_false hfew] at HF
  refine wp_seq_k fun K hK => ?_
  obtain ⟨c0, c1, c2, _, _, _⟩ := three_cells HN1.out
  dsimp only [sDrop, sFirst, bodyC, kB, Tryz.f3]
  go_wp2_with (refine (HF.out).mono ?_; rintro e w3 ⟨rfl, hb3⟩)
  go_ret
  exact ⟨rfl, bt HB1.out hb3⟩
end Go.Proofs.YtlgfgeacphkhnaaGreatDoor
