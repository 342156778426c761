/- IS THERE A NAME WITH ANOTHER KIND OR HELP, the document's: unlike. Own work of the verifier. -/
import Derived.Test.YtckdkcnnfjbdmaaGreatZK
import Derived.Test.YtckdkcnnfjbdmaaGreatZD3
namespace Go.Proofs.YtckdkcnnfjbdmaaGreat
open Go.RowKit Me

theorem unX_drop (A B : List Vl) (i : Nat) (h : i < A.length) : unX (A.drop i) B = (B.any (fun y => unlB A[i] y) || unX (A.drop (i + 1)) B) := by
  unfold unX
  rw [List.drop_eq_getElem_cons h, List.any_cons]
theorem any_drop (B : List Vl) (f : Vl → Bool) (k : Nat) (h : k < B.length) : (B.drop k).any f = (f B[k] || (B.drop (k + 1)).any f) := by
  rw [List.drop_eq_getElem_cons h, List.any_cons]
theorem D4.bel {b : Nat} {d : La.Ds} {lv : Value} {W W1 : World} {B : Nat} (h : D4 b d lv W) (hb : Below B W W1) (hB : b < B) : D4 b d lv W1 :=
  ⟨(hb.cell (p := ⟨b, 0, none⟩) hB).trans h.c0, (hb.cell (p := ⟨b, 1, none⟩) hB).trans h.c1, (hb.cell (p := ⟨b, 2, none⟩) hB).trans h.c2, (hb.cell (p := ⟨b, 3, none⟩) hB).trans h.c3⟩
theorem two_D4 (w : World) (d e : La.Ds) (l m : Value) : D4 w.heap.size d l ((w.alloc (.cells #[.int .i64 d.kind, .string ⟨d.name.toArray⟩, .string ⟨d.help.toArray⟩, l] 39)).alloc (.cells #[.int .i64 e.kind, .string ⟨e.name.toArray⟩, .string ⟨e.help.toArray⟩, m] 39)).drew ∧ D4 (w.heap.size + 1) e m ((w.alloc (.cells #[.int .i64 d.kind, .string ⟨d.name.toArray⟩, .string ⟨d.help.toArray⟩, l] 39)).alloc (.cells #[.int .i64 e.kind, .string ⟨e.name.toArray⟩, .string ⟨e.help.toArray⟩, m] 39)).drew ∧ Below w.heap.size w ((w.alloc (.cells #[.int .i64 d.kind, .string ⟨d.name.toArray⟩, .string ⟨d.help.toArray⟩, l] 39)).alloc (.cells #[.int .i64 e.kind, .string ⟨e.name.toArray⟩, .string ⟨e.help.toArray⟩, m] 39)).drew := by
  have h2 := D4.new (w.alloc (.cells #[.int .i64 d.kind, .string ⟨d.name.toArray⟩, .string ⟨d.help.toArray⟩, l] 39)) e m 39
  rw [show (w.alloc (.cells #[.int .i64 d.kind, .string ⟨d.name.toArray⟩, .string ⟨d.help.toArray⟩, l] 39)).heap.size = w.heap.size + 1 by simp] at h2
  exact ⟨((D4.new w d l 39).below (bel1 _ _)).below (drew_bel _), h2.below (drew_bel _), bt (bel2 _ _ _) (drew_bel _)⟩
set_option maxRecDepth 100000 in
set_option maxHeartbeats 8000000 in
theorem runlike_any (A B : List Vl) (va vb : Value) (w : World) (hA : SV w va A) (hB : SV w vb B) (sA : A.length ≤ 256) (sB : B.length ≤ 256) :
    Calls Tryz.prog 33 #[va, vb] w fun e w' => e = .returned (.bool (unX A B)) ∧ Below w.heap.size w w' := by
  obtain ⟨ao, b, o, cap, rfl, hao, -, -, hr⟩ := hA.open
  obtain ⟨bo, c, p, cap', rfl, hbo, -, -, hr'⟩ := hB.open
  obtain ⟨R, hR⟩ : ∃ R, R = unX A B := ⟨_, rfl⟩
  rw [← hR]
  have HR0 : Hid (R = unX (A.drop 0) B) := hR
  have HA := hid_of hr
  have HB := hid_of hr'
  clear hA hB hr hr' hR
  go_enter Tryz.func33, Tryz.ntmps33
  go_upto_region 2 with fail
  go_loopw [5] (fun x W => ∃ i : Nat, i ≤ A.length ∧ x = .int .i64 (i : Int) ∧ Hid (R = unX (A.drop i) B) ∧ Hid (Below w.heap.size w W)) (fun x _ => A.length - (intOf x).toNat)
  case atStart => exact ⟨0, by omega, rfl, HR0, Below.refl _ _⟩
  case round =>
    clear HR0
    obtain ⟨i, hi, rfl, HR, HBl⟩ := hrel
    by_cases hlt : i < A.length
    · have hlt' : (i : Int) < (A.length : Int) := by omega
      obtain rfl := hao (by intro e; rw [e] at hlt; simp at hlt)
      have HR1 := hid_of (HR.out.trans (unX_drop A B i hlt))
      have HI0 : Hid (R = ((B.drop 0).any (fun y => unlB A[i] y) || unX (A.drop (i + 1)) B)) := HR1.out
      clear HR HR1
      go_upto_region 5 with fail
      go_loopw [6] (fun x W => ∃ k : Nat, k ≤ B.length ∧ x = .int .i64 (k : Int) ∧ Hid (R = ((B.drop k).any (fun y => unlB A[i] y) || unX (A.drop (i + 1)) B)) ∧ Hid (Below w.heap.size w W)) (fun x _ => B.length - (intOf x).toNat)
      case atStart => exact ⟨0, by omega, rfl, HI0, HBl⟩
      case round =>
        clear HI0 HBl
        obtain ⟨k, hk, rfl, HI, HBl⟩ := hrel
        by_cases hkt : k < B.length
        · have hkt' : (k : Int) < (B.length : Int) := by omega
          obtain rfl := hbo (by intro e; rw [e] at hkt; simp at hkt)
          have hix := index_val b o A.length cap i (i : Int) rfl hlt
          have hiy := index_val c p B.length cap' k (k : Int) rfl hkt
          have HI1 := hid_of (HI.out.trans (by rw [any_drop B _ k hkt]))
          obtain ⟨lx, cx, g1, g2, g3⟩ := HA.out.below HBl.out i hlt
          obtain ⟨ly, cy, k1, k2, k3⟩ := HB.out.below HBl.out k hkt
          obtain ⟨xa, xc, rfl⟩ := g2.form
          obtain ⟨ya, yc, rfl⟩ := k2.form
          have HLt := hid_of (⟨lt_of_cell g1.c0, lt_of_cell k1.c0⟩ : b < wr.heap.size ∧ c < wr.heap.size)
          have HG := hid_of (fun (W : World) (h : Below wr.heap.size wr W) => (⟨(g1.below h).cC, (k1.below h).cC⟩ : _ ∧ _))
          clear HI g1 g2 g3 k1 k2 k3
          go_upto_region 7 with fail
          go_cut [7, 8] from 21 to 30 (fun x y W => ∃ b1 b2, x = .pointer (some ⟨b1, 0, none⟩) ∧ y = .pointer (some ⟨b2, 0, none⟩) ∧ Hid (D4 b1 A[i].d (.slice xa A[i].d.labels.length xc) W) ∧ Hid (D4 b2 B[k].d (.slice ya B[k].d.labels.length yc) W) ∧ Hid (Below wr.heap.size wr W))
          case first =>
            clear HI1
            obtain ⟨⟨r0, r1, r2, r3, -⟩, ⟨s0, s1, s2, s3, -⟩⟩ := HG.out _ (Below.refl _ _)
            obtain ⟨hb1, hb2⟩ := HLt.out
            have H12 := hid_of (two_D4 wr A[i].d B[k].d (.slice xa A[i].d.labels.length xc) (.slice ya B[k].d.labels.length yc))
            have H21 := hid_of (two_D4 wr B[k].d A[i].d (.slice ya B[k].d.labels.length yc) (.slice xa A[i].d.labels.length xc))
            go_region
            all_goals
              go_wp2_with fail
              go_meet
              first
                | exact ⟨wr.heap.size, wr.heap.size + 1, rfl, rfl, H12.out.1, H12.out.2.1, H12.out.2.2⟩
                | exact ⟨wr.heap.size + 1, wr.heap.size, rfl, rfl, H21.out.2.1, H21.out.1, H21.out.2.2⟩
          case rest =>
          rename_i wc
          obtain ⟨b1, b2, rfl, rfl, HD1, HD2, HBn⟩ := hcut
          obtain ⟨f0, f1, f2, f3⟩ := HD1.out
          obtain ⟨e0, e1, e2, e3⟩ := HD2.out
          have HBl2 := hid_of (bt HBl.out HBn.out)
          obtain ⟨ba, hba⟩ : ∃ ba, (A[i].d.name == B[k].d.name) = ba := ⟨_, rfl⟩
          obtain ⟨bb, hbb⟩ : ∃ bb, (A[i].d.kind == B[k].d.kind) = bb := ⟨_, rfl⟩
          obtain ⟨bc, hbc⟩ : ∃ bc, (A[i].d.help == B[k].d.help) = bc := ⟨_, rfl⟩
          have hbb' : (A[i].d.kind != B[k].d.kind) = !bb := by rw [← hbb]; rfl
          have HI2 : Hid (R = ((ba && (!bb || !bc)) || (B.drop (k + 1)).any (fun y => unlB A[i] y) || unX (A.drop (i + 1)) B)) := by
            unfold Hid
            rw [HI1.out, unl_beq, hba, hbb', hbc]
          clear HI1 hbb HD1 HD2 HBl HBn HLt HG
          cases ba <;> cases bb <;> cases bc
          all_goals as_aux_lemma =>
            go_wp2_with fail
            first
              | (go_ret; exact ⟨retB HI2.out.symm, HBl2.out⟩)
              | exact ⟨⟨k + 1, by omega, by go_num, HI2, HBl2⟩, by simp [intOf]; omega⟩
        · have hkt' : ¬ (k : Int) < (B.length : Int) := by omega
          have HS : Hid (R = unX (A.drop (i + 1)) B) := by
            have := HI.out
            rw [List.drop_eq_nil_of_le (by omega)] at this
            exact this
          clear HI
          as_aux_lemma =>
            go_wp2_with fail
            exact ⟨⟨i + 1, by omega, by go_num, HS, HBl⟩, by simp [intOf]; omega⟩
    · have hlt' : ¬ (i : Int) < (A.length : Int) := by omega
      have HS : Hid (R = false) := by
        have := HR.out
        rw [List.drop_eq_nil_of_le (by omega)] at this
        exact this
      clear HR
      as_aux_lemma =>
        go_wp2_with fail
        go_ret
        exact ⟨retB HS.out.symm, HBl.out⟩
end Go.Proofs.YtckdkcnnfjbdmaaGreat
