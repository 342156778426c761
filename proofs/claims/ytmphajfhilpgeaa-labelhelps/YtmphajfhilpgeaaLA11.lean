/- Compare, the document's: THE WALK. Own work of the verifier. -/
import Derived.Test.YtmphajfhilpgeaaLA10
namespace Go.Proofs.Ytmphajfhilpgeaa
open Go.RowKit

theorem ordE_cases (a b : List UInt8) : ordE a b = -1 ∨ ordE a b = 0 ∨ ordE a b = 1 := by
  unfold ordE
  split
  · exact Or.inl rfl
  · split
    · exact Or.inr (Or.inr rfl)
    · exact Or.inr (Or.inl rfl)
/-- What the loop finds in memory. -/
structure KC (w : World) (ao ao' : Option Addr) (b o cap b' o' cap' : Nat) (A B : List Lb) (W : World) : Prop where
  f1 : W.cell? ⟨w.heap.size, 3, none⟩ = some (.slice ao A.length cap)
  f2 : W.cell? ⟨w.heap.size + 1, 3, none⟩ = some (.slice ao' B.length cap')
  r1 : RowL W b o A
  r2 : RowL W b' o' B
  bl : Below w.heap.size w W
theorem KC.drew {w W : World} {ao ao' : Option Addr} {b o cap b' o' cap' : Nat} {A B : List Lb} (h : KC w ao ao' b o cap b' o' cap' A B W) (n : Nat) : KC w ao ao' b o cap b' o' cap' A B (W.drewN n) := by
  have hb := below_drewN W n
  exact ⟨by rw [hb.cell (p := ⟨w.heap.size, 3, none⟩) (lt_of_cell h.f1)]; exact h.f1, by rw [hb.cell (p := ⟨w.heap.size + 1, 3, none⟩) (lt_of_cell h.f2)]; exact h.f2, h.r1.below hb, h.r2.below hb, h.bl.trans (hb.mono h.bl.size)⟩
theorem box_cells (w : World) (t t' : TypeId) (x0 x1 x2 x3 y0 y1 y2 y3 : Value) :
    ((w.alloc (.cells #[x0, x1, x2, x3] t)).alloc (.cells #[y0, y1, y2, y3] t')).cell? ⟨w.heap.size, 3, none⟩ = some x3 ∧ ((w.alloc (.cells #[x0, x1, x2, x3] t)).alloc (.cells #[y0, y1, y2, y3] t')).cell? ⟨w.heap.size + 1, 3, none⟩ = some y3 := by
  constructor <;> simp [go_sem]
set_option maxHeartbeats 4000000 in
set_option maxRecDepth 100000 in
theorem dcompare_any (d e : Ds) (v u : Value) (w : World) (hd : DsAt w d v) (he : DsAt w e u) :
    Calls Try.prog 17 #[v, u] w fun r w' => r = .returned (.int .i64 (ordD d e)) ∧ Below w.heap.size w w' := by
  obtain ⟨ao, b, o, cap, rfl, h1, h2, h3⟩ := hd.ex
  obtain ⟨ao', b', o', cap', rfl, k1, k2, k3⟩ := he.ex
  obtain ⟨kd, n, h, A⟩ := d
  obtain ⟨kd', n', h', B⟩ := e
  have HO : Hid (∀ (a b : List UInt8) W, Calls Try.prog 44 #[.string ⟨a.toArray⟩, .string ⟨b.toArray⟩] W fun r w' => r = .returned (.int .i64 (ordE a b)) ∧ w' = W) := fun a b W => order_any a b W
  have HKs : Hid (∀ t t', KC w ao ao' b o cap b' o' cap' A B ((w.alloc (.cells #[.int .i64 kd, .string ⟨n.toArray⟩, .string ⟨h.toArray⟩, .slice ao A.length cap] t)).alloc (.cells #[.int .i64 kd', .string ⟨n'.toArray⟩, .string ⟨h'.toArray⟩, .slice ao' B.length cap'] t'))) := fun t t' =>
    ⟨(box_cells w t t' _ _ _ _ _ _ _ _).1, (box_cells w t t' _ _ _ _ _ _ _ _).2, h3.below (bel2 w _ _), k3.below (bel2 w _ _), bel2 w _ _⟩
  have hD : ordD ⟨kd, n, h, A⟩ ⟨kd', n', h', B⟩ = if ordE n n' ≠ 0 then ordE n n' else ordL A B := rfl
  rw [hD]
  clear hD hd he h3 k3
  have HO1 : Hid _ := HO.out n n'
  have hc := ordE_cases n n'
  generalize ordE n n' = z at *
  by_cases hz : z = 0
  · subst hz
    rw [if_neg (by decide)]
    obtain ⟨R, hR⟩ : ∃ R, R = ordL A B := ⟨_, rfl⟩
    rw [← hR]
    have HR0 : Hid (R = ordL (A.drop 0) (B.drop 0)) := hR
    clear hR hc
    go_enter Try.func17, Try.ntmps17
    go_wp2_with fail
    refine (HO1.out _).mono ?_
    rintro r w1 ⟨rfl, rfl⟩
    clear HO1
    go_wp2_with fail
    go_loopw [6] (fun a W => ∃ i : Nat, i ≤ A.length ∧ i ≤ B.length ∧ a = .int .i64 (i : Int) ∧ Hid (R = ordL (A.drop i) (B.drop i)) ∧ Hid (KC w ao ao' b o cap b' o' cap' A B W)) (fun a _ => A.length - (intOf a).toNat)
    case atStart => exact ⟨0, by omega, by omega, rfl, HR0, HKs.out _ _⟩
    case round =>
      clear HKs HR0
      obtain ⟨i, i1, i2, rfl, HR, HK⟩ := hrel
      have f1 := HK.out.f1
      have f2 := HK.out.f2
      by_cases hlt : i < A.length ∧ i < B.length
      · obtain ⟨l1, l2⟩ := hlt
        have l1' : (i : Int) < (A.length : Int) := by omega
        have l2' : (i : Int) < (B.length : Int) := by omega
        obtain rfl := h1 (by intro k; change A = [] at k; rw [k] at l1; simp at l1)
        obtain rfl := k1 (by intro k; change B = [] at k; rw [k] at l2; simp at l2)
        obtain ⟨q1, q2⟩ := HK.out.r1 i l1
        obtain ⟨q3, q4⟩ := HK.out.r2 i l2
        have HK1 : Hid (KC w (some ⟨b, o, none⟩) (some ⟨b', o', none⟩) b o cap b' o' cap' A B wr.drew) := HK.out.drew 1
        have HK2 : Hid (KC w (some ⟨b, o, none⟩) (some ⟨b', o', none⟩) b o cap b' o' cap' A B wr.drew.drew) := HK1.out.drew 1
        have Q2 : Hid _ := (HK1.out.r1 i l1).2
        have Q4 : Hid _ := (HK1.out.r2 i l2).2
        have hS := HR.out
        rw [ordL_drop A B i l1 l2] at hS
        have HO1 : Hid _ := HO.out A[i].1 B[i].1
        have HO2 : Hid _ := HO.out A[i].2 B[i].2
        have z1c := ordE_cases A[i].1 B[i].1
        have z2c := ordE_cases A[i].2 B[i].2
        generalize ordE A[i].1 B[i].1 = z1 at *
        generalize ordE A[i].2 B[i].2 = z2 at *
        generalize A[i].1 = x1 at *
        generalize A[i].2 = x2 at *
        generalize B[i].1 = y1 at *
        generalize B[i].2 = y2 at *
        clear HR HO
        clear HK
        as_aux_lemma =>
        go_upto_region 7 with fail
        go_cut [7] from 31 to 43 (fun v W => v = .int .i64 z1 ∧ W = wr.drew)
        case first =>
          clear HK1 HK2 hS HO2 z1c z2c Q2 Q4
          as_aux_lemma =>
            go_region_with (go_at_call 44; with_reducible refine (HO1.out _).mono ?_; rintro r w1 ⟨rfl, rfl⟩)
            all_goals
              go_wp2_with fail
              go_meet
              exact ⟨rfl, rfl⟩
        case rest =>
        obtain ⟨rfl, rfl⟩ := hcut
        clear HO1 f1 f2 q1 q2 q3 q4
        by_cases e1 : z1 = 0
        · have e1' : (z1 != 0) = false := by simpa using e1
          rw [if_neg (by simpa using e1)] at hS
          have f1 := HK1.out.f1
          have f2 := HK1.out.f2
          have q2 := Q2.out
          have q4 := Q4.out
          clear Q2 Q4
          clear z1c e1
          as_aux_lemma =>
          go_upto_region 10 with fail
          go_cut [8] from 47 to 59 (fun v W => v = .int .i64 z2 ∧ W = wr.drew.drew)
          case first =>
            clear HK1 HK2 hS z2c
            as_aux_lemma =>
              go_region_with (go_at_call 44; with_reducible refine (HO2.out _).mono ?_; rintro r w1 ⟨rfl, rfl⟩)
              all_goals
                go_wp2_with fail
                go_meet
                exact ⟨rfl, rfl⟩
          case rest =>
          obtain ⟨rfl, rfl⟩ := hcut
          clear HO2 f1 f2 q2 q4 HK1
          by_cases e2 : z2 = 0
          · have e2' : (z2 != 0) = false := by simpa using e2
            rw [if_neg (by simpa using e2)] at hS
            have HF : Hid _ := hS
            clear hS z2c e2
            as_aux_lemma =>
              go_wp2_with fail
              exact ⟨⟨i + 1, by omega, by omega, by go_num, HF, HK2⟩, by simp [intOf]; omega⟩
          · have e2' : (z2 != 0) = true := by simpa using e2
            rw [if_pos e2] at hS
            have hbl := HK2.out.bl
            have HF : Hid _ := hS
            clear hS HK2 z2c e2
            as_aux_lemma =>
              go_wp2_with fail
              go_ret
              exact ⟨retI HF.out.symm, hbl⟩
        · have e1' : (z1 != 0) = true := by simpa using e1
          rw [if_pos e1] at hS
          have hbl := HK1.out.bl
          have HF : Hid _ := hS
          clear hS HK1 HK2 z1c z2c e1 HO2 Q2 Q4
          as_aux_lemma =>
            go_wp2_with fail
            go_ret
            exact ⟨retI HF.out.symm, hbl⟩
      · have hS := HR.out
        rw [ordL_end A B i hlt i1 i2] at hS
        have hbl := HK.out.bl
        clear HR HK HO h1 k1
        by_cases a1 : i < A.length
        · have a1' : (i : Int) < (A.length : Int) := by omega
          have a2' : ¬ (i : Int) < (B.length : Int) := by omega
          have a3' : ¬ (A.length : Int) < (B.length : Int) := by omega
          have a4' : (B.length : Int) < (A.length : Int) := by omega
          rw [if_neg (by omega), if_pos (by omega)] at hS
          have HF : Hid _ := hS
          clear hS hlt
          as_aux_lemma =>
            go_wp2_with fail
            go_ret
            exact ⟨retI HF.out.symm, hbl⟩
        · have a1' : ¬ (i : Int) < (A.length : Int) := by omega
          by_cases a2 : i < B.length
          · have a3' : (A.length : Int) < (B.length : Int) := by omega
            rw [if_pos (by omega)] at hS
            have HF : Hid _ := hS
            clear hS hlt
            as_aux_lemma =>
              go_wp2_with fail
              go_ret
              exact ⟨retI HF.out.symm, hbl⟩
          · have a3' : ¬ (A.length : Int) < (B.length : Int) := by omega
            have a4' : ¬ (B.length : Int) < (A.length : Int) := by omega
            rw [if_neg (by omega), if_neg (by omega)] at hS
            have HF : Hid _ := hS
            clear hS hlt
            as_aux_lemma =>
              go_wp2_with fail
              go_ret
              exact ⟨retI HF.out.symm, hbl⟩
  · rw [if_pos hz]
    have hz' : (z != 0) = true := by simpa using hz
    clear hc HKs
    as_aux_lemma =>
      go_enter Try.func17, Try.ntmps17
      go_wp2_with fail
      refine (HO1.out _).mono ?_
      rintro r w1 ⟨rfl, rfl⟩
      go_wp2_with fail
      go_ret
      exact ⟨rfl, bel2 w _ _⟩
end Go.Proofs.Ytmphajfhilpgeaa
