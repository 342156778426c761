/- WHICH SNAPSHOTS ARE THE SAME: Same, the code's. Own work of the verifier. -/
import Derived.Test.YtckdkcnnfjbdmaaGreatZP3
namespace Go.Proofs.YtckdkcnnfjbdmaaGreat
open Go.RowKit Me

def smL : List Vl → List Vl → Bool
  | [], [] => true
  | x :: A, y :: B => smV x y && smL A B
  | _, _ => false
theorem smL_len {A B : List Vl} (h : A.length ≠ B.length) : smL A B = false := by
  induction A generalizing B with
  | nil => cases B with
    | nil => exact absurd rfl h
    | cons y B => rfl
  | cons x A ih => cases B with
    | nil => rfl
    | cons y B => rw [smL, ih (by simpa using h), Bool.and_false]
theorem smL_drop (A B : List Vl) (i : Nat) (h1 : i < A.length) (h2 : i < B.length) : smL (A.drop i) (B.drop i) = (smV A[i] B[i] && smL (A.drop (i + 1)) (B.drop (i + 1))) := by
  rw [List.drop_eq_getElem_cons h1, List.drop_eq_getElem_cons h2, smL]
set_option maxRecDepth 100000 in
set_option maxHeartbeats 8000000 in
theorem eqf_any (A B : List Vl) (va vb : Value) (w : World) (hA : SV w va A) (hB : SV w vb B) (wA : ∀ x ∈ A, VW x) (wB : ∀ x ∈ B, VW x) :
    Calls Tryz.prog 43 #[va, vb, .func (.func 44) #[] #[]] w fun e w' => e = .returned (.bool (smL A B)) ∧ Below w.heap.size w w' := by
  obtain ⟨ao, b, o, cap, rfl, hao, hcap, hcap2, hr⟩ := hA.open
  obtain ⟨bo, c, p, cap', rfl, hbo, hcap', hcap2', hr'⟩ := hB.open
  by_cases hlen : A.length = B.length
  · have ht : ((A.length : Int) != (B.length : Int)) = false := by rw [bne_eq_false_iff_eq]; omega
    obtain ⟨R, hR⟩ : ∃ R, R = smL A B := ⟨_, rfl⟩
    rw [← hR]
    have HR0 : Hid (R = smL (A.drop 0) (B.drop 0)) := hR
    have HL := hid_of hlen
    have HA := hid_of (⟨hr, hr'⟩ : _ ∧ _)
    have HW := hid_of (⟨wA, wB⟩ : _ ∧ _)
    clear hR hlen hr hr' wA wB hA hB
    have sF := store_f
    go_enter Tryz.func43, Tryz.ntmps43
    go_upto_region 4 with fail
    go_loopw [17] (fun x W => ∃ i : Nat, i ≤ A.length ∧ x = .int .i64 (i : Int) ∧ Hid (R = smL (A.drop i) (B.drop i)) ∧ Hid (Below w.heap.size w W)) (fun x _ => A.length - (intOf x).toNat)
    case atStart => exact ⟨0, by omega, rfl, HR0, Below.refl _ _⟩
    case round =>
      clear HR0
      obtain ⟨i, hi, rfl, HR, HB⟩ := hrel
      by_cases hlt : i < A.length
      · have hlt2 : i < B.length := by have := HL.out; omega
        have hlt' : (i : Int) < (A.length : Int) := by omega
        have hlt2' : (i : Int) < (B.length : Int) := by omega
        obtain rfl := hao (by intro e; rw [e] at hlt; simp at hlt)
        obtain rfl := hbo (by intro e; rw [e] at hlt2; simp at hlt2)
        obtain ⟨lv, cv, g1, g2, g3⟩ := HA.out.1.below HB.out i hlt
        obtain ⟨lw, cw, k1, k2, k3⟩ := HA.out.2.below HB.out i hlt2
        obtain ⟨lva, lvc, rfl⟩ := g2.form
        obtain ⟨cva, cvc, rfl⟩ := g3.form
        obtain ⟨lwa, lwc, rfl⟩ := k2.form
        obtain ⟨cwa, cwc, rfl⟩ := k3.form
        have hix := index_val b o A.length cap i (i : Int) rfl hlt
        have hiy := index_val c p B.length cap' i (i : Int) rfl hlt2
        have HS : Hid (∀ W, Below wr.heap.size wr W → Calls Tryz.prog 44 #[vx A[i] (.slice lva A[i].d.labels.length lvc) (.slice cva A[i].cs.length cvc), vx B[i] (.slice lwa B[i].d.labels.length lwc) (.slice cwa B[i].cs.length cwc)] W fun e w' => e = .returned (.bool (smV A[i] B[i])) ∧ Below W.heap.size W w') := fun W h => csamev_any A[i] B[i] _ _ (HW.out.1 _ (List.getElem_mem hlt)) (HW.out.2 _ (List.getElem_mem hlt2)) W ⟨_, _, rfl, g2.below h, g3.below h⟩ ⟨_, _, rfl, k2.below h, k3.below h⟩
        have hS := HR.out
        rw [smL_drop A B i hlt hlt2] at hS
        obtain ⟨r0, r1, r2, r3, r4, r5, r6, r7, r8, r9, r10⟩ := g1.cC
        have hk1 := k1.below (bel1 wr (.cells (vc A[i] (.slice lva A[i].d.labels.length lvc) (.slice cva A[i].cs.length cvc)) 45))
        obtain ⟨s0, s1, s2, s3, s4, s5, s6, s7, s8, s9, s10⟩ := k1.cC
        have hbw : b < wr.heap.size := lt_of_cell g1.c0
        have hcw : c < wr.heap.size := lt_of_cell k1.c0
        clear g1 g2 g3 k1 k2 k3 HR hk1
        generalize smV A[i] B[i] = sb at *
        cases sb
        · rw [Bool.false_and] at hS
          have HSS := hid_of hS
          clear hS
          go_wp2_with (go_at_call 44; with_reducible refine (HS.out _ (bel2 wr _ _)).mono ?_; rintro e w1 ⟨rfl, hb1⟩)
          go_ret
          exact ⟨by rw [HSS.out]; rfl, bt HB.out (bt (bel2 wr _ _) hb1)⟩
        · rw [Bool.true_and] at hS
          have HSS := hid_of hS
          clear hS
          go_wp2_with (go_at_call 44; with_reducible refine (HS.out _ (bel2 wr _ _)).mono ?_; rintro e w1 ⟨rfl, hb1⟩)
          exact ⟨⟨i + 1, by omega, by go_num, HSS, bt HB.out (bt (bel2 wr _ _) hb1)⟩, by simp [intOf]; omega⟩
      · have hlt' : ¬ (i : Int) < (A.length : Int) := by omega
        have hS := HR.out
        rw [List.drop_eq_nil_of_le (by omega), List.drop_eq_nil_of_le (by have := HL.out; omega)] at hS
        have HSS : Hid (R = true) := hS
        clear HR hS
        go_wp2_with fail
        go_ret
        exact ⟨by rw [HSS.out]; rfl, HB.out⟩
  · have ht : ((A.length : Int) != (B.length : Int)) = true := by rw [bne_iff_ne]; omega
    rw [smL_len hlen]
    clear hlen hr hr' wA wB hA hB
    go_enter Tryz.func43, Tryz.ntmps43
    go_wp2_with fail
    go_ret
    exact ⟨rfl, Below.refl _ _⟩
end Go.Proofs.YtckdkcnnfjbdmaaGreat
/- WHICH SNAPSHOTS ARE THE SAME: Same, the code's. Own work of the verifier. -/
namespace Go.Proofs.YtckdkcnnfjbdmaaGreat
open Go.RowKit Me

def smS (a b : Sn) : Bool := decide (a.p = b.p) && (decide (a.r = b.r) && smL a.vs b.vs)
set_option maxRecDepth 100000 in
set_option maxHeartbeats 4000000 in
theorem csames_any (a b : Sn) (v u : Value) (ha : SnW a) (hb : SnW b) (w : World) (hv : SnAt w a v) (hu : SnAt w b u) :
    Calls Tryz.prog 21 #[v, u] w fun e w' => e = .returned (.bool (smS a b)) ∧ Below w.heap.size w w' := by
  obtain ⟨va, rfl, sa⟩ := hv
  obtain ⟨vb, rfl, sb⟩ := hu
  have HE : Hid (∀ W, Below w.heap.size w W → Calls Tryz.prog 43 #[va, vb, .func (.func 44) #[] #[]] W fun e w' => e = .returned (.bool (smL a.vs b.vs)) ∧ Below W.heap.size W w') := fun W h => eqf_any a.vs b.vs va vb W (sa.below h) (sb.below h) ha.vs hb.vs
  obtain ⟨_, _, _, _, rfl, -⟩ := sa.open
  obtain ⟨_, _, _, _, rfl, -⟩ := sb.open
  unfold smS
  have e1 : decide (a.p = b.p) = (a.p == b.p) := by by_cases e : a.p = b.p <;> simp [e]
  have e2 : decide (a.r = b.r) = ((a.r : Int) == (b.r : Int)) := by
    by_cases e : a.r = b.r
    · rw [decide_eq_true e, e]; simp
    · rw [decide_eq_false e]; symm; rw [beq_eq_false_iff_ne]; omega
  have e3 : decide (a.r = b.r) = (a.r == b.r) := by by_cases e : a.r = b.r <;> simp [e]
  obtain ⟨h1, hh1⟩ : ∃ h1, (a.p == b.p) = h1 := ⟨_, rfl⟩
  obtain ⟨h2, hh2⟩ : ∃ h2, decide (a.r = b.r) = h2 := ⟨_, rfl⟩
  rw [hh1] at e1
  rw [hh2] at e2 e3
  have hh3 := e2.symm
  have hh4 := e3.symm
  rw [e1, hh2]
  clear e1 e2 e3 hh2 sa sb ha hb
  generalize smL a.vs b.vs = eb at *
  cases h1 <;> cases h2
  all_goals
    go_enter Tryz.func21, Tryz.ntmps21
    go_wp2_with (go_at_call 43; with_reducible refine (HE.out _ (bel2 w _ _)).mono ?_; rintro e w1 ⟨rfl, hb1⟩)
    go_ret
    first | exact ⟨rfl, bel2 w _ _⟩ | exact ⟨rfl, bt (bel2 w _ _) hb1⟩
end Go.Proofs.YtckdkcnnfjbdmaaGreat
