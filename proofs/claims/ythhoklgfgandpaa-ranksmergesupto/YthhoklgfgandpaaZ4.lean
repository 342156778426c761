/- THE WALK OF RanksMerges. Own work of the verifier. -/
import Derived.Test.YthhoklgfgandpaaX6
import Derived.Test.YthhoklgfgandpaaMM
namespace Go.Proofs.Ythhoklgfgandpaa
open Go.RowKit

theorem tot_add (A B : List Cn) : IntKind.u64.wrap ((tot A : Int) + (tot B : Int)) = ((tot (A ++ B) : Nat) : Int) := by
  have e : tot (A ++ B) = (tot A + tot B) % 18446744073709551616 := by
    show sumN (A ++ B) % _ = (sumN A % _ + sumN B % _) % _
    rw [sumN_append, ← Nat.add_mod]
  rw [IntKind.wrap_u64, e]
  omega
theorem most0 (W : World) (v : Value) (L : List Cn) (p y : Int) (h : SN W v L) (hW : Wc L) (hl : L.length ≤ 4194304) (hx : MayIs p L 0) : Calls Try.prog 22 #[.int .i64 p, v, .int .i64 y] W fun e w' => e = twoU (amN p.toNat L y : Nat) 0 ∧ Below W.heap.size W w' := by
  have k := doc_now.most W v L p y 0 h hW hl hx
  rw [if_pos rfl] at k
  exact k
set_option maxRecDepth 10000 in
set_option maxHeartbeats 8000000 in
theorem merges_walk (p num den y : Int) (r n : Nat) (v v' : Value) (A B : List Cn) (hlA : A.length ≤ 1048576) (hlB : B.length ≤ 1048576) (hW : Wc (A ++ B)) (w : World) (h : SN w v A) (h' : SN w v' B) :
    Calls Try.prog 6 #[.agg #[.int .i64 p, v, v', .int .u64 (r : Int), .int .u64 (n : Int), .int .i64 num, .int .i64 den, .int .i64 y]] w fun e w' => e = .returned (.bool true) ∧ Below w.heap.size w w' := by
  have hWA : Wc A := fun c hc => hW c (List.mem_append_left _ hc)
  have hWB : Wc B := fun c hc => hW c (List.mem_append_right _ hc)
  have hWc : Wc (B ++ A) := fun c hc => hW c (by rw [List.mem_append] at *; exact hc.symm)
  obtain ⟨ao, b0, o0, cap0, hv, _⟩ := h.sc
  obtain ⟨ao', b0', o0', cap0', hv', _⟩ := h'.sc
  subst hv hv'
  obtain ⟨w0, hw0⟩ : ∃ w0, w.alloc (.cells #[.int .i64 p, .slice ao A.length cap0, .slice ao' B.length cap0', .int .u64 (r : Int), .int .u64 (n : Int), .int .i64 num, .int .i64 den, .int .i64 y] 26) = w0 := ⟨_, rfl⟩
  have hb0 : Below w.heap.size w w0 := by rw [← hw0]; exact (Below.refl _ _).alloc (Nat.le_refl _) _
  have hh0 : w0.heap[w.heap.size]? = some (.cells #[.int .i64 p, .slice ao A.length cap0, .slice ao' B.length cap0', .int .u64 (r : Int), .int .u64 (n : Int), .int .i64 num, .int .i64 den, .int .i64 y] 26 (0, 0)) := by rw [← hw0]; exact new_1 w _
  have d0 : w0.cell? ⟨w.heap.size, 0, none⟩ = some (.int .i64 p) := by simp [World.cell?, hh0]
  have d1 : w0.cell? ⟨w.heap.size, 1, none⟩ = some (.slice ao A.length cap0) := by simp [World.cell?, hh0]
  have d2 : w0.cell? ⟨w.heap.size, 2, none⟩ = some (.slice ao' B.length cap0') := by simp [World.cell?, hh0]
  have d7 : w0.cell? ⟨w.heap.size, 7, none⟩ = some (.int .i64 y) := by simp [World.cell?, hh0]
  clear hh0
  have hSA := h.below hb0
  have hSB := h'.below hb0
  obtain ⟨xa, hxa⟩ := mayIs_ex p A
  obtain ⟨xb, hxb⟩ := mayIs_ex p B
  have HMa : Hid (∀ W, Below w0.heap.size w0 W → _) := fun W hb => may_any W _ A p xa (hSA.below hb) hWA (by omega) hxa
  have HMb : Hid (∀ W, Below w0.heap.size w0 W → _) := fun W hb => may_any W _ B p xb (hSB.below hb) hWB (by omega) hxb
  have HRa : Hid (∀ W, Below w0.heap.size w0 W → _) := fun W hb => doc_ref.may W _ A p xa (hSA.below hb) hWA (by omega) hxa
  have HRb : Hid (∀ W, Below w0.heap.size w0 W → _) := fun W hb => doc_ref.may W _ B p xb (hSB.below hb) hWB (by omega) hxb
  have HGab : Hid (∀ W, Below w0.heap.size w0 W → Calls Try.prog 16 #[.slice ao A.length cap0, .slice ao' B.length cap0'] W fun e w' => ∃ m O, e = .returned m ∧ IsMerge O (A ++ B) ∧ GC W.heap.size W m O w') := fun W hb => cmerge_any W _ _ A B (hSA.below hb) (hSB.below hb) hW hlA hlB
  have HGba : Hid (∀ W, Below w0.heap.size w0 W → Calls Try.prog 16 #[.slice ao' B.length cap0', .slice ao A.length cap0] W fun e w' => ∃ m O, e = .returned m ∧ IsMerge O (A ++ B) ∧ GC W.heap.size W m O w') := fun W hb => (cmerge_any W _ _ B A (hSB.below hb) (hSA.below hb) hWc hlB hlA).mono (by
    rintro e w' ⟨m, O, k1, k2, k3⟩
    exact ⟨m, O, k1, k2.perm List.perm_append_comm, k3⟩)
  have HTa : Hid (∀ W, Below w0.heap.size w0 W → _) := fun W hb => total_any W _ A (hSA.below hb) hWA (by omega)
  have HTb : Hid (∀ W, Below w0.heap.size w0 W → _) := fun W hb => total_any W _ B (hSB.below hb) hWB (by omega)
  have HF : Hid (∀ W, _) := fixed_any
  have HSA : Hid (∀ W, Below w0.heap.size w0 W → SN W (.slice ao A.length cap0) A) := fun W hb => hSA.below hb
  have HSB : Hid (∀ W, Below w0.heap.size w0 W → SN W (.slice ao' B.length cap0') B) := fun W hb => hSB.below hb
  have hr0 := Below.refl w0.heap.size w0
  have hta := tot_add A B
  have HW : Hid _ := hW
  clear h h' hSA hSB hW hWc
  go_enter Try.func6, Try.ntmps6
  go_wp2_with fail
  go_region
  go_wp2_with fail
  clear d0 d1 d2 d7 hw0
  refine Calls.mono (HMa.out _ hr0.drew) ?_
  rintro e w1 ⟨rfl, hk⟩
  have hb1 := bt hr0.drew hk
  clear hk
  go_wp2_with fail
  refine Calls.mono (HRa.out _ hb1) ?_
  rintro e w2 ⟨rfl, hk⟩
  have hb2 := bt hb1 hk
  clear hk hb1
  go_wp2_with fail
  refine Calls.mono (HMb.out _ hb2) ?_
  rintro e w3 ⟨rfl, hk⟩
  have hb3 := bt hb2 hk
  clear hk hb2
  go_wp2_with fail
  refine Calls.mono (HRb.out _ hb3) ?_
  rintro e w4 ⟨rfl, hk⟩
  have hb4 := bt hb3 hk
  clear hk hb3
  go_wp2_with fail
  refine Calls.mono (HGab.out _ hb4) ?_
  rintro e w5 ⟨m, O, rfl, hI, hG⟩
  have hb5 := bt hb4 hG.below
  have hsm := hG.sn
  have hlO : O.length ≤ 2097152 := by have := isMerge_len hI; rw [List.length_append] at this; omega
  have HI : Hid _ := hI
  have HSm : Hid (∀ W, Below w5.heap.size w5 W → SN W m O) := fun W hb => hsm.below hb
  have HTm : Hid (∀ W, Below w5.heap.size w5 W → _) := fun W hb => total_any W m O (hsm.below hb) (isMerge_wc hI HW.out) (by omega)
  have HMm : Hid (∀ W x, Below w5.heap.size w5 W → MayIs p O x → _) := fun W x hb hx => may_any W m O p x (hsm.below hb) (isMerge_wc hI HW.out) (by omega) hx
  have HAm : Hid (∀ W, Below w5.heap.size w5 W → MayIs p O 0 → _) := fun W hb hx => most0 W m O p y (hsm.below hb) (isMerge_wc hI HW.out) (by omega) hx
  have hto : tot O = tot (A ++ B) := isMerge_tot hI
  rw [← hto] at hta
  have HTO : Hid (tot O = tot (A ++ B)) := hto
  clear hto
  have hw5 : Hid (w0.heap.size ≤ w5.heap.size) := hb5.size
  clear hI hG hsm hb4
  have hc5 := Below.refl w5.heap.size w5
  go_wp2_with fail
  refine Calls.mono (HGba.out _ hb5) ?_
  rintro e w6 ⟨m2, O2, rfl, hI2, hG2⟩
  have hb6 := bt hb5 hG2.below
  have hc6 : Below w5.heap.size w5 w6 := hG2.below
  have heq : O2 = O := hI2.uniq HI.out
  subst heq
  have hs2 := hG2.sn
  have HSame : Hid (∀ _ : Unit, _) := fun _ => same_sn (HSm.out w6 hc6) hs2 (by omega) (by omega)
  rw [decide_eq_true rfl] at HSame
  clear hI2 hG2 hs2 hc5 hb5
  go_wp2_with fail
  refine Calls.mono (HSame.out ()) ?_
  rintro e w7 ⟨rfl, hk⟩
  have hb7 := bt hb6 hk
  have hc7 := bt hc6 hk
  clear hk hb6 hc6 HSame
  go_wp2_with fail
  refine Calls.mono (HTm.out _ hc7) ?_
  rintro e w8 ⟨rfl, hk⟩
  have hb8 := bt hb7 hk
  have hc8 := bt hc7 hk
  clear hk hb7 hc7
  go_wp2_with fail
  refine Calls.mono (HTa.out _ hb8) ?_
  rintro e w9 ⟨rfl, hk⟩
  have hb9 := bt hb8 hk
  have hc9 := bt hc8 hk
  clear hk hb8 hc8
  go_wp2_with fail
  refine Calls.mono (HTb.out _ hb9) ?_
  rintro e w10 ⟨rfl, hk⟩
  have hb10 := bt hb9 hk
  have hc10 := bt hc9 hk
  clear hk hb9 hc9
  have HTM : Hid (xa = 0 → xb = 0 → tot O2 = sumN A + sumN B) := fun e1 e2 => by
    subst e1 e2
    have a1 := (may_ok hxa).2.1
    have a2 := (may_ok hxb).2.1
    rw [HTO.out]
    show sumN (A ++ B) % 18446744073709551616 = _
    rw [sumN_append]
    omega
  clear HTO
  generalize tot A = ta at *
  generalize tot B = tb at *
  generalize tot O2 = tm at *
  go_wp2_with fail
  refine Calls.mono (HRa.out _ hb10) ?_
  rintro e w11 ⟨rfl, hk⟩
  have hb11 := bt hb10 hk
  have hc11 := bt hc10 hk
  clear hk hb10 hc10
  by_cases ha : xa = 0
  case neg =>
    have t1 : (xa != 0) = true := by rw [bne_iff_ne]; exact ha
    clear ha
    go_wp2_with fail
    refine Calls.mono (HF.out _) ?_
    rintro e wf ⟨rfl, hkf⟩
    go_wp2_with fail
    go_ret
    exact ⟨rfl, bt (bt hb0 hb11) hkf⟩
  subst ha
  go_wp2_with fail
  refine Calls.mono (HRb.out _ hb11) ?_
  rintro e w12 ⟨rfl, hk⟩
  have hb12 := bt hb11 hk
  have hc12 := bt hc11 hk
  clear hk hb11 hc11
  by_cases hb' : xb = 0
  case neg =>
    have t1 : (xb != 0) = true := by rw [bne_iff_ne]; exact hb'
    clear hb'
    go_wp2_with fail
    refine Calls.mono (HF.out _) ?_
    rintro e wf ⟨rfl, hkf⟩
    go_wp2_with fail
    go_ret
    exact ⟨rfl, bt (bt hb0 hb12) hkf⟩
  subst hb'
  have hAm : IsMerge A A := may_merge hxa hWA
  have HGan : Hid (∀ W, Below w0.heap.size w0 W → Calls Try.prog 16 #[.slice ao A.length cap0, .slice none 0 0] W fun e w' => ∃ m O, e = .returned m ∧ O = A ∧ GC W.heap.size W m O w') := fun W hb => (cmerge_any W _ _ A [] (HSA.out W hb) (Or.inl ⟨rfl, rfl⟩) (by rw [List.append_nil]; exact hWA) hlA (by simp)).mono (by
    rintro e w' ⟨m, O, k1, k2, k3⟩
    rw [List.append_nil] at k2
    exact ⟨m, O, k1, k2.uniq hAm, k3⟩)
  have HGna : Hid (∀ W, Below w0.heap.size w0 W → Calls Try.prog 16 #[.slice none 0 0, .slice ao A.length cap0] W fun e w' => ∃ m O, e = .returned m ∧ O = A ∧ GC W.heap.size W m O w') := fun W hb => (cmerge_any W _ _ [] A (Or.inl ⟨rfl, rfl⟩) (HSA.out W hb) (by rw [List.nil_append]; exact hWA) (by simp) hlA).mono (by
    rintro e w' ⟨m, O, k1, k2, k3⟩
    rw [List.nil_append] at k2
    exact ⟨m, O, k1, k2.uniq hAm, k3⟩)
  have htm := HTM.out (by simp) (by simp)
  have HTM2 : Hid _ := htm
  have HMO : Hid _ := merged_may hxa hxb HI.out
  have HAO : Hid (amN p.toNat O2 y = amN p.toNat A y + amN p.toNat B y) := by unfold Hid; rw [amN_keys HI.out.rise (merged_keys hxa hxb HI.out), amN_append]
  have HAa : Hid (∀ W, Below w0.heap.size w0 W → _) := fun W hb => most0 W _ A p y (HSA.out W hb) hWA (by omega) hxa
  have HAb : Hid (∀ W, Below w0.heap.size w0 W → _) := fun W hb => most0 W _ B p y (HSB.out W hb) hWB (by omega) hxb
  have HAl : Hid (amN p.toNat A y + amN p.toNat B y ≤ sumN A + sumN B) := by have := amN_le p.toNat A y; have := amN_le p.toNat B y; unfold Hid; omega
  have a1 := (may_ok hxa).2.1
  have a2 := (may_ok hxb).2.1
  clear HTM htm hAm
  go_wp2_with fail
  refine Calls.mono (HGan.out _ hb12) ?_
  rintro e w13 ⟨m3, O3, rfl, hO3, hG3⟩
  have hb13 := bt hb12 hG3.below
  have hc13 := bt hc12 hG3.below
  have HS3 : Hid (∀ _ : Unit, _) := fun _ => same_sn hG3.sn (HSA.out w13 hb13) (by rw [hO3]; omega) (by omega)
  rw [decide_eq_true hO3] at HS3
  clear hb12 hc12 hG3 hO3
  go_wp2_with fail
  refine Calls.mono (HS3.out ()) ?_
  rintro e w14 ⟨rfl, hk⟩
  have hb14 := bt hb13 hk
  have hc14 := bt hc13 hk
  clear hk hb13 hc13
  go_wp2_with fail
  refine Calls.mono (HGna.out _ hb14) ?_
  rintro e w15 ⟨m4, O4, rfl, hO4, hG4⟩
  have hb15 := bt hb14 hG4.below
  have hc15 := bt hc14 hG4.below
  have HS4 : Hid (∀ _ : Unit, _) := fun _ => same_sn hG4.sn (HSA.out w15 hb15) (by rw [hO4]; omega) (by omega)
  rw [decide_eq_true hO4] at HS4
  clear hb14 hc14 hG4 hO4
  go_wp2_with fail
  refine Calls.mono (HS4.out ()) ?_
  rintro e w16 ⟨rfl, hk⟩
  have hb16 := bt hb15 hk
  have hc16 := bt hc15 hk
  clear hk hb15 hc15
  go_wp2_with fail
  refine Calls.mono (HTm.out _ hc16) ?_
  rintro e w17 ⟨rfl, hk⟩
  have hb17 := bt hb16 hk
  have hc17 := bt hc16 hk
  clear hk hb16 hc16
  by_cases hbig : 9223372036854775807 < sumN A + sumN B
  · rw [if_pos hbig] at HMO
    have c1 : (9223372036854775807 : Int) < (tm : Int) := by have := HTM2.out; omega
    clear hbig HAO HAl a1 a2
    go_wp2_with fail
    refine Calls.mono (HMm.out _ 3 hc17 HMO.out) ?_
    rintro e w18 ⟨rfl, hk⟩
    have hb18 := bt hb17 hk
    have hc18 := bt hc17 hk
    clear hk hb17 hc17
    go_wp2_with fail
    refine Calls.mono (HF.out _) ?_
    rintro e wf ⟨rfl, hkf⟩
    go_wp2_with fail
    go_ret
    exact ⟨rfl, bt (bt hb0 hb18) hkf⟩
  · rw [if_neg hbig] at HMO
    have c1 : ¬ (9223372036854775807 : Int) < (tm : Int) := by have := HTM2.out; omega
    have HAm0 : Hid (∀ W, Below w5.heap.size w5 W → _) := fun W hb => HAm.out W hb HMO.out
    have c2 : IntKind.u64.wrap (((amN p.toNat A y : Nat) : Int) + ((amN p.toNat B y : Nat) : Int)) = ((amN p.toNat O2 y : Nat) : Int) := by
      have := HAO.out
      have := HAl.out
      rw [IntKind.wrap_u64]
      omega
    clear hbig HAO HAl a1 a2 HAm
    generalize amN p.toNat A y = ya at *
    generalize amN p.toNat B y = yb at *
    generalize amN p.toNat O2 y = ym at *
    go_wp2_with fail
    refine Calls.mono (HAa.out _ hb17) ?_
    rintro e w18 ⟨rfl, hk⟩
    have hb18 := bt hb17 hk
    have hc18 := bt hc17 hk
    clear hk hb17 hc17
    go_wp2_with fail
    refine Calls.mono (HAb.out _ hb18) ?_
    rintro e w19 ⟨rfl, hk⟩
    have hb19 := bt hb18 hk
    have hc19 := bt hc18 hk
    clear hk hb18 hc18
    go_wp2_with fail
    refine Calls.mono (HAm0.out _ hc19) ?_
    rintro e w20 ⟨rfl, hk⟩
    have hb20 := bt hb19 hk
    have hc20 := bt hc19 hk
    clear hk hb19 hc19
    go_wp2_with fail
    refine Calls.mono (HMm.out _ 0 hc20 HMO.out) ?_
    rintro e w21 ⟨rfl, hk⟩
    have hb21 := bt hb20 hk
    have hc21 := bt hc20 hk
    clear hk hb20 hc20
    go_wp2_with fail
    refine Calls.mono (HF.out _) ?_
    rintro e wf ⟨rfl, hkf⟩
    go_wp2_with fail
    go_ret
    exact ⟨rfl, bt (bt hb0 hb21) hkf⟩
end Go.Proofs.Ythhoklgfgandpaa
