/- RULES: THE READER: rule. Own work of the verifier. (Printed by a program of the verifier's.) -/
import Derived.Test.YtoaaijohmfaphaaGreatDoorSBD
import Derived.Test.YtoaaijohmfaphaaGreatDoorSAY
import Derived.Test.YtoaaijohmfaphaaGreatDoorSAG
import Derived.Lib.ItoaLen
namespace Go.Proofs.YtoaaijohmfaphaaGreatDoor.Ru
open Go.RowKit Me

theorem stp_1 {PR : List UInt8 → Option Nat} {rec : St → RT × St} {T : List UInt8} {s : St} (h : bgn (rst T (beg s)) = 1) : stpF PR rec T s = twoF rec T (beg s) := by unfold stpF; dsimp only; rw [h]; rfl
theorem stp_2 {PR : List UInt8 → Option Nat} {rec : St → RT × St} {T : List UInt8} {s : St} (h : bgn (rst T (beg s)) = 2) : stpF PR rec T s = numF PR T (beg s) := by unfold stpF; dsimp only; rw [h]; rfl
theorem stp_3 {PR : List UInt8 → Option Nat} {rec : St → RT × St} {T : List UInt8} {s : St} (h : bgn (rst T (beg s)) = 3) : stpF PR rec T s = wrdF rec T (beg s) := by unfold stpF; dsimp only; rw [h]; rfl
theorem stp_0 {PR : List UInt8 → Option Nat} {rec : St → RT × St} {T : List UInt8} {s : St} (h : bgn (rst T (beg s)) = 0) : stpF PR rec T s = (.zero, fl (beg s) 5 (beg s).a) := by unfold stpF; dsimp only; rw [h]; rfl
theorem bgn_le (l : List UInt8) : bgn l = 0 ∨ bgn l = 1 ∨ bgn l = 2 ∨ bgn l = 3 := by
  cases l with
  | nil => exact Or.inl rfl
  | cons c l =>
    unfold bgn
    dsimp only
    split
    · exact Or.inr (Or.inl rfl)
    · split
      · exact Or.inr (Or.inr (Or.inl rfl))
      · split
        · exact Or.inr (Or.inr (Or.inr rfl))
        · exact Or.inl rfl
theorem bgn_ne {T : List UInt8} {s : St} (h : bgn (rst T s) ≠ 0) : s.e = 0 := by
  by_cases k : s.e = 0
  · exact k
  · rw [rst_e k] at h
    exact absurd rfl h
set_option maxHeartbeats 8000000 in
set_option maxRecDepth 100000 in
theorem rule_step {T : List UInt8} {rb : Nat} {u w0 : World} {f : Nat} (hf : f ≤ 512) {PR : List UInt8 → Option Nat} {rec : St → RT × St} (hr : ∀ f', f = f' + 1 → RecM T f' rec) {s : St} (hRa : ∀ f', f = f' + 1 → ∀ z, nxt rec T (beg s) z → RecAt T rb u f' rec z) {w : World} (h : Rd T rb u w0 s w) (ho : Ok T s) (hc : Cf f s) (he : Env u) (hPR : bgn (rst T (beg s)) = 2 → PrAt PR u (rowF isNm T (beg s))) :
    Calls Tryz.prog 33 #[.pointer (some ⟨rb, 0, none⟩)] w fun e w' => TellR T rb u w0 w.heap.size (stpF PR rec T s) e w' := by
  have hn : s.n ≤ 1029 := by
    by_cases e : s.e = 0
    · have := (hc.a e).1; omega
    · exact hc.b e
  have hb1 := bel1 w (.cells (rc 0 0 [] (.slice none 0 0) 0 0 0 (.slice none 0 0)) 26)
  have hn1 : Z8 w.heap.size (w.alloc (.cells (rc 0 0 [] (.slice none 0 0) 0 0 0 (.slice none 0 0)) 26)) := new_1 w _
  have hA := h.below hb1
  have hrb := h.lt
  have hu := h.st.size
  have hw0 := h.ex.size
  have hob := ho.beg (by omega)
  have HRe : Hid (∀ W, Rd T rb u w0 (beg s) W → Calls Tryz.prog 34 #[.pointer (some ⟨rb, 0, none⟩)] W fun e w' => e = .returned (.string ⟨(rst T (beg s)).toArray⟩) ∧ ∃ n, w' = W.drewN n) := fun W h => rest_any h hob
  have HBg : Hid (∀ W, Calls Tryz.prog 47 #[.string ⟨(rst T (beg s)).toArray⟩] W fun e w' => e = .returned (.int .i64 (bgn (rst T (beg s)) : Int)) ∧ w' = W) := fun W => begins_any _ W
  have HF3 : Hid (∀ a W, Rd T rb u w0 s W → Calls Tryz.prog 35 #[.pointer (some ⟨rb, 0, none⟩), .int .i64 3, .int .i64 ((a : Nat) : Int)] W fun r w' => r = .returned (.tuple #[]) ∧ Rd T rb u W (fl s 3 a) w') := fun a W h => fail_any h.re 3 a
  have HF5 : Hid (∀ a W, Rd T rb u w0 (beg s) W → Calls Tryz.prog 35 #[.pointer (some ⟨rb, 0, none⟩), .int .i64 5, .int .i64 ((a : Nat) : Int)] W fun r w' => r = .returned (.tuple #[]) ∧ Rd T rb u W (fl (beg s) 5 a) w') := fun a W h => fail_any h.re 5 a
  have hfr : bgn (rst T (beg s)) ≠ 0 → ∃ f', f = f' + 1 ∧ f' ≤ 511 ∧ (beg s).e = 0 ∧ (beg s).n ≤ 512 ∧ 512 ≤ (beg s).n + f' := fun k => by
    have e := bgn_ne k
    obtain ⟨e0, e1⟩ := beg_e0 s e
    obtain ⟨c1, c2⟩ := hc.a e0
    have := beg_n s
    exact ⟨f - 1, by omega, by omega, e, by omega, by omega⟩
  have H1 : Hid (bgn (rst T (beg s)) = 1 → ∀ W, Rd T rb u w0 (beg s) W → Calls Tryz.prog 48 #[.pointer (some ⟨rb, 0, none⟩)] W fun e w' => TellR T rb u W W.heap.size (stpF PR rec T s) e w') := fun k W h => by
    obtain ⟨f', e1, e2, e3, e4⟩ := hfr (by omega)
    rw [stp_1 k]
    exact two_any e2 (hRa f' e1 _ (Or.inl ⟨k, Or.inl rfl⟩)) (hRa f' e1 _ (Or.inl ⟨k, Or.inr rfl⟩)) (hr f' e1) h.re hob e3 e4 he
  have H2 : Hid (bgn (rst T (beg s)) = 2 → ∀ W, Rd T rb u w0 (beg s) W → Calls Tryz.prog 49 #[.pointer (some ⟨rb, 0, none⟩)] W fun e w' => TellR T rb u W W.heap.size (stpF PR rec T s) e w') := fun k W h => by
    rw [stp_2 k]
    exact number_any h.re hob PR (hPR k)
  have H3 : Hid (bgn (rst T (beg s)) = 3 → ∀ W, Rd T rb u w0 (beg s) W → Calls Tryz.prog 50 #[.pointer (some ⟨rb, 0, none⟩)] W fun e w' => TellR T rb u W W.heap.size (stpF PR rec T s) e w') := fun k W h => by
    obtain ⟨f', e1, e2, e3, e4⟩ := hfr (by omega)
    rw [stp_3 k]
    exact word_any e2 (fun e => hRa f' e1 _ (Or.inr ⟨k, e, rfl⟩)) h.re hob e3 e4 (fun s' o c => ((hr f' e1) s' o c).ok) he
  have HT0 : Hid (bgn (rst T (beg s)) = 0 → ∀ W, RV w.heap.size W .zero (rx 0 0 [] (.slice none 0 0) 0 0 0 (.slice none 0 0)) → Rd T rb u w0 (fl (beg s) 5 (beg s).a) W → TellR T rb u w0 w.heap.size (stpF PR rec T s) (.returned (rx 0 0 [] (.slice none 0 0) 0 0 0 (.slice none 0 0))) W) := fun k W hv hr => tellR_mk (stp_0 k) hv (fun _ => rfl) hr
  have HTx : Hid (∀ t v W, RV w.heap.size W t v → ((stpF PR rec T s).2.e = 0 → t = (stpF PR rec T s).1) → Rd T rb u w0 (stpF PR rec T s).2 W → TellR T rb u w0 w.heap.size (stpF PR rec T s) (.returned v) W) := fun t v W hv ht hr => ⟨t, v, rfl, hv, ht, hr⟩
  obtain ⟨⟨c0, c1, c2, c3⟩, f1, f2, f3⟩ := four_cells hA.at_
  have hB5 : s.n = 512 → bgn (rst T (beg s)) = 0 := fun k => by
    rcases bgn_le (rst T (beg s)) with e | e | e | e
    · exact e
    · exact absurd k (beg_e0 s (bgn_ne (T := T) (s := beg s) (by omega))).2
    · exact absurd k (beg_e0 s (bgn_ne (T := T) (s := beg s) (by omega))).2
    · exact absurd k (beg_e0 s (bgn_ne (T := T) (s := beg s) (by omega))).2
  have hbs5 : s.n = 512 → beg s = ⟨(fl s 3 s.a).a, (fl s 3 s.a).e, 513⟩ ∧ (fl s 3 s.a).n = 512 := fun k => by
    unfold beg
    dsimp only
    rw [if_pos k, fl_n, k]
    exact ⟨rfl, rfl⟩
  have hbsn : s.n ≠ 512 → beg s = ⟨s.a, s.e, s.n + 1⟩ := fun k => by
    unfold beg
    dsimp only
    rw [if_neg k]
  have HA := hid_of hA
  have HH0 := hid_of h
  have HN := hid_of hn1
  have HB := hid_of (bgn_le (rst T (beg s)))
  have sF := store_f
  clear h ho hc he hPR hr hRa hfr hb1 hn1 hob hf
  generalize bgn (rst T (beg s)) = bg at *
  generalize stpF PR rec T s = Q at *
  generalize rst T (beg s) = R at *
  by_cases k5 : s.n = 512
  · obtain rfl := hB5 k5
    obtain ⟨b1, b2⟩ := hbs5 k5
    have kn : ((s.n : Int) == 512) = true := by rw [beq_iff_eq]; omega
    have HF := hid_of (HT0.out rfl)
    have HBS := hid_of b1
    have HFN := hid_of b2
    clear hB5 hbs5 hbsn HT0 HTx H1 H2 H3 HB b1 b2 k5
    go_enter Tryz.func33, Tryz.ntmps33
    go_wp2_with fail
    refine Calls.mono (HF3.out _ _ HA.out) ?_
    rintro e w1 ⟨rfl, hr⟩
    have hz1 := HN.out.ex hr.ex (by omega)
    have hR1 := HA.out.then hr
    obtain ⟨⟨d0, d1, d2, d3⟩, g1, g2, g3⟩ := four_cells hR1.at_
    rw [HFN.out] at d3
    have d3' : w1.cell? ⟨rb, 3, none⟩ = some (.int .i64 512) := d3
    have hR2 := hR1.set3 513
    have HR2 : Hid (Rd T rb u w0 (beg s) (w1.setCell ⟨rb, 3, none⟩ (.int .i64 513))) := by
      show Rd _ _ _ _ _ _
      rw [HBS.out]
      exact hR2
    have HZ2 := hid_of (hz1.ex ((La.Ex.refl rb w1).set 3 (.int .i64 513)) (by omega))
    clear hr hz1 hR1 hR2 d3 HA HN HF3 c0 c1 c2 c3 f1 f2 f3 kn HFN
    go_upto_region 4 with fail
    generalize w1.setCell ⟨rb, 3, none⟩ (.int .i64 513) = W2 at *
    clear d0 d1 d2 d3' g1 g2 g3
    go_wp2_with fail
    refine Calls.mono (HRe.out _ HR2.out) ?_
    rintro e w3 ⟨rfl, m, rfl⟩
    have HR3 := hid_of (HR2.out.below (bel_dn (Below.refl _ _) m))
    have HZ3 := hid_of (HZ2.out.below (bel_dn (Below.refl _ _) m))
    clear HR2 HZ2 HRe
    generalize W2.drewN m = w3 at *
    go_wp2_with fail
    refine Calls.mono (HBg.out _) ?_
    rintro e w4 ⟨rfl, rfl⟩
    have ca := (four_cells HR3.out.at_).1.2.1
    clear HBg
    go_wp2_with fail
    refine Calls.mono (HF5.out _ _ HR3.out) ?_
    rintro e w5 ⟨rfl, hr⟩
    have hR5 := HR3.out.then hr
    have hZ5 := HZ3.out.ex hr.ex (by omega)
    obtain ⟨z0, z1, z2, z3, z4, z5, z6, z7⟩ := eight hZ5
    have zf := eight_f hZ5
    obtain ⟨p1, p2, p3⟩ := put_res hZ5 hR5 (by omega) (by omega) (by omega) (RV.zero _ _)
    have HH := hid_of p1
    have HE := hid_of (HF.out _ p2 p3)
    clear hr hR5 hZ5 p1 p2 p3 HR3 HZ3 HF HF5 ca
    go_wp2_with fail
    refine bodyPost_ret (results_cell_row (P := Tryz.prog) rfl _ _ w.heap.size 26 _ (0, 0) _ rfl HH.out Tryz.underlying26 rfl (by kernel_rfl)) rfl ?_
    exact HE.out
  · have kn : ((s.n : Int) == 512) = false := by rw [beq_eq_false_iff_ne]; omega
    have hbs := hbsn k5
    have hw1 : IntKind.i64.wrap ((s.n : Int) + 1) = ((s.n + 1 : Nat) : Int) := by rw [IntKind.wrap_i64]; omega
    have HR2 : Hid (Rd T rb u w0 (beg s) ((w.setCell ⟨rb, 3, none⟩ (.int .i64 ((s.n + 1 : Nat) : Int))).alloc (.cells (rc 0 0 [] (.slice none 0 0) 0 0 0 (.slice none 0 0)) 26))) := by
      show Rd _ _ _ _ _ _
      rw [hbs]
      exact (HH0.out.set3 (s.n + 1)).below (bel1 _ _)
    have hz2 := new_1 (w.setCell ⟨rb, 3, none⟩ (.int .i64 ((s.n + 1 : Nat) : Int))) (.cells (rc 0 0 [] (.slice none 0 0) 0 0 0 (.slice none 0 0)) 26)
    rw [show (w.setCell ⟨rb, 3, none⟩ (.int .i64 ((s.n + 1 : Nat) : Int))).heap.size = w.heap.size by simp [World.setCell]] at hz2
    have HZ2 : Hid (Z8 w.heap.size ((w.setCell ⟨rb, 3, none⟩ (.int .i64 ((s.n + 1 : Nat) : Int))).alloc (.cells (rc 0 0 [] (.slice none 0 0) 0 0 0 (.slice none 0 0)) 26))) := hz2
    clear hB5 hbs5 hbsn hbs k5 HA HN HF3 HH0 hz2
    generalize hq : s.n + 1 = q at *
    clear hq
    go_enter Tryz.func33, Tryz.ntmps33
    go_upto_region 4 with fail
    generalize hW2 : (w.setCell ⟨rb, 3, none⟩ (.int .i64 (q : Int))).alloc (.cells (rc 0 0 [] (.slice none 0 0) 0 0 0 (.slice none 0 0)) 26) = W2 at *
    clear c0 c1 c2 c3 f1 f2 f3 hW2
    go_wp2_with fail
    refine Calls.mono (HRe.out _ HR2.out) ?_
    rintro e w3 ⟨rfl, m, rfl⟩
    have HR3 := hid_of (HR2.out.below (bel_dn (Below.refl _ _) m))
    have HZ3 := hid_of (HZ2.out.below (bel_dn (Below.refl _ _) m))
    clear HR2 HZ2 HRe
    generalize W2.drewN m = w3 at *
    go_wp2_with fail
    refine Calls.mono (HBg.out _) ?_
    rintro e w4 ⟨rfl, rfl⟩
    clear HBg
    rcases HB.out with rfl | rfl | rfl | rfl
    · have HF := hid_of (HT0.out rfl)
      have ca := (four_cells HR3.out.at_).1.2.1
      clear HB HT0 HTx H1 H2 H3
      go_wp2_with fail
      refine Calls.mono (HF5.out _ _ HR3.out) ?_
      rintro e w5 ⟨rfl, hr⟩
      have hR5 := HR3.out.then hr
      have hZ5 := HZ3.out.ex hr.ex (by omega)
      obtain ⟨z0, z1, z2, z3, z4, z5, z6, z7⟩ := eight hZ5
      have zf := eight_f hZ5
      obtain ⟨p1, p2, p3⟩ := put_res hZ5 hR5 (by omega) (by omega) (by omega) (RV.zero _ _)
      have HH := hid_of p1
      have HE := hid_of (HF.out _ p2 p3)
      clear hr hR5 hZ5 p1 p2 p3 HR3 HZ3 HF HF5 ca
      go_wp2_with fail
      refine bodyPost_ret (results_cell_row (P := Tryz.prog) rfl _ _ w.heap.size 26 _ (0, 0) _ rfl HH.out Tryz.underlying26 rfl (by kernel_rfl)) rfl ?_
      exact HE.out
    · have HC := hid_of (H1.out rfl)
      clear HB HT0 H1 H2 H3 HF5
      go_wp2_with fail
      refine Calls.mono (HC.out _ HR3.out) ?_
      rintro e w5 ⟨t, v, rfl, hv, ht, hr⟩
      have hR5 := HR3.out.then hr
      have hZ5 := HZ3.out.ex hr.ex (by omega)
      have hlt := HZ3.out.lt
      have hv' := hv.mono (B' := w.heap.size + 1) (by omega)
      obtain ⟨k1, x1, nm1, la1, ln1, lc1, wi1, n1, d1, aa1, an1, ac1, rfl⟩ := hv.form
      obtain ⟨z0, z1, z2, z3, z4, z5, z6, z7⟩ := eight hZ5
      have zf := eight_f hZ5
      obtain ⟨p1, p2, p3⟩ := put_res hZ5 hR5 (by omega) (by omega) (by omega) hv'
      have HH := hid_of p1
      have HE := hid_of (HTx.out _ _ _ p2 ht p3)
      clear hr hR5 hZ5 p1 p2 p3 HR3 HZ3 HTx HC hv hv' ht hlt
      go_wp2_with fail
      refine bodyPost_ret (results_cell_row (P := Tryz.prog) rfl _ _ w.heap.size 26 _ (0, 0) _ rfl HH.out Tryz.underlying26 rfl (by kernel_rfl)) rfl ?_
      exact HE.out
    · have HC := hid_of (H2.out rfl)
      clear HB HT0 H1 H2 H3 HF5
      go_wp2_with fail
      refine Calls.mono (HC.out _ HR3.out) ?_
      rintro e w5 ⟨t, v, rfl, hv, ht, hr⟩
      have hR5 := HR3.out.then hr
      have hZ5 := HZ3.out.ex hr.ex (by omega)
      have hlt := HZ3.out.lt
      have hv' := hv.mono (B' := w.heap.size + 1) (by omega)
      obtain ⟨k1, x1, nm1, la1, ln1, lc1, wi1, n1, d1, aa1, an1, ac1, rfl⟩ := hv.form
      obtain ⟨z0, z1, z2, z3, z4, z5, z6, z7⟩ := eight hZ5
      have zf := eight_f hZ5
      obtain ⟨p1, p2, p3⟩ := put_res hZ5 hR5 (by omega) (by omega) (by omega) hv'
      have HH := hid_of p1
      have HE := hid_of (HTx.out _ _ _ p2 ht p3)
      clear hr hR5 hZ5 p1 p2 p3 HR3 HZ3 HTx HC hv hv' ht hlt
      go_wp2_with fail
      refine bodyPost_ret (results_cell_row (P := Tryz.prog) rfl _ _ w.heap.size 26 _ (0, 0) _ rfl HH.out Tryz.underlying26 rfl (by kernel_rfl)) rfl ?_
      exact HE.out
    · have HC := hid_of (H3.out rfl)
      clear HB HT0 H1 H2 H3 HF5
      go_wp2_with fail
      refine Calls.mono (HC.out _ HR3.out) ?_
      rintro e w5 ⟨t, v, rfl, hv, ht, hr⟩
      have hR5 := HR3.out.then hr
      have hZ5 := HZ3.out.ex hr.ex (by omega)
      have hlt := HZ3.out.lt
      have hv' := hv.mono (B' := w.heap.size + 1) (by omega)
      obtain ⟨k1, x1, nm1, la1, ln1, lc1, wi1, n1, d1, aa1, an1, ac1, rfl⟩ := hv.form
      obtain ⟨z0, z1, z2, z3, z4, z5, z6, z7⟩ := eight hZ5
      have zf := eight_f hZ5
      obtain ⟨p1, p2, p3⟩ := put_res hZ5 hR5 (by omega) (by omega) (by omega) hv'
      have HH := hid_of p1
      have HE := hid_of (HTx.out _ _ _ p2 ht p3)
      clear hr hR5 hZ5 p1 p2 p3 HR3 HZ3 HTx HC hv hv' ht hlt
      go_wp2_with fail
      refine bodyPost_ret (results_cell_row (P := Tryz.prog) rfl _ _ w.heap.size 26 _ (0, 0) _ rfl HH.out Tryz.underlying26 rfl (by kernel_rfl)) rfl ?_
      exact HE.out
/-- THE READER'S rule. -/
theorem rule_any {T : List UInt8} {rb : Nat} {u : World} (PR : List UInt8 → Option Nat) (he : Env u) : ∀ f, f ≤ 512 → ∀ s, (∀ z, hitF PR T f s z → PrAt PR u (rowF isNm T z)) → RecAt T rb u f (rulF PR T f) s
  | 0, hf => fun _ hPR _ _ h ho hc => rule_step hf (fun _ k => absurd k (by omega)) (fun _ k => absurd k (by omega)) h ho hc he fun k => hPR _ ⟨k, rfl⟩
  | f + 1, hf => fun _ hPR _ _ h ho hc => rule_step hf (fun f' k => by
      have e : f = f' := by omega
      subst e
      exact rul_ok PR f (by omega)) (fun f' k z hz => by
      have e : f = f' := by omega
      subst e
      exact rule_any PR he f (by omega) z fun y hy => hPR y (Or.inr ⟨z, hz, hy⟩)) h ho hc he fun k => hPR _ (Or.inl ⟨k, rfl⟩)
end Go.Proofs.YtoaaijohmfaphaaGreatDoor.Ru
/- RULES: THE READER: whole, Parse. Own work of the verifier. -/
namespace Go.Proofs.YtoaaijohmfaphaaGreatDoor.Ru
open Go.RowKit Me

def whlF (PR : List UInt8 → Option Nat) (T : List UInt8) (s : St) : RT × St :=
  let q := rulF PR T 512 s
  (q.1, if rst T q.2 = [] then q.2 else fl q.2 5 q.2.a)
theorem cf0 : Cf 512 ⟨0, 0, 0⟩ := ⟨fun _ => ⟨by decide, by decide⟩, fun h => absurd rfl h⟩
set_option maxHeartbeats 2000000 in
theorem whole_any {T : List UInt8} {rb : Nat} {u w0 : World} (PR : List UInt8 → Option Nat) (he : Env u) {s : St} (hPR : ∀ z, hitF PR T 512 s z → PrAt PR u (rowF isNm T z)) {w : World} (h : Rd T rb u w0 s w) (ho : Ok T s) (hc : Cf 512 s) :
    Calls Tryz.prog 20 #[.pointer (some ⟨rb, 0, none⟩)] w fun e w' => TellR T rb u w0 w.heap.size (whlF PR T s) e w' := by
  have hb1 := bel1 w (.cells (rc 0 0 [] (.slice none 0 0) 0 0 0 (.slice none 0 0)) 26)
  have hn1 : Z8 w.heap.size (w.alloc (.cells (rc 0 0 [] (.slice none 0 0) 0 0 0 (.slice none 0 0)) 26)) := new_1 w _
  have HA := hid_of (h.below hb1)
  have HN := hid_of hn1
  have hrb := h.lt
  have hu := h.st.size
  have hw0 := h.ex.size
  have hm := rul_ok (T := T) PR 512 (Nat.le_refl _) s ho hc
  have HR : Hid (∀ W, Rd T rb u w0 s W → Calls Tryz.prog 33 #[.pointer (some ⟨rb, 0, none⟩)] W fun e w' => TellR T rb u W W.heap.size (rulF PR T 512 s) e w') := fun W hr => rule_any PR he 512 (Nat.le_refl _) s hPR W W hr.re ho hc
  have HTx : Hid (∀ t v S W, S = (whlF PR T s).2 → RV w.heap.size W t v → ((rulF PR T 512 s).2.e = 0 → t = (rulF PR T 512 s).1) → Rd T rb u w0 S W → TellR T rb u w0 w.heap.size (whlF PR T s) (.returned v) W) := fun t v S W hS hv ht hr => by
    subst hS
    refine ⟨t, v, rfl, hv, fun e => ht ?_, hr⟩
    unfold whlF at e
    dsimp only at e
    split at e
    · exact e
    · exact fl_e0 _ _ _ e
  have hW2 : (whlF PR T s).2 = if rst T (rulF PR T 512 s).2 = [] then (rulF PR T 512 s).2 else fl (rulF PR T 512 s).2 5 (rulF PR T 512 s).2.a := rfl
  generalize whlF PR T s = Q at *
  generalize rulF PR T 512 s = q at *
  have HRe : Hid (∀ W, Rd T rb u w0 q.2 W → Calls Tryz.prog 34 #[.pointer (some ⟨rb, 0, none⟩)] W fun e w' => e = .returned (.string ⟨(rst T q.2).toArray⟩) ∧ ∃ n, w' = W.drewN n) := fun W h => rest_any h hm.ok
  have HF5 : Hid (∀ a W, Rd T rb u w0 q.2 W → Calls Tryz.prog 35 #[.pointer (some ⟨rb, 0, none⟩), .int .i64 5, .int .i64 ((a : Nat) : Int)] W fun r w' => r = .returned (.tuple #[]) ∧ Rd T rb u W (fl q.2 5 a) w') := fun a W h => fail_any h.re 5 a
  have sF := store_f
  clear h ho hc he hPR hb1 hn1 hm
  generalize rst T q.2 = R at *
  go_enter Tryz.func20, Tryz.ntmps20
  go_wp2_with fail
  generalize w.alloc (.cells (rc 0 0 [] (.slice none 0 0) 0 0 0 (.slice none 0 0)) 26) = W0 at *
  refine Calls.mono (HR.out _ HA.out) ?_
  rintro e w2 ⟨t1, v1, rfl, hv1, ht1, hr⟩
  have hz2 := HN.out.ex hr.ex (by omega)
  have hlt := HN.out.lt
  have hv1' := hv1.mono (B' := w.heap.size + 1) (by omega)
  obtain ⟨k1, x1, nm1, la1, ln1, lc1, wi1, n1, d1, aa1, an1, ac1, rfl⟩ := hv1.form
  have HT1 := hid_of ht1
  have hb := bel1 w2 (.cells (rc k1 x1 nm1 (.slice la1 ln1 lc1) wi1 n1 d1 (.slice aa1 an1 ac1)) 26)
  have HR2 := hid_of ((HA.out.then hr).below hb)
  have hlt2 := hz2.lt
  have HP := hid_of (P1.mk (g1 := w2.heap.size) (hz2.below hb) (hv1'.below hb) (new_1 w2 (.cells (rc k1 x1 nm1 (.slice la1 ln1 lc1) wi1 n1 d1 (.slice aa1 an1 ac1)) 26)))
  clear hv1 hv1' ht1 hr HA HN hb HR hlt hz2
  go_upto_region 2 with fail
  generalize w2.alloc (.cells (rc k1 x1 nm1 (.slice la1 ln1 lc1) wi1 n1 d1 (.slice aa1 an1 ac1)) 26) = W3 at *
  generalize w2.heap.size = g1 at *
  go_wp2_with fail
  refine Calls.mono (HRe.out _ HR2.out) ?_
  rintro e w4 ⟨rfl, m, rfl⟩
  have HR4 := hid_of (HR2.out.below (bel_dn (Below.refl _ _) m))
  have HP4 := hid_of (HP.out.below (bel_dn (Below.refl _ _) m))
  clear HR2 HP HRe
  generalize W3.drewN m = w4 at *
  by_cases k : R = []
  · have hk : (R == []) = true := beq_iff_eq.2 k
    rw [if_pos k] at hW2
    obtain ⟨y0, y1, y2, y3, y4, y5, y6, y7⟩ := eight HP4.out.bx
    obtain ⟨z0, z1, z2, z3, z4, z5, z6, z7⟩ := eight HP4.out.z
    have zf := eight_f HP4.out.z
    obtain ⟨p1, p2, p3⟩ := put_res HP4.out.z HR4.out (by omega) (by omega) (by omega) HP4.out.rv
    have HH := hid_of p1
    have HE := hid_of (HTx.out _ _ _ _ hW2.symm p2 HT1.out p3)
    clear p1 p2 p3 HR4 HP4 HTx HT1 hW2 k HF5
    go_wp2_with fail
    refine bodyPost_ret (results_cell_row (P := Tryz.prog) rfl _ _ w.heap.size 26 _ (0, 0) _ rfl HH.out Tryz.underlying26 rfl (by kernel_rfl)) rfl ?_
    exact HE.out
  · have hk : (R == []) = false := beq_eq_false_iff_ne.2 k
    rw [if_neg k] at hW2
    have ca := (four_cells HR4.out.at_).1.2.1
    have HW2 := hid_of hW2
    clear hW2 k
    go_wp2_with fail
    refine Calls.mono (HF5.out _ _ HR4.out) ?_
    rintro e w5 ⟨rfl, hr⟩
    have hR5 := HR4.out.then hr
    have hP5 := HP4.out.ex hr.ex hrb hlt2
    obtain ⟨y0, y1, y2, y3, y4, y5, y6, y7⟩ := eight hP5.bx
    obtain ⟨z0, z1, z2, z3, z4, z5, z6, z7⟩ := eight hP5.z
    have zf := eight_f hP5.z
    obtain ⟨p1, p2, p3⟩ := put_res hP5.z hR5 (by omega) (by omega) (by omega) hP5.rv
    have HH := hid_of p1
    have HE := hid_of (HTx.out _ _ _ _ HW2.out.symm p2 HT1.out p3)
    clear p1 p2 p3 HR4 HP4 HTx HT1 HW2 HF5 hr hR5 hP5 ca
    go_wp2_with fail
    refine bodyPost_ret (results_cell_row (P := Tryz.prog) rfl _ _ w.heap.size 26 _ (0, 0) _ rfl HH.out Tryz.underlying26 rfl (by kernel_rfl)) rfl ?_
    exact HE.out
theorem results_ctt {P : Program} {fn : Func} {p a b : Tmp} {ty : TypeId} (h : fn.results = #[.cell p ty, .tmp a, .tmp b]) (tmps : Array Value) (w : World) (g : Nat) (t : TypeId) (cs : Array Value) (fr : Nat × Nat) (d : TypeDesc)
    (hp : tmps.getD p undef = .pointer (some ⟨g, 0, none⟩)) (hg : w.heap[g]? = some (.cells cs t fr))
    (hu : P.underlying ty = some d) (hd : (match d with | .struct _ | .array _ _ => true | _ => false) = true) (hi : (P.info? ty).map (·.size) = some cs.size) :
    (results fn tmps).run P w = .ok (.tuple #[.agg cs, tmps.getD a undef, tmps.getD b undef]) w := by
  have hp' : tmps[p]?.getD undef = .pointer (some ⟨g, 0, none⟩) := by simpa using hp
  simp [results, h, hp', asAddr, run_loadVar_row w g t ty cs fr d hg hu hd hi, Result.andThen]
def PsQ (PR : List UInt8 → Option Nat) (ck : RT → Nat) (T : List UInt8) (B : Nat) (e : Ending) (W : World) : Prop :=
  (∃ (z a : Nat), z ≠ 0 ∧ e = .returned (.tuple #[rx 0 0 [] (.slice none 0 0) 0 0 0 (.slice none 0 0), .int .i64 (z : Int), .int .i64 (a : Int)]) ∧ ((65536 < T.length ∧ z = 4 ∧ a = 0) ∨ (T.length ≤ 65536 ∧ z = (whlF PR T ⟨0, 0, 0⟩).2.e ∧ a = (whlF PR T ⟨0, 0, 0⟩).2.a) ∨ (T.length ≤ 65536 ∧ (whlF PR T ⟨0, 0, 0⟩).2.e = 0 ∧ z = ck (whlF PR T ⟨0, 0, 0⟩).1 ∧ a = 0))) ∨
  (T.length ≤ 65536 ∧ (whlF PR T ⟨0, 0, 0⟩).2.e = 0 ∧ ck (whlF PR T ⟨0, 0, 0⟩).1 = 0 ∧ ∃ v, e = .returned (.tuple #[v, .int .i64 0, .int .i64 0]) ∧ RV B W (whlF PR T ⟨0, 0, 0⟩).1 v)
def CkAt (ck : RT → Nat) (u : World) (t : RT) : Prop := ∀ W B v, Below u.heap.size u W → RV B W t v → Calls Tryz.prog 7 #[v] W fun e w' => e = .returned (.int .i64 (ck t : Int)) ∧ Below W.heap.size W w'
end Go.Proofs.YtoaaijohmfaphaaGreatDoor.Ru
/- RULES: WHAT IS WRITTEN IS READ AGAIN: rows, words, numbers. Own work of the verifier. -/
namespace Go.Proofs.YtoaaijohmfaphaaGreatDoor.Ru
open Go.RowKit Me

/-- The reader stands ahead of a text, nothing was wrong. -/
structure At (T : List UInt8) (s : St) (X : List UInt8) : Prop where
  e : s.e = 0
  r : T.drop s.a = X
theorem At.rst {T : List UInt8} {s : St} {X : List UInt8} (h : At T s X) : rst T s = X := by unfold Ru.rst; rw [if_pos h.e, h.r]
theorem At.ps {T : List UInt8} {s : St} {A R : List UInt8} (h : At T s (A ++ R)) : At T (ps s A.length) R := by
  unfold Ru.ps
  rw [if_pos h.e]
  refine ⟨h.e, ?_⟩
  show T.drop (s.a + A.length) = R
  rw [← List.drop_drop, h.r, List.drop_left]
theorem At.mst1 {T : List UInt8} {s : St} {c : UInt8} {R : List UInt8} (h : At T s (c :: R)) : At T (mst1 T s c) R := by
  unfold Ru.mst1
  have hp : La.preB (Ru.rst T s) [c] = true := by rw [h.rst]; unfold La.preB; simp
  rw [if_pos hp]
  exact At.ps (A := [c]) h
theorem At.mst {T : List UInt8} : ∀ (l : List UInt8) {s : St} {R : List UInt8}, At T s (l ++ R) → At T (mst T l s) R
  | [], _, _, h => h
  | c :: l, s, R, h => At.mst l (s := Ru.mst1 T s c) (At.mst1 (R := l ++ R) h)
/-- A row of bytes of a sort ends here. -/
def Stp (p : UInt8 → Bool) (R : List UInt8) : Prop := ∀ c r, R = c :: r → p c = false
theorem take_stop {p : UInt8 → Bool} {R : List UInt8} (hR : Stp p R) : ∀ A : List UInt8, (∀ b ∈ A, p b = true) → (A ++ R).takeWhile p = A
  | [], _ => by
    cases R with
    | nil => rfl
    | cons c r => rw [List.nil_append, List.takeWhile_cons, hR c r rfl]; rfl
  | a :: A, h => by
    rw [List.cons_append, List.takeWhile_cons, h a List.mem_cons_self]
    simp only [if_true]
    rw [take_stop hR A fun b hb => h b (List.mem_cons_of_mem _ hb)]
theorem At.row {T : List UInt8} {s : St} {A R : List UInt8} {p : UInt8 → Bool} (h : At T s (A ++ R)) (hA : ∀ b ∈ A, p b = true) (hR : Stp p R) : rowF p T s = A := by
  unfold rowF
  rw [h.rst]
  exact take_stop hR A hA
theorem At.nam {T : List UInt8} {s : St} {A R : List UInt8} {p : UInt8 → Bool} {sh : List Nat} {i : Nat} (h : At T s (A ++ R)) (hA : ∀ b ∈ A, p b = true) (hR : Stp p R) (hi : fndK sh A = some i) : namF p sh T s = (i, Ru.ps s A.length) := by
  unfold namF
  rw [h.row hA hR, hi]
theorem dgt_one {u : Nat} (h : u < 10) : isDg (UInt8.ofNat (48 + u)) = true ∧ (UInt8.ofNat (48 + u)).toNat = 48 + u := by
  have h1 : (UInt8.ofNat (48 + u)).toNat = 48 + u := by rw [UInt8.toNat_ofNat']; omega
  refine ⟨?_, h1⟩
  unfold isDg
  rw [h1, decide_eq_true (by omega), decide_eq_true (by omega)]
  rfl
theorem ddec_big {u : Nat} (h : ¬ u < 10) : Lib.decDigits u = Lib.decDigits (u / 10) ++ [UInt8.ofNat (48 + u % 10)] := by rw [Lib.decDigits, dif_neg h]
theorem dec_dg (u : Nat) : ∀ b ∈ Lib.decDigits u, isDg b = true := by
  induction u using Nat.strongRecOn with
  | _ u ih =>
    intro b hb
    by_cases k : u < 10
    · rw [Lib.decDigits_one k] at hb
      rw [List.mem_singleton.1 hb]
      exact (dgt_one k).1
    · rw [ddec_big k] at hb
      rcases List.mem_append.1 hb with q | q
      · exact ih _ (by omega) b q
      · rw [List.mem_singleton.1 q]
        exact (dgt_one (by omega)).1
theorem val_dec (u : Nat) : valD (Lib.decDigits u) = u := by
  induction u using Nat.strongRecOn with
  | _ u ih =>
    by_cases k : u < 10
    · rw [Lib.decDigits_one k]
      unfold valD
      simp only [List.foldl_cons, List.foldl_nil]
      rw [(dgt_one k).2]
      omega
    · rw [ddec_big k]
      unfold valD
      rw [List.foldl_append]
      have := ih (u / 10) (by omega)
      unfold valD at this
      rw [this]
      simp only [List.foldl_cons, List.foldl_nil]
      rw [(dgt_one (by omega : u % 10 < 10)).2]
      omega
theorem dec_ne (u : Nat) : Lib.decDigits u ≠ [] := fun h => by
  have h1 := Lib.decDigits_length u
  have h2 := Lib.nDigits_pos u
  rw [h] at h1
  simp at h1
  omega
theorem decN_dec {u : Nat} (h : u < 9223372036854775808) : decN (Lib.decDigits u) = some u := by
  unfold decN
  rw [val_dec, if_pos ⟨dec_ne u, h, Lib.itoa_nonneg u⟩]
/-- A whole number that was written is read. -/
theorem At.cnt {T : List UInt8} {s : St} {n : Int} {R : List UInt8} (h : At T s (Lib.itoa n ++ R)) (h0 : 0 ≤ n) (h1 : n ≤ 9223372036854775807) (hR : Stp isDg R) : ((cntF T s).1 : Int) = n ∧ At T (cntF T s).2 R := by
  obtain ⟨u, rfl⟩ := Int.eq_ofNat_of_zero_le h0
  rw [Lib.itoa_nonneg] at h
  have hr := h.row (dec_dg u) hR
  have e : cntF T s = (u, Ru.ps s (Lib.decDigits u).length) := by
    unfold cntF
    rw [hr, decN_dec (by omega)]
  rw [e]
  exact ⟨rfl, h.ps⟩
theorem stp_one {p : UInt8 → Bool} {c : UInt8} {r : List UInt8} (h : p c = false) : Stp p (c :: r) := fun c' r' e => by
  obtain ⟨rfl, rfl⟩ := List.cons.inj e
  exact h
/-- A share that was written is read. -/
theorem At.shr {T : List UInt8} {s : St} {n d : Int} {R : List UInt8} (h : At T s (Lib.itoa n ++ ([47] ++ (Lib.itoa d ++ ([44, 32] ++ R))))) (hs : shrB n d = true) (hd : d ≤ 9223372036854775807) : ((shrF T s).1 : Int) = n ∧ ((shrF T s).2.1 : Int) = d ∧ At T (shrF T s).2.2 R := by
  have hs' := hs
  unfold shrB at hs'
  simp only [Bool.and_eq_true, decide_eq_true_eq] at hs'
  obtain ⟨⟨g1, g2⟩, g3⟩ := hs'
  obtain ⟨a1, a2⟩ := h.cnt g2 (by omega) (stp_one (by decide))
  have a3 := At.mst [47] a2
  obtain ⟨b1, b2⟩ := a3.cnt (by omega) hd (stp_one (by decide))
  unfold shrF
  dsimp only
  rw [a1, b1, if_pos hs]
  exact ⟨rfl, rfl, At.mst [44, 32] b2⟩
/-- A window that was written is read. -/
theorem At.win {T : List UInt8} {s : St} {w : Int} {R : List UInt8} (h : At T s (Lib.itoa w ++ ([41] ++ R))) (hw : winB w = true) : ((winF T s).1 : Int) = w ∧ At T (winF T s).2 ([41] ++ R) := by
  have hw' := hw
  unfold winB at hw'
  simp only [Bool.and_eq_true, decide_eq_true_eq] at hw'
  obtain ⟨a1, a2⟩ := h.cnt (by omega) (by omega) (stp_one (by decide))
  unfold winF
  dsimp only
  rw [a1, if_pos hw]
  exact ⟨rfl, a2⟩
/-- A row of bytes that the walk to a series' end passes, from without to without quotes and the like. -/
inductive Thr : Bool → List UInt8 → Bool → Prop
  | nil (q : Bool) : Thr q [] q
  | quo {q q' : Bool} {c : UInt8} {X : List UInt8} (hc : c.toNat = 34) (h : Thr (!q) X q') : Thr q (c :: X) q'
  | esc {q' : Bool} {c d : UInt8} {X : List UInt8} (hc : c.toNat = 92) (h : Thr true X q') : Thr true (c :: d :: X) q'
  | one {q q' : Bool} {c : UInt8} {X : List UInt8} (h1 : c.toNat ≠ 34) (h2 : q = true → c.toNat ≠ 92) (h3 : q = false → c.toNat ≠ 44) (h : Thr q X q') : Thr q (c :: X) q'
  | com {q' : Bool} {c d : UInt8} {X : List UInt8} (hc : c.toNat = 44) (hd : d.toNat ≠ 32) (h : Thr false (d :: X) q') : Thr false (c :: d :: X) q'
theorem Thr.app {q q1 q' : Bool} {X Y : List UInt8} (h : Thr q X q1) (k : Thr q1 Y q') : Thr q (X ++ Y) q' := by
  induction h with
  | nil q => exact k
  | quo hc _ ih => exact .quo hc (ih k)
  | esc hc _ ih => exact .esc hc (ih k)
  | one h1 h2 h3 _ ih => exact .one h1 h2 h3 (ih k)
  | com hc hd _ ih => exact .com hc hd (ih k)
theorem get_of_drop {l : List UInt8} {i : Nat} {c : UInt8} {Z : List UInt8} (h : l.drop i = c :: Z) : i < l.length ∧ l.getD i 0 = c ∧ l.drop (i + 1) = Z := by
  have hi : i < l.length := by
    by_cases k : i < l.length
    · exact k
    · rw [List.drop_eq_nil_of_le (by omega)] at h; cases h
  have h2 := List.drop_eq_getElem_cons hi
  rw [h2] at h
  obtain ⟨h3, h4⟩ := List.cons.inj h
  exact ⟨hi, by rw [List.getD, List.getElem?_eq_getElem hi]; exact h3, h4⟩
theorem Thr.walk {l : List UInt8} {q q' : Bool} {X : List UInt8} (h : Thr q X q') : ∀ (f i : Nat) (Y : List UInt8), l.drop i = X ++ Y → X.length ≤ f → ∃ f', f ≤ f' + X.length ∧ f' ≤ f ∧ sLf l f q i = sLf l f' q' (i + X.length) := by
  induction h with
  | nil q => exact fun f i Y _ _ => ⟨f, by simp, Nat.le_refl _, rfl⟩
  | @quo q q' c X hc _ ih =>
    intro f i Y hd hf
    obtain ⟨hi, hg, hd'⟩ := get_of_drop hd
    obtain ⟨f, rfl⟩ : ∃ g, f = g + 1 := ⟨f - 1, by simp at hf; omega⟩
    obtain ⟨f', k1, k2, k3⟩ := ih f (i + 1) Y hd' (by simpa using hf)
    refine ⟨f', by rw [List.length_cons]; omega, by omega, ?_⟩
    rw [List.length_cons, show i + (X.length + 1) = i + 1 + X.length from by omega, ← k3, sLf, if_pos hi, hg, if_pos hc]
  | @esc q' c d X hc _ ih =>
    intro f i Y hd hf
    obtain ⟨hi, hg, hd'⟩ := get_of_drop hd
    obtain ⟨-, -, hd''⟩ := get_of_drop (l := l) (i := i + 1) (c := d) (Z := X ++ Y) hd'
    obtain ⟨f, rfl⟩ : ∃ g, f = g + 1 := ⟨f - 1, by simp at hf; omega⟩
    obtain ⟨f', k1, k2, k3⟩ := ih f (i + 2) Y hd'' (by simp at hf; omega)
    refine ⟨f', by rw [List.length_cons, List.length_cons]; omega, by omega, ?_⟩
    rw [List.length_cons, List.length_cons, show i + (X.length + 1 + 1) = i + 2 + X.length from by omega, ← k3, sLf, if_pos hi, hg, if_neg (by omega), if_pos (by simp [hc])]
  | @one q q' c X h1 h2 h3 _ ih =>
    intro f i Y hd hf
    obtain ⟨hi, hg, hd'⟩ := get_of_drop hd
    obtain ⟨f, rfl⟩ : ∃ g, f = g + 1 := ⟨f - 1, by simp at hf; omega⟩
    obtain ⟨f', k1, k2, k3⟩ := ih f (i + 1) Y hd' (by simpa using hf)
    refine ⟨f', by rw [List.length_cons]; omega, by omega, ?_⟩
    have n2 : ¬ (q && decide (c.toNat = 92)) = true := by
      cases q
      · simp
      · simpa using h2 rfl
    have n3 : ¬ (!q && La.preB (l.drop i) [44, 32]) = true := by
      cases q
      · rw [hd]
        unfold La.preB
        simp only [Bool.not_false, Bool.true_and, Bool.and_eq_true, List.length_cons, List.length_nil]
        rintro ⟨-, k⟩
        have k' := eq_of_beq k
        have := h3 rfl
        rw [List.cons_append, List.take_succ_cons] at k'
        have := (List.cons.inj k').1
        subst this
        exact absurd rfl (h3 rfl)
      · simp
    rw [List.length_cons, show i + (X.length + 1) = i + 1 + X.length from by omega, ← k3, sLf, if_pos hi, hg, if_neg h1, if_neg n2, if_neg n3]
  | @com q' c d X hc hd0 _ ih =>
    intro f i Y hd hf
    obtain ⟨hi, hg, hd'⟩ := get_of_drop hd
    obtain ⟨f, rfl⟩ : ∃ g, f = g + 1 := ⟨f - 1, by simp at hf; omega⟩
    obtain ⟨f', k1, k2, k3⟩ := ih f (i + 1) Y hd' (by simpa using hf)
    refine ⟨f', by rw [List.length_cons]; omega, by omega, ?_⟩
    have n3 : ¬ (!false && La.preB (l.drop i) [44, 32]) = true := by
      rw [hd]
      unfold La.preB
      simp only [Bool.not_false, Bool.true_and, Bool.and_eq_true, List.length_cons, List.length_nil]
      rintro ⟨-, k⟩
      have k' := eq_of_beq k
      rw [List.cons_append, List.cons_append, List.take_succ_cons, List.take_succ_cons] at k'
      have := (List.cons.inj (List.cons.inj k').2).1
      subst this
      exact absurd rfl hd0
    rw [List.length_cons, show i + ((d :: X).length + 1) = i + 1 + (d :: X).length from by omega, ← k3, sLf, if_pos hi, hg, if_neg (by omega), if_neg (by simp), if_neg n3]
/-- A text that is passed ends where a comma and a blank stand. -/
theorem len_of_thr {X Y : List UInt8} (h : Thr false X false) : sLen (X ++ ([44, 32] ++ Y)) = X.length := by
  unfold sLen
  obtain ⟨f', k1, k2, k3⟩ := h.walk (l := X ++ ([44, 32] ++ Y)) ((X ++ ([44, 32] ++ Y)).length + 1) 0 ([44, 32] ++ Y) rfl (by simp only [List.length_append]; omega)
  rw [k3, Nat.zero_add]
  obtain ⟨g, rfl⟩ : ∃ g, f' = g + 1 := ⟨f' - 1, by simp only [List.length_append, List.length_cons] at k1; omega⟩
  have hd : (X ++ ([44, 32] ++ Y)).drop X.length = 44 :: (32 :: Y) := by rw [List.drop_left]; rfl
  obtain ⟨hi, hg, -⟩ := get_of_drop hd
  rw [sLf, if_pos hi, hg, if_neg (by decide), if_neg (by simp), hd, if_pos (by unfold La.preB; simp)]
/-- Bytes of names. -/
theorem thr_plain : ∀ A : List UInt8, (∀ b ∈ A, b.toNat ≠ 34 ∧ b.toNat ≠ 44) → Thr false A false
  | [], _ => .nil _
  | a :: A, h => .one (h a List.mem_cons_self).1 (fun k => by cases k) (fun _ => (h a List.mem_cons_self).2) (thr_plain A fun b hb => h b (List.mem_cons_of_mem _ hb))
theorem thr_esc : ∀ v : List UInt8, Thr true (La.escL true v) true
  | [] => .nil _
  | b :: r => by
    rw [La.escL]
    refine Thr.app ?_ (thr_esc r)
    unfold La.esc1
    split
    · exact .esc rfl (.nil _)
    · rename_i h
      split
      · exact .esc rfl (.nil _)
      · exact .one (fun k => h (Or.inr ⟨rfl, k⟩)) (fun _ k => h (Or.inl k)) (fun k => by cases k) (.nil _)
theorem gd_bytes {c : Bool} {b : UInt8} (h : La.gd c b.toNat = true) : b.toNat ≠ 34 ∧ b.toNat ≠ 44 ∧ b.toNat ≠ 32 := by
  unfold La.gd La.isL at h
  rw [Bool.or_eq_true, Bool.and_eq_true, decide_eq_true_eq, decide_eq_true_eq] at h
  omega
theorem rowN_all {c : Bool} : ∀ l : List UInt8, La.rowN c l = l.length → ∀ b ∈ l, La.gd c b.toNat = true
  | [], _, b, hb => by cases hb
  | a :: l, h, b, hb => by
    unfold La.rowN at h
    split at h
    · rename_i k
      rcases List.mem_cons.1 hb with rfl | hb
      · exact k
      · exact rowN_all l (by rw [List.length_cons] at h; omega) b hb
    · rw [List.length_cons] at h; omega
theorem plain_all {c : Bool} {l : List UInt8} (h : La.plainB c l = true) : l ≠ [] ∧ ∀ b ∈ l, La.gd c b.toNat = true := by
  unfold La.plainB at h
  simp only [Bool.and_eq_true, decide_eq_true_eq] at h
  exact ⟨fun k => by subst k; simp at h, rowN_all l h.1.2⟩
theorem thr_lb {a : La.Lb} (h : La.lnameB a.1 = true) : Thr false (La.lbT a) false ∧ ∃ d X, La.lbT a = d :: X ∧ d.toNat ≠ 32 := by
  unfold La.lnameB at h
  simp only [Bool.and_eq_true] at h
  obtain ⟨h1, h2⟩ := plain_all h.1.1.1
  unfold La.lbT
  refine ⟨?_, ?_⟩
  · refine Thr.app (Thr.app (Thr.app (thr_plain _ fun b hb => ⟨(gd_bytes (h2 b hb)).1, (gd_bytes (h2 b hb)).2.1⟩) (q1 := false) ?_) (q1 := true) (thr_esc a.2)) ?_
    · exact .one (by decide) (fun k => by cases k) (fun _ => by decide) (.quo rfl (.nil _))
    · exact .quo rfl (.nil _)
  · obtain ⟨d, X, e⟩ : ∃ d X, a.1 = d :: X := by
      cases he : a.1 with
      | nil => exact absurd he h1
      | cons d X => exact ⟨d, X, rfl⟩
    rw [e]
    exact ⟨d, _, rfl, (gd_bytes (h2 d (by rw [e]; exact List.mem_cons_self))).2.2⟩
theorem chk_lname : ∀ (L : List La.Lb) (p : Option (List UInt8)), La.chkL L p = 0 → ∀ a ∈ L, La.lnameB a.1 = true
  | [], _, _, a, ha => by cases ha
  | b :: r, p, h, a, ha => by
    have h1 : La.lnameB b.1 = true ∧ ∃ q, La.chkL r q = 0 := by
      unfold La.chkL at h
      by_cases k : La.lnameB b.1 = false
      · rw [if_pos k] at h; exact absurd h (by decide)
      · rw [if_neg k] at h
        by_cases k2 : La.txE b.2 ≠ 0
        · rw [if_pos k2] at h; exact absurd h k2
        · rw [if_neg k2] at h
          refine ⟨by simpa using k, ?_⟩
          cases p with
          | none => exact ⟨_, h⟩
          | some q =>
            dsimp only at h
            split at h
            · rename_i k3; exact absurd h k3
            · exact ⟨_, h⟩
    rcases List.mem_cons.1 ha with rfl | ha
    · exact h1.1
    · exact chk_lname r h1.2.choose h1.2.choose_spec a ha
theorem thr_labels : ∀ (L : List La.Lb) (f : Bool), (∀ a ∈ L, La.lnameB a.1 = true) → Thr false (La.prB f L) false
  | [], _, _ => by rw [La.prB]; exact .nil _
  | a :: r, f, h => by
    obtain ⟨h1, d, X, e, hd⟩ := thr_lb (h a List.mem_cons_self)
    have h2 := thr_labels r false fun b hb => h b (List.mem_cons_of_mem _ hb)
    rw [La.prB]
    cases f
    · have h3 := h1.app h2
      rw [e] at h3 ⊢
      exact .com rfl hd h3
    · exact .one (by decide) (fun k => by cases k) (fun _ => by decide) (h1.app h2)
theorem thr_print {nm : List UInt8} {lb : List La.Lb} (h1 : La.nameB nm = true) (h3 : La.chkL lb none = 0) : Thr false (La.printT nm lb) false := by
  unfold La.nameB at h1
  simp only [Bool.and_eq_true] at h1
  obtain ⟨-, h2⟩ := plain_all h1.1.1.1
  unfold La.printT
  refine Thr.app (Thr.app (thr_plain _ fun b hb => ⟨(gd_bytes (h2 b hb)).1, (gd_bytes (h2 b hb)).2.1⟩) (thr_labels lb true (chk_lname lb none h3))) ?_
  split
  · exact .nil _
  · exact .one (by decide) (fun k => by cases k) (fun _ => by decide) (.nil _)
/-- A series that was written is read. -/
theorem At.ser {T : List UInt8} {s : St} {nm : List UInt8} {lb : List La.Lb} {R : List UInt8} (h : At T s (La.printT nm lb ++ ([44, 32] ++ R))) (hk : La.chkD ⟨1, nm, [], lb⟩ = 0) : (serF T s).1 = nm ∧ (serF T s).2.1 = lb ∧ At T (serF T s).2.2 R := by
  unfold La.chkD at hk
  dsimp only at hk
  rw [if_neg (by decide)] at hk
  split at hk
  · exact absurd hk (by decide)
  rename_i k
  split at hk
  · rename_i k2; exact absurd hk k2
  split at hk
  · exact absurd hk (by decide)
  rename_i k3
  have hn : La.nameB nm = true := by simpa using k
  have hp := La.par_print nm lb hn (by omega) hk
  have hl := len_of_thr (Y := R) (thr_print hn hk)
  unfold serF
  dsimp only
  rw [h.rst, hl, List.take_left, hp]
  exact ⟨rfl, rfl, At.mst [44, 32] h.ps⟩
end Go.Proofs.YtoaaijohmfaphaaGreatDoor.Ru
