/- RULES: THE READER: digits, count, share, window. Own work of the verifier. -/
import Derived.Test.YtmmkboldkaehgaaGreatDoorSAJ
import Derived.Test.YtmmkboldkaehgaaGreatDoorSAP
namespace Go.Proofs.YtmmkboldkaehgaaGreatDoor.Ru
open Go.RowKit Go.Sort Me

theorem bel_grow (w : World) (k : Nat) (os : Array Obj) : Below w.heap.size w (grow (w.drewN k) os) := by
  refine (bel_dn (Below.refl _ _) k).trans ⟨rfl, rfl, rfl, by simp [grow], fun i hi => ?_⟩
  have e : (w.drewN k).heap = w.heap := by
    clear hi
    induction k with
    | zero => rfl
    | succ k ih => exact ih
  show ((w.drewN k).heap ++ os)[i]? = _
  rw [e]
  exact Array.getElem?_append_left hi
/-- What is read of the package's and the library's variables. -/
structure Env (W : World) : Prop where
  kd : Kd W
  er : Errs W
  gl : Rl.Glob2 W
theorem Env.below {W W1 : World} (h : Env W) (hb : Below W.heap.size W W1) : Env W1 := ⟨h.kd.below hb, h.er.below hb, h.gl.below hb⟩
theorem dig_any (n : Int) (h0 : -9223372036854775808 ≤ n) (h1 : n ≤ 9223372036854775807) (w : World) (he : Env w) :
    Calls Tryz.prog 50 #[.int .i64 n] w fun e w' => e = .returned (.string ⟨(Lib.itoa n).toArray⟩) ∧ Below w.heap.size w w' := by
  have HF : La.HidC _ _ _ _ _ := Tryz.strconv_FormatInt_10 n h0 h1 w he.gl.glob.tab
  clear h0 h1 he
  go_enter Tryz.func50, Tryz.ntmps50
  go_wp2_with fail
  refine (HF.out).mono ?_
  rintro e w1 ⟨rfl, k, os, rfl⟩
  have HB := hid_of (bel_grow w k os)
  generalize grow (w.drewN k) os = w1 at *
  go_wp2_with fail
  go_ret
  exact ⟨rfl, HB.out⟩
/-- What a number tells that is right where nothing is wrong. -/
def CtQ (T : List UInt8) (rb : Nat) (u w0 : World) (s : St) (e : Ending) (W : World) : Prop := ∃ z : Int, e = .returned (.int .i64 z) ∧ (0 ≤ z ∧ z < 9223372036854775808) ∧ ((cntF T s).2.e = 0 → z = ((cntF T s).1 : Int)) ∧ Rd T rb u w0 (cntF T s).2 W
theorem all_while (p : UInt8 → Bool) (l : List UInt8) : ∀ c ∈ l.takeWhile p, p c = true := by
  induction l with
  | nil => intro c hc; cases hc
  | cons a l ih =>
    intro c hc
    rw [List.takeWhile_cons] at hc
    by_cases k : p a = true
    · rw [if_pos k] at hc
      rcases List.mem_cons.1 hc with rfl | hc
      · exact k
      · exact ih c hc
    · rw [if_neg k] at hc; cases hc
set_option maxHeartbeats 2000000 in
set_option maxRecDepth 100000 in
theorem count_any {T : List UInt8} {rb : Nat} {u w0 : World} {s : St} {w : World} (h : Rd T rb u w0 s w) (ho : Ok T s) (he : Env u) :
    Calls Tryz.prog 83 #[.pointer (some ⟨rb, 0, none⟩)] w fun e w' => CtQ T rb u w0 s e w' := by
  have HRow : La.HidC _ _ _ _ _ := row_any h ho 56 isDg tells_dg
  have hrl := rowF_le isDg T s
  have hrT := rst_le T s
  have hT := ho.t
  have hda : ∀ c ∈ rowF isDg T s, isDg c = true := all_while isDg _
  have hl : (rowF isDg T s).length ≤ 65536 := by omega
  have HPI : Hid (∀ W, Rd T rb u w0 s W → Calls Tryz.prog 102 #[.string ⟨(rowF isDg T s).toArray⟩, .int .i64 10, .int .i64 64] W fun e w' => PiQ (rowF isDg T s) e ∧ Below W.heap.size W w') := fun W h => pint_any _ hda hl W (he.er.below h.st)
  have HD : Hid (∀ n W, Rd T rb u w0 s W → n < 9223372036854775808 → Calls Tryz.prog 50 #[.int .i64 ((n : Nat) : Int)] W fun e w' => e = .returned (.string ⟨(Lib.itoa (n : Int)).toArray⟩) ∧ Below W.heap.size W w') := fun n W h hn => dig_any _ (by omega) (by omega) W (he.below h.st)
  have HPs : Hid (∀ s' W, Rd T rb u w0 s' W → Ok T s' → Calls Tryz.prog 64 #[.pointer (some ⟨rb, 0, none⟩), .int .i64 ((rowF isDg T s).length : Int)] W fun r w' => r = .returned (.tuple #[]) ∧ Rd T rb u w0 (ps s' (rowF isDg T s).length) w') := fun s' W h ho => pass_any h ho _ hl
  have HFl : Hid (∀ W, Rd T rb u w0 s W → Calls Tryz.prog 31 #[.pointer (some ⟨rb, 0, none⟩), .int .i64 5, .int .i64 (s.a : Int)] W fun r w' => r = .returned (.tuple #[]) ∧ Rd T rb u w0 (fl s 5 s.a) w') := fun W h => fail_any h 5 s.a
  have HOk := hid_of ho
  have HOf : Hid (Ok T (fl s 5 s.a)) := ho.fl (fun _ => ho.a)
  have HY : Hid (∀ n, decN (rowF isDg T s) = some n → n < 9223372036854775808 → ∀ W, Rd T rb u w0 (ps s (rowF isDg T s).length) W → CtQ T rb u w0 s (.returned (.int .i64 (n : Int))) W) := fun n hn hb W hr => by
    unfold CtQ cntF
    rw [hn]
    exact ⟨_, rfl, ⟨by omega, by omega⟩, fun _ => rfl, hr⟩
  have HN : Hid (decN (rowF isDg T s) = none → ∀ z : Int, 0 ≤ z → z < 9223372036854775808 → ∀ W, Rd T rb u w0 (ps (fl s 5 s.a) (rowF isDg T s).length) W → CtQ T rb u w0 s (.returned (.int .i64 z)) W) := fun hn z z0 z1 W hr => by
    rw [ps_err (fl_e _ _ _ (by decide))] at hr
    unfold CtQ cntF
    rw [hn]
    exact ⟨_, rfl, ⟨z0, z1⟩, fun h => absurd h (fl_e _ _ _ (by decide)), hr⟩
  obtain ⟨r, hr⟩ : ∃ r, r = rowF isDg T s := ⟨_, rfl⟩
  rw [← hr] at HRow HPI HPs HY HN hl
  have HRn : Hid (∀ n, Rd T rb u w0 s (w.drewN n)) := fun n => h.below (bel_dn (Below.refl _ _) n)
  have hl' : (r.length : Int) ≤ 65536 := by omega
  clear h ho he hrl hrT hT hda hr
  go_enter Tryz.func83, Tryz.ntmps83
  go_wp2_with fail
  refine (HRow.out).mono ?_
  rintro e w1 ⟨rfl, m, rfl⟩
  have HR1 := hid_of (HRn.out m)
  clear HRn HRow
  generalize w.drewN m = w1 at *
  go_wp2_with fail
  refine Calls.mono (HPI.out w1 HR1.out) ?_
  rintro e w2 ⟨hq, hb2⟩
  have HR2 := hid_of (HR1.out.below hb2)
  clear HR1 HPI hb2
  rcases hq with ⟨h0, hv, rfl⟩ | ⟨hv, z, t, x, z0, z1, rfl⟩
  · by_cases hi : Lib.itoa (valD r : Int) = r
    · have hi' : (Lib.itoa (valD r : Int) == r) = true := beq_iff_eq.2 hi
      have HF := hid_of (HY.out (valD r) (by unfold decN; rw [if_pos ⟨h0, hv, hi⟩]) hv)
      have D : La.HidC _ _ _ _ _ := HD.out (valD r) w2 HR2.out hv
      clear HY HN h0 hv HFl HOf HD hi
      generalize Lib.itoa (valD r : Int) = I at *
      generalize valD r = v at *
      as_aux_lemma =>
        go_wp2_with fail
        refine (D.out).mono ?_
        rintro e w3 ⟨rfl, hb3⟩
        have HR3 := hid_of (HR2.out.below hb3)
        clear D HR2 hb3
        go_wp2_with fail
        refine Calls.mono (HPs.out _ w3 HR3.out HOk.out) ?_
        rintro e w4 ⟨rfl, hr4⟩
        have HF4 := hid_of (HF.out w4 hr4)
        clear HF hr4
        go_wp2_with fail
        go_ret
        exact HF4.out
    · have hi' : (Lib.itoa (valD r : Int) == r) = false := beq_eq_false_iff_ne.2 hi
      have HF := hid_of (HN.out (by unfold decN; rw [if_neg (fun k => hi k.2.2)]) (valD r) (by omega) (by omega))
      have D : La.HidC _ _ _ _ _ := HD.out (valD r) w2 HR2.out hv
      clear HY HN h0 hv HOk HD hi
      generalize Lib.itoa (valD r : Int) = I at *
      generalize valD r = v at *
      as_aux_lemma =>
        go_wp2_with fail
        refine (D.out).mono ?_
        rintro e w3 ⟨rfl, hb3⟩
        have HR3 := hid_of (HR2.out.below hb3)
        have ca := (four_cells HR3.out.at_).1.2.1
        clear D HR2 hb3
        go_wp2_with fail
        refine Calls.mono (HFl.out w3 HR3.out) ?_
        rintro e w4 ⟨rfl, hr4⟩
        have HR4 := hid_of hr4
        clear hr4 ca HR3
        go_wp2_with fail
        refine Calls.mono (HPs.out _ w4 HR4.out HOf.out) ?_
        rintro e w5 ⟨rfl, hr5⟩
        have HF5 := hid_of (HF.out w5 hr5)
        clear HF hr5
        go_wp2_with fail
        go_ret
        exact HF5.out
  · have HF := hid_of (HN.out (by
      unfold decN
      rw [if_neg]
      rintro ⟨k1, k2, -⟩
      rcases hv with hv | hv
      · exact k1 hv
      · omega) z z0 z1)
    have ca := (four_cells HR2.out.at_).1.2.1
    clear HY HN hv HOk HD z0 z1
    as_aux_lemma =>
      go_wp2_with fail
      refine Calls.mono (HFl.out w2 HR2.out) ?_
      rintro e w4 ⟨rfl, hr4⟩
      have HR4 := hid_of hr4
      clear hr4 ca HR2
      go_wp2_with fail
      refine Calls.mono (HPs.out _ w4 HR4.out HOf.out) ?_
      rintro e w5 ⟨rfl, hr5⟩
      have HF5 := hid_of (HF.out w5 hr5)
      clear HF hr5
      go_wp2_with fail
      go_ret
      exact HF5.out
end Go.Proofs.YtmmkboldkaehgaaGreatDoor.Ru
/- RULES: THE READER: share, window. Own work of the verifier. -/
namespace Go.Proofs.YtmmkboldkaehgaaGreatDoor.Ru
open Go.RowKit Me

theorem share_b (n d : Int) (w : World) : Calls Tryz.prog 84 #[.int .i64 n, .int .i64 d] w fun e w' => e = .returned (.bool (shrB n d)) ∧ w' = w := by
  unfold shrB
  by_cases a1 : 1 ≤ d
  · rw [decide_eq_true a1]
    by_cases a2 : 0 ≤ n
    · rw [decide_eq_true a2]
      by_cases a3 : n ≤ d
      · rw [decide_eq_true a3]
        go_enter Tryz.func84, Tryz.ntmps84
        go_wp2_with fail
        go_ret
        exact ⟨rfl, rfl⟩
      · rw [decide_eq_false a3]
        have a3' : decide (n ≤ d) = false := decide_eq_false a3
        clear a3
        go_enter Tryz.func84, Tryz.ntmps84
        go_wp2_with fail
        go_ret
        exact ⟨rfl, rfl⟩
    · rw [decide_eq_false a2]
      have a2' : decide (0 ≤ n) = false := decide_eq_false a2
      clear a2
      go_enter Tryz.func84, Tryz.ntmps84
      go_wp2_with fail
      go_ret
      exact ⟨rfl, rfl⟩
  · rw [decide_eq_false a1]
    have a1' : decide (1 ≤ d) = false := decide_eq_false a1
    clear a1
    go_enter Tryz.func84, Tryz.ntmps84
    go_wp2_with fail
    go_ret
    exact ⟨rfl, rfl⟩
theorem win_b (n : Int) (w : World) : Calls Tryz.prog 87 #[.int .i64 n] w fun e w' => e = .returned (.bool (winB n)) ∧ w' = w := by
  unfold winB
  by_cases a1 : 1 ≤ n
  · rw [decide_eq_true a1]
    by_cases a2 : n ≤ 4611686018427387904
    · rw [decide_eq_true a2]
      go_enter Tryz.func87, Tryz.ntmps87
      go_wp2_with fail
      go_ret
      exact ⟨rfl, rfl⟩
    · rw [decide_eq_false a2]
      have a2' : decide (n ≤ 4611686018427387904) = false := decide_eq_false a2
      clear a2
      go_enter Tryz.func87, Tryz.ntmps87
      go_wp2_with fail
      go_ret
      exact ⟨rfl, rfl⟩
  · rw [decide_eq_false a1]
    have a1' : decide (1 ≤ n) = false := decide_eq_false a1
    clear a1
    go_enter Tryz.func87, Tryz.ntmps87
    go_wp2_with fail
    go_ret
    exact ⟨rfl, rfl⟩
/-- What window tells. -/
def WiQ (T : List UInt8) (rb : Nat) (u w0 : World) (s : St) (e : Ending) (W : World) : Prop := ∃ z : Int, e = .returned (.int .i64 z) ∧ (0 ≤ z ∧ z < 9223372036854775808) ∧ ((winF T s).2.e = 0 → z = ((winF T s).1 : Int)) ∧ Rd T rb u w0 (winF T s).2 W
set_option maxHeartbeats 1000000 in
theorem window_any {T : List UInt8} {rb : Nat} {u w0 : World} {s : St} {w : World} (h : Rd T rb u w0 s w) (ho : Ok T s) (he : Env u) :
    Calls Tryz.prog 67 #[.pointer (some ⟨rb, 0, none⟩)] w fun e w' => WiQ T rb u w0 s e w' := by
  have HC : La.HidC _ _ _ _ _ := count_any h ho he
  have HB : Hid (∀ z W, Calls Tryz.prog 87 #[.int .i64 z] W fun e w' => e = .returned (.bool (winB z)) ∧ w' = W) := win_b
  have HFl : Hid (∀ W, Rd T rb u w0 (cntF T s).2 W → Calls Tryz.prog 31 #[.pointer (some ⟨rb, 0, none⟩), .int .i64 1, .int .i64 (s.a : Int)] W fun r w' => r = .returned (.tuple #[]) ∧ Rd T rb u w0 (fl (cntF T s).2 1 s.a) w') := fun W h => fail_any h 1 s.a
  obtain ⟨⟨c0, c1, c2, c3⟩, -⟩ := four_cells h.at_
  have HW : Hid (∀ (z : Int) W, 0 ≤ z → z < 9223372036854775808 → ((cntF T s).2.e = 0 → z = ((cntF T s).1 : Int)) → Rd T rb u w0 (if winB z then (cntF T s).2 else fl (cntF T s).2 1 s.a) W → WiQ T rb u w0 s (.returned (.int .i64 z)) W) := fun z W z0 z1 hz hr => by
    refine ⟨z, rfl, ⟨z0, z1⟩, ?_, ?_⟩
    · intro h0
      unfold winF at h0
      dsimp only at h0
      refine hz ?_
      split at h0
      · exact h0
      · exact fl_e0 _ _ _ h0
    · unfold winF
      dsimp only
      by_cases k : (cntF T s).2.e = 0
      · rw [← hz k]; exact hr
      · rw [fl_err k] at hr ⊢
        rw [ite_self] at hr ⊢
        exact hr
  clear h ho he
  generalize s.a = a at *
  go_enter Tryz.func67, Tryz.ntmps67
  go_wp2_with fail
  refine (HC.out).mono ?_
  rintro e w1 ⟨z, rfl, ⟨z0, z1⟩, hz, hr⟩
  have HR := hid_of hr
  cases hb : winB z
  · have HF : Hid (∀ W, Rd T rb u w0 (fl (cntF T s).2 1 a) W → WiQ T rb u w0 s (.returned (.int .i64 z)) W) := fun W hr => HW.out z W z0 z1 hz (by rw [hb]; exact hr)
    have HBz : La.HidC _ _ _ _ _ := HB.out z w1
    rw [hb] at HBz
    clear HW hz hr hb HB HC z0 z1
    go_wp2_with fail
    refine (HBz.out).mono ?_
    rintro e w2 ⟨rfl, rfl⟩
    go_wp2_with fail
    refine Calls.mono (HFl.out _ HR.out) ?_
    rintro e w3 ⟨rfl, hr3⟩
    have HF3 := hid_of (HF.out w3 hr3)
    clear hr3 HF
    go_wp2_with fail
    go_ret
    exact HF3.out
  · have HF : Hid (WiQ T rb u w0 s (.returned (.int .i64 z)) w1) := HW.out z w1 z0 z1 hz (by rw [hb]; exact hr)
    have HBz : La.HidC _ _ _ _ _ := HB.out z w1
    rw [hb] at HBz
    clear HW hz hr hb HB HC HFl z0 z1
    go_wp2_with fail
    refine (HBz.out).mono ?_
    rintro e w2 ⟨rfl, rfl⟩
    go_wp2_with fail
    go_ret
    exact HF.out
/-- What share tells. -/
def ShQ (T : List UInt8) (rb : Nat) (u w0 : World) (s : St) (e : Ending) (W : World) : Prop := ∃ x y : Int, e = .returned (.tuple #[.int .i64 x, .int .i64 y]) ∧ ((shrF T s).2.2.e = 0 → x = ((shrF T s).1 : Int) ∧ y = ((shrF T s).2.1 : Int)) ∧ Rd T rb u w0 (shrF T s).2.2 W
set_option maxHeartbeats 1000000 in
theorem share_any {T : List UInt8} {rb : Nat} {u w0 : World} {s : St} {w : World} (h : Rd T rb u w0 s w) (ho : Ok T s) (he : Env u) :
    Calls Tryz.prog 65 #[.pointer (some ⟨rb, 0, none⟩)] w fun e w' => ShQ T rb u w0 s e w' := by
  have HC : La.HidC _ _ _ _ _ := count_any h ho he
  obtain ⟨s1, hs1⟩ : ∃ s1, s1 = mst T [47] (cntF T s).2 := ⟨_, rfl⟩
  have ho1 : Ok T s1 := by rw [hs1]; exact ho.cntF.mst _
  have HM1 : Hid (∀ W, Rd T rb u w0 (cntF T s).2 W → Calls Tryz.prog 58 #[.pointer (some ⟨rb, 0, none⟩), .string ⟨#[47]⟩] W fun e w' => e = .returned (.tuple #[]) ∧ Rd T rb u w0 s1 w') := fun W hr => by rw [hs1]; exact must_any hr ho.cntF [47] (by decide)
  have HC2 : Hid (∀ W, Rd T rb u w0 s1 W → Calls Tryz.prog 83 #[.pointer (some ⟨rb, 0, none⟩)] W fun e w' => CtQ T rb u w0 s1 e w') := fun W hr => count_any hr ho1 he
  have HB : Hid (∀ n d W, Calls Tryz.prog 84 #[.int .i64 n, .int .i64 d] W fun e w' => e = .returned (.bool (shrB n d)) ∧ w' = W) := share_b
  have HFl : Hid (∀ W, Rd T rb u w0 (cntF T s1).2 W → Calls Tryz.prog 31 #[.pointer (some ⟨rb, 0, none⟩), .int .i64 1, .int .i64 (s1.a : Int)] W fun r w' => r = .returned (.tuple #[]) ∧ Rd T rb u w0 (fl (cntF T s1).2 1 s1.a) w') := fun W h => fail_any h 1 s1.a
  have HM2 : Hid (∀ s2 W, Rd T rb u w0 s2 W → Ok T s2 → Calls Tryz.prog 58 #[.pointer (some ⟨rb, 0, none⟩), .string ⟨#[44, 32]⟩] W fun e w' => e = .returned (.tuple #[]) ∧ Rd T rb u w0 (mst T [44, 32] s2) w') := fun s2 W hr ho => must_any hr ho [44, 32] (by decide)
  have HO1 : Hid (Ok T (cntF T s1).2) := ho1.cntF
  have HO2 : Hid (Ok T (fl (cntF T s1).2 1 s1.a)) := ho1.cntF.fl (fun _ => ho1.a)
  have HW : Hid (∀ (x y : Int) W, ((cntF T s).2.e = 0 → x = ((cntF T s).1 : Int)) → ((cntF T s1).2.e = 0 → y = ((cntF T s1).1 : Int)) → Rd T rb u w0 (mst T [44, 32] (if shrB x y then (cntF T s1).2 else fl (cntF T s1).2 1 s1.a)) W → ShQ T rb u w0 s (.returned (.tuple #[.int .i64 x, .int .i64 y])) W) := fun x y W hx hy hr => by
    have e0 : (cntF T s1).2.e = 0 → x = ((cntF T s).1 : Int) ∧ y = ((cntF T s1).1 : Int) := fun k => ⟨hx (mst_e0 _ _ _ (by rw [hs1] at k; exact cntF_e0 _ _ k)), hy k⟩
    refine ⟨x, y, rfl, ?_, ?_⟩
    · intro h0
      unfold shrF at h0 ⊢
      dsimp only at h0 ⊢
      rw [← hs1] at h0 ⊢
      refine e0 ?_
      have h1 := mst_e0 _ _ _ h0
      split at h1
      · exact h1
      · exact fl_e0 _ _ _ h1
    · unfold shrF
      dsimp only
      rw [← hs1]
      by_cases k : (cntF T s1).2.e = 0
      · rw [← (e0 k).1, ← (e0 k).2]; exact hr
      · rw [fl_err k] at hr ⊢
        rw [ite_self] at hr ⊢
        exact hr
  clear h ho he hs1
  go_enter Tryz.func65, Tryz.ntmps65
  go_wp2_with fail
  refine (HC.out).mono ?_
  rintro e w1 ⟨x, rfl, -, hx, hr⟩
  have HX := hid_of hx
  have HR := hid_of hr
  clear HC hx hr
  go_wp2_with fail
  refine Calls.mono (HM1.out _ HR.out) ?_
  rintro e w2 ⟨rfl, hr2⟩
  have HR2 := hid_of hr2
  have ca := (four_cells hr2.at_).1.2.1
  clear HR HM1 hr2 ho1
  go_wp2_with fail
  refine Calls.mono (HC2.out _ HR2.out) ?_
  rintro e w3 ⟨y, rfl, -, hy, hr3⟩
  have HR3 := hid_of hr3
  have HF0 : Hid (∀ W, Rd T rb u w0 (mst T [44, 32] (if shrB x y then (cntF T s1).2 else fl (cntF T s1).2 1 s1.a)) W → ShQ T rb u w0 s (.returned (.tuple #[.int .i64 x, .int .i64 y])) W) := fun W hr => HW.out x y W HX.out hy hr
  have HBz : La.HidC _ _ _ _ _ := HB.out x y w3
  clear HR2 HC2 hr3 hy HW HX HB ca
  cases hb : shrB x y
  · rw [hb] at HBz HF0
    clear hb
    go_wp2_with fail
    refine (HBz.out).mono ?_
    rintro e w4 ⟨rfl, rfl⟩
    go_wp2_with fail
    refine Calls.mono (HFl.out _ HR3.out) ?_
    rintro e w5 ⟨rfl, hr5⟩
    have HR5 := hid_of hr5
    clear HR3 hr5 HBz HFl
    go_wp2_with fail
    refine Calls.mono (HM2.out _ _ HR5.out HO2.out) ?_
    rintro e w6 ⟨rfl, hr6⟩
    have HF := hid_of (HF0.out w6 hr6)
    clear HF0 hr6
    go_wp2_with fail
    go_ret2
    exact HF.out
  · rw [hb] at HBz HF0
    clear hb
    go_wp2_with fail
    refine (HBz.out).mono ?_
    rintro e w4 ⟨rfl, rfl⟩
    go_wp2_with fail
    refine Calls.mono (HM2.out _ _ HR3.out HO1.out) ?_
    rintro e w6 ⟨rfl, hr6⟩
    have HF := hid_of (HF0.out w6 hr6)
    clear HF0 hr6
    go_wp2_with fail
    go_ret2
    exact HF.out
end Go.Proofs.YtmmkboldkaehgaaGreatDoor.Ru
/- RULES: THE READER: seriesLength, series. Own work of the verifier. -/
namespace Go.Proofs.YtmmkboldkaehgaaGreatDoor.Ru
open Go.RowKit Me

theorem sLf_le (l : List UInt8) : ∀ f q i, sLf l f q i ≤ l.length := by
  intro f
  induction f with
  | zero => intro q i; exact Nat.le_refl _
  | succ f ih =>
    intro q i
    unfold sLf
    split
    · split
      · exact ih _ _
      · split
        · exact ih _ _
        · split
          · omega
          · exact ih _ _
    · exact Nat.le_refl _
theorem sLen_le (l : List UInt8) : sLen l ≤ l.length := sLf_le l _ _ _
set_option maxHeartbeats 2000000 in
set_option maxRecDepth 100000 in
theorem slen_any (l : List UInt8) (hl : l.length ≤ 65536) (w : World) :
    Calls Tryz.prog 85 #[.string ⟨l.toArray⟩] w fun e w' => e = .returned (.int .i64 (sLen l : Int)) ∧ w' = w := by
  have hl' : (l.length : Int) ≤ 65536 := by omega
  obtain ⟨Z, hZ⟩ : ∃ Z, Z = sLen l := ⟨_, rfl⟩
  rw [← hZ]
  have HZ0 : Hid (∃ f, l.length < 0 + f ∧ Z = sLf l f false 0) := ⟨l.length + 1, by omega, hZ⟩
  have HPr : Hid (∀ i W, Calls Tryz.prog 80 #[.string ⟨(l.drop i).toArray⟩, .string ⟨#[44, 32]⟩] W fun r w' => r = .returned (.bool (La.preB (l.drop i) [44, 32])) ∧ w' = W) := fun i W => La.pre_any (l.drop i) [44, 32] W
  clear hZ
  go_enter Tryz.func85, Tryz.ntmps85
  go_wp2_with fail
  go_loopw [3, 4] (fun q a W => ∃ (b : Bool) (i : Nat), i ≤ l.length + 1 ∧ q = .bool b ∧ a = .int .i64 (i : Int) ∧ Hid (∃ f, l.length < i + f ∧ Z = sLf l f b i) ∧ W = w) (fun _ a _ => l.length + 1 - (intOf a).toNat)
  case atStart => exact ⟨false, 0, by omega, rfl, rfl, HZ0, rfl⟩
  case round =>
    clear HZ0
    obtain ⟨b, i, hi, rfl, rfl, HK, hw⟩ := hrel
    subst wr
    obtain ⟨f, hf, hz⟩ := HK.out
    by_cases hlt : i < l.length
    · have hlt' : (i : Int) < (l.length : Int) := by omega
      obtain ⟨f, rfl⟩ : ∃ f', f = f' + 1 := ⟨f - 1, by omega⟩
      unfold sLf at hz
      rw [if_pos hlt] at hz
      have hB : i < (ByteArray.mk l.toArray).size := by show i < l.toArray.size; simpa using hlt
      have hbe : (ByteArray.mk l.toArray)[i]'hB = l[i] := rfl
      have hgd : l.getD i 0 = l[i] := by simp [List.getD, hlt]
      rw [hgd] at hz
      have hdr := La.drop_bytes l i
      have hi1 : (i : Int) ≤ (l.length : Int) := by omega
      have HPi : Hid (∀ W, _) := HPr.out i
      have w1 : IntKind.i64.wrap ((i : Int) + 1) = ((i + 1 : Nat) : Int) := by rw [IntKind.wrap_i64]; omega
      have w2 : IntKind.i64.wrap (((i + 1 : Nat) : Int) + 1) = ((i + 2 : Nat) : Int) := by rw [IntKind.wrap_i64]; omega
      clear HK HPr hgd
      generalize l[i] = c at *
      by_cases g1 : c.toNat = 34
      · have t1 : ((c.toNat : Int) == 34) = true := by rw [beq_iff_eq]; omega
        rw [if_pos g1] at hz
        have HN : Hid (∃ f, l.length < i + 1 + f ∧ Z = sLf l f (!b) (i + 1)) := ⟨f, by omega, hz⟩
        clear hz g1 HPi w2
        cases b
        all_goals
          as_aux_lemma =>
            go_wp2_with fail
            exact ⟨⟨_, i + 1, by omega, rfl, by go_num, HN, trivial⟩, by simp [intOf]; omega⟩
      · have t1 : ((c.toNat : Int) == 34) = false := by rw [beq_eq_false_iff_ne]; omega
        rw [if_neg g1] at hz
        cases b
        · rw [if_neg (by simp)] at hz
          cases hq : La.preB (l.drop i) [44, 32]
          · rw [hq] at HPi hz
            rw [if_neg (by simp)] at hz
            have HN : Hid (∃ f, l.length < i + 1 + f ∧ Z = sLf l f false (i + 1)) := ⟨f, by omega, hz⟩
            clear hz g1 hq w2
            as_aux_lemma =>
              go_wp2_with fail
              refine (HPi.out _).mono ?_
              rintro e w3 ⟨rfl, rfl⟩
              go_wp2_with fail
              exact ⟨⟨_, i + 1, by omega, rfl, by go_num, HN, trivial⟩, by simp [intOf]; omega⟩
          · rw [hq] at HPi hz
            rw [if_pos (by simp)] at hz
            have HN : Hid (Z = i) := hz
            clear hz g1 hq w2 w1
            as_aux_lemma =>
              go_wp2_with fail
              refine (HPi.out _).mono ?_
              rintro e w3 ⟨rfl, rfl⟩
              go_wp2_with fail
              go_ret
              exact ⟨congrArg (fun z : Nat => Ending.returned (Value.int .i64 (z : Int))) HN.out.symm, rfl⟩
        · by_cases g2 : c.toNat = 92
          · have t2 : ((c.toNat : Int) == 92) = true := by rw [beq_iff_eq]; omega
            rw [if_pos (by simp [g2])] at hz
            have HN : Hid (∃ f, l.length < i + 2 + f ∧ Z = sLf l f true (i + 2)) := ⟨f, by omega, hz⟩
            clear hz g1 g2 HPi
            as_aux_lemma =>
              go_wp2_with fail
              exact ⟨⟨_, i + 2, by omega, rfl, by go_num, HN, trivial⟩, by simp [intOf]; omega⟩
          · have t2 : ((c.toNat : Int) == 92) = false := by rw [beq_eq_false_iff_ne]; omega
            rw [if_neg (by simp [g2]), if_neg (by simp)] at hz
            have HN : Hid (∃ f, l.length < i + 1 + f ∧ Z = sLf l f true (i + 1)) := ⟨f, by omega, hz⟩
            clear hz g1 g2 HPi w2
            as_aux_lemma =>
              go_wp2_with fail
              exact ⟨⟨_, i + 1, by omega, rfl, by go_num, HN, trivial⟩, by simp [intOf]; omega⟩
    · have hlt' : ¬ (i : Int) < (l.length : Int) := by omega
      have HN : Hid (Z = l.length) := by
        show Z = _
        rw [hz]
        cases f with
        | zero => rfl
        | succ f => unfold sLf; rw [if_neg hlt]
      clear HK hz HPr
      as_aux_lemma =>
        go_wp2_with fail
        go_ret
        exact ⟨congrArg (fun z : Nat => Ending.returned (Value.int .i64 (z : Int))) HN.out.symm, rfl⟩
end Go.Proofs.YtmmkboldkaehgaaGreatDoor.Ru
