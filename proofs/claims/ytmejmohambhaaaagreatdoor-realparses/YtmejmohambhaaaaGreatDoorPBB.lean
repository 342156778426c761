/- Digits: the document's, of layer 2. Own work of the verifier. -/
import Derived.Test.YtmejmohambhaaaaGreatDoorPBA
import Derived.Test.YtmejmohambhaaaaGreatDoorDC1
import Derived.Laws.IdiomStrings
import Derived.BigQuiet
import Derived.Test.YtmejmohambhaaaaGreatDoorL14
import Derived.Test.YtmejmohambhaaaaGreatDoorPB5
import Derived.Test.YtmejmohambhaaaaGreatDoorPB2
namespace Go.Proofs.YtmejmohambhaaaaGreatDoor
open Go.RowKit Soft

/-- What number answers. -/
def NumOk : Prop := ∀ (c : Nat) (W : World), c < 18446744073709551616 → Calls Tryz.prog 33 #[.int .u64 (c : Int)] W fun e w' => e = .returned (.string ⟨(Lib.decDigits c).toArray⟩) ∧ Below W.heap.size W w'
theorem cD_of {b q : Nat} {s h : Int} {s1 s2 : Int} (hq : qN b s = q) (hh : hN b s = h) (h1 : SideN b q s = s1) (h2 : SideN b (q + 1) s = s2) : cD b s = if s1 ≠ 0 ∨ s2 = 0 ∧ (0 < h ∨ h = 0 ∧ q % 2 = 1) then q + 1 else q := by
  unfold cD upD
  rw [hq, hh, h1, h2]
  by_cases hx : s1 ≠ 0 ∨ s2 = 0 ∧ (0 < h ∨ h = 0 ∧ q % 2 = 1)
  · rw [if_pos hx, if_pos hx]
  · rw [if_neg hx, if_neg hx]
set_option maxHeartbeats 2000000 in
set_option maxRecDepth 100000 in
theorem ddigits_any (HN : NumOk) (b : Nat) (hb0 : 1 ≤ b) (hb : b < 9218868437227405312) (w : World) :
    Calls Tryz.prog 32 #[.int .u64 (b : Int)] w fun e w' => ∃ (c : Nat) (x : Int), e = .returned (.tuple #[.int .u64 (c : Int), .int .i64 x]) ∧ DigsOf b c x ∧ Below w.heap.size w w' := by
  have HT : Hid _ := fun W => top_any b hb0 hb W
  have HN' : Hid (NumOk) := HN
  clear HN
  go_enter Tryz.func32, Tryz.ntmps32
  go_wp2_with fail
  refine (HT.out _).mono ?_
  rintro e w1 ⟨t, rfl, HTop, hb1⟩
  clear HT
  have HTp : Hid (Top b t) := HTop
  have t1 := HTop.1
  have t2 := HTop.2.1
  clear HTop
  go_wp2_with fail
  go_loopw [5] (fun a W => ∃ n : Nat, a = .int .i64 (n : Int) ∧ 1 ≤ n ∧ n ≤ 18 ∧ Hid (∀ i : Nat, 1 ≤ i → i < n → ¬ okD b (t - i + 1)) ∧ Below w.heap.size w W) (fun a _ => 18 - (intOf a).toNat)
  case atStart => exact ⟨1, rfl, by omega, by omega, (fun i h1 h2 => by omega), hb1⟩
  case round =>
    obtain ⟨n, rfl, n1, n2, HI, hbl⟩ := hrel
    by_cases hn : n ≤ 17
    · have hn' : (n : Int) ≤ 17 := by omega
      have hq0 := qN_lt b t n HTp.out hn
      have HR : Hid (∀ W, Calls Tryz.prog 45 #[.int .u64 (b : Int), .int .i64 (t - (n : Int) + 1)] W fun e w' => e = .returned (.tuple #[.int .u64 ((qN b (t - n + 1) : Nat) : Int), .int .i64 (hN b (t - n + 1))]) ∧ Below W.heap.size W w') := fun W => ratio_any b (t - n + 1) hb (by omega) (by omega) (top_big b t n HTp.out hn) W
      have HS1 : Hid (∀ W, Calls Tryz.prog 37 #[.int .u64 (b : Int), .int .u64 ((qN b (t - n + 1) : Nat) : Int), .int .i64 (t - (n : Int) + 1)] W fun e w' => e = .returned (.int .i64 (SideN b (qN b (t - n + 1)) (t - n + 1))) ∧ Below W.heap.size W w') := fun W => side_any b _ _ hb0 hb (by omega) (by omega) (by omega) W
      have HS2 : Hid (∀ W, Calls Tryz.prog 37 #[.int .u64 (b : Int), .int .u64 (((qN b (t - n + 1) : Nat) : Int) + 1), .int .i64 (t - (n : Int) + 1)] W fun e w' => e = .returned (.int .i64 (SideN b (qN b (t - n + 1) + 1) (t - n + 1))) ∧ Below W.heap.size W w') := fun W => by
        have := side_any b (qN b (t - n + 1) + 1) (t - n + 1) hb0 hb (by omega) (by omega) (by omega) W
        rw [show ((qN b (t - n + 1) + 1 : Nat) : Int) = ((qN b (t - n + 1) : Nat) : Int) + 1 from by omega] at this
        exact this
      have HO : Hid (okD b (t - n + 1) ↔ SideN b (qN b (t - n + 1)) (t - n + 1) = 0 ∨ SideN b (qN b (t - n + 1) + 1) (t - n + 1) = 0) := Iff.rfl
      have HCp : Hid (1 ≤ cD b (t - n + 1)) := cD_pos b _ hb0
      have hh3 : hN b (t - n + 1) = -1 ∨ hN b (t - n + 1) = 0 ∨ hN b (t - n + 1) = 1 := cmpN_cases _ _
      have HCd : Hid _ := cD_of (b := b) (s := t - n + 1) rfl rfl rfl rfl
      have HH3 : Hid _ := hh3
      clear hh3
      generalize SideN b (qN b (t - n + 1) + 1) (t - n + 1) = s2 at *
      generalize SideN b (qN b (t - n + 1)) (t - n + 1) = s1 at *
      generalize qN b (t - n + 1) = q at *
      generalize hN b (t - n + 1) = h at *
      as_aux_lemma =>
      go_wp2_with fail
      refine (HR.out _).mono ?_
      rintro e w2 ⟨rfl, hb2⟩
      go_wp2_with fail
      refine (HS1.out _).mono ?_
      rintro e w3 ⟨rfl, hb3⟩
      go_wp2_with fail
      refine (HS2.out _).mono ?_
      rintro e w4 ⟨rfl, hb4⟩
      have hb5 := hbl.trans (((hb2.trans (hb3.mono hb2.size)).trans (hb4.mono (Nat.le_trans hb2.size hb3.size))).mono hbl.size)
      clear HR HS1 HS2 hb2 hb3 hb4 hbl
      by_cases ok : s1 ≠ 0 ∧ s2 ≠ 0
      · have o1 : (s1 == 0) = false := by rw [beq_eq_false_iff_ne]; exact ok.1
        have o2 : (s2 == 0) = false := by rw [beq_eq_false_iff_ne]; exact ok.2
        have HI' : Hid (∀ i : Nat, 1 ≤ i → i < n + 1 → ¬ okD b (t - i + 1)) := fun i h1 h2 => by
          rcases Nat.lt_or_ge i n with c | c
          · exact HI.out i h1 c
          · obtain rfl : i = n := by omega
            intro g
            rcases HO.out.1 g with g | g
            · exact ok.1 g
            · exact ok.2 g
        clear ok
        as_aux_lemma =>
          go_wp2_with fail
          exact ⟨⟨n + 1, by go_num, by omega, by omega, HI', hb5⟩, by simp [intOf]; omega⟩
      · have HOk : Hid (okD b (t - n + 1)) := HO.out.2 (by omega)
        have ok' : s1 = 0 ∨ s2 = 0 := by omega
        clear ok HO
        have hE := HCd.out
        have hcd : cD b (t - n + 1) ≤ 100000000000000000 := by
          rw [HCd.out]
          split <;> omega
        clear HCd
        generalize hc0 : cD b (t - n + 1) = c0 at *
        by_cases a1 : s1 = 0
        · subst a1
          by_cases a2 : s2 = 0
          · subst a2
            rcases HH3.out with g | g | g
            · subst g
              have hC : ((q : Nat) : Int) = (c0 : Int) := by rw [hE]; simp
              clear hE HH3 ok'
              as_aux_lemma =>
              go_wp2_with fail
              go_loopw [6, 11] (fun a x W => ∃ (c : Nat) (s : Int), a = .int .i64 s ∧ x = .int .u64 (c : Int) ∧ 1 ≤ c ∧ c ≤ 100000000000000000 ∧ Hid (Strp c0 (t - n + 1) c s) ∧ W = w4) (fun _ x _ => (intOf x).toNat)
              case atStart => exact ⟨c0, t - n + 1, rfl, rfl, HCp.out, hcd, ⟨0, by rw [Nat.pow_zero, Nat.mul_one], by omega⟩, rfl⟩
              case round =>
                obtain ⟨c, s, rfl, rfl, c1, c2, HP, hw⟩ := hrel
                subst wr
                have hs := strp_s HP.out c1 hcd
                by_cases hz : c % 10 = 0
                · have hz' : (((c : Int) % 10) == 0) = true := by rw [beq_iff_eq]; omega
                  have HP' : Hid _ := strp_step HP.out hz
                  as_aux_lemma =>
                    go_wp2_with fail
                    exact ⟨⟨c / 10, s + 1, rfl, congrArg (Value.int .u64) (by omega), by omega, by omega, HP', trivial⟩, by simp [intOf]; omega⟩
                · have hz' : (((c : Int) % 10) == 0) = false := by rw [beq_eq_false_iff_ne]; omega
                  have hd := Lib.nDigits_le20 c (by omega)
                  have hdl : (Lib.decDigits c).length = Lib.nDigits c := Lib.decDigits_length c
                  have HD : Hid (DigsOf b c (s + (Lib.nDigits c : Int) - 1)) := Or.inl ⟨t, n, s, HTp.out, n1, hn, HI.out, HOk.out, by rw [hc0]; exact HP.out, hz, rfl⟩
                  have HNc : Hid _ := HN'.out c w4 (by omega)
                  as_aux_lemma =>
                    go_wp2_with fail
                    refine Calls.mono HNc.out ?_
                    rintro e w6 ⟨rfl, hb6⟩
                    generalize Lib.decDigits c = dd at *
                    generalize Lib.nDigits c = nd at *
                    subst hdl
                    go_wp2_with fail
                    go_ret2
                    exact ⟨c, _, rfl, HD.out, hb5.trans (hb6.mono hb5.size)⟩
            · subst g
              have hq2 : q % 2 = 0 ∨ q % 2 = 1 := by omega
              rcases hq2 with e0 | e0
              · have hC : ((q : Nat) : Int) = (c0 : Int) := by rw [hE]; simp [e0]
                have e1 : (((q : Int) % 2) == 1) = false := by rw [beq_eq_false_iff_ne]; omega
                clear hE HH3 ok'
                as_aux_lemma =>
                go_wp2_with fail
                go_loopw [6, 11] (fun a x W => ∃ (c : Nat) (s : Int), a = .int .i64 s ∧ x = .int .u64 (c : Int) ∧ 1 ≤ c ∧ c ≤ 100000000000000000 ∧ Hid (Strp c0 (t - n + 1) c s) ∧ W = w4) (fun _ x _ => (intOf x).toNat)
                case atStart => exact ⟨c0, t - n + 1, rfl, rfl, HCp.out, hcd, ⟨0, by rw [Nat.pow_zero, Nat.mul_one], by omega⟩, rfl⟩
                case round =>
                  obtain ⟨c, s, rfl, rfl, c1, c2, HP, hw⟩ := hrel
                  subst wr
                  have hs := strp_s HP.out c1 hcd
                  by_cases hz : c % 10 = 0
                  · have hz' : (((c : Int) % 10) == 0) = true := by rw [beq_iff_eq]; omega
                    have HP' : Hid _ := strp_step HP.out hz
                    as_aux_lemma =>
                      go_wp2_with fail
                      exact ⟨⟨c / 10, s + 1, rfl, congrArg (Value.int .u64) (by omega), by omega, by omega, HP', trivial⟩, by simp [intOf]; omega⟩
                  · have hz' : (((c : Int) % 10) == 0) = false := by rw [beq_eq_false_iff_ne]; omega
                    have hd := Lib.nDigits_le20 c (by omega)
                    have hdl : (Lib.decDigits c).length = Lib.nDigits c := Lib.decDigits_length c
                    have HD : Hid (DigsOf b c (s + (Lib.nDigits c : Int) - 1)) := Or.inl ⟨t, n, s, HTp.out, n1, hn, HI.out, HOk.out, by rw [hc0]; exact HP.out, hz, rfl⟩
                    have HNc : Hid _ := HN'.out c w4 (by omega)
                    as_aux_lemma =>
                      go_wp2_with fail
                      refine Calls.mono HNc.out ?_
                      rintro e w6 ⟨rfl, hb6⟩
                      generalize Lib.decDigits c = dd at *
                      generalize Lib.nDigits c = nd at *
                      subst hdl
                      go_wp2_with fail
                      go_ret2
                      exact ⟨c, _, rfl, HD.out, hb5.trans (hb6.mono hb5.size)⟩
              · have hC : ((q : Nat) : Int) + 1 = (c0 : Int) := by rw [hE]; simp [e0]
                have e1 : (((q : Int) % 2) == 1) = true := by rw [beq_iff_eq]; omega
                clear hE HH3 ok'
                as_aux_lemma =>
                go_wp2_with fail
                go_loopw [6, 11] (fun a x W => ∃ (c : Nat) (s : Int), a = .int .i64 s ∧ x = .int .u64 (c : Int) ∧ 1 ≤ c ∧ c ≤ 100000000000000000 ∧ Hid (Strp c0 (t - n + 1) c s) ∧ W = w4) (fun _ x _ => (intOf x).toNat)
                case atStart => exact ⟨c0, t - n + 1, rfl, rfl, HCp.out, hcd, ⟨0, by rw [Nat.pow_zero, Nat.mul_one], by omega⟩, rfl⟩
                case round =>
                  obtain ⟨c, s, rfl, rfl, c1, c2, HP, hw⟩ := hrel
                  subst wr
                  have hs := strp_s HP.out c1 hcd
                  by_cases hz : c % 10 = 0
                  · have hz' : (((c : Int) % 10) == 0) = true := by rw [beq_iff_eq]; omega
                    have HP' : Hid _ := strp_step HP.out hz
                    as_aux_lemma =>
                      go_wp2_with fail
                      exact ⟨⟨c / 10, s + 1, rfl, congrArg (Value.int .u64) (by omega), by omega, by omega, HP', trivial⟩, by simp [intOf]; omega⟩
                  · have hz' : (((c : Int) % 10) == 0) = false := by rw [beq_eq_false_iff_ne]; omega
                    have hd := Lib.nDigits_le20 c (by omega)
                    have hdl : (Lib.decDigits c).length = Lib.nDigits c := Lib.decDigits_length c
                    have HD : Hid (DigsOf b c (s + (Lib.nDigits c : Int) - 1)) := Or.inl ⟨t, n, s, HTp.out, n1, hn, HI.out, HOk.out, by rw [hc0]; exact HP.out, hz, rfl⟩
                    have HNc : Hid _ := HN'.out c w4 (by omega)
                    as_aux_lemma =>
                      go_wp2_with fail
                      refine Calls.mono HNc.out ?_
                      rintro e w6 ⟨rfl, hb6⟩
                      generalize Lib.decDigits c = dd at *
                      generalize Lib.nDigits c = nd at *
                      subst hdl
                      go_wp2_with fail
                      go_ret2
                      exact ⟨c, _, rfl, HD.out, hb5.trans (hb6.mono hb5.size)⟩
            · subst g
              have hC : ((q : Nat) : Int) + 1 = (c0 : Int) := by rw [hE]; simp
              clear hE HH3 ok'
              as_aux_lemma =>
              go_wp2_with fail
              go_loopw [6, 11] (fun a x W => ∃ (c : Nat) (s : Int), a = .int .i64 s ∧ x = .int .u64 (c : Int) ∧ 1 ≤ c ∧ c ≤ 100000000000000000 ∧ Hid (Strp c0 (t - n + 1) c s) ∧ W = w4) (fun _ x _ => (intOf x).toNat)
              case atStart => exact ⟨c0, t - n + 1, rfl, rfl, HCp.out, hcd, ⟨0, by rw [Nat.pow_zero, Nat.mul_one], by omega⟩, rfl⟩
              case round =>
                obtain ⟨c, s, rfl, rfl, c1, c2, HP, hw⟩ := hrel
                subst wr
                have hs := strp_s HP.out c1 hcd
                by_cases hz : c % 10 = 0
                · have hz' : (((c : Int) % 10) == 0) = true := by rw [beq_iff_eq]; omega
                  have HP' : Hid _ := strp_step HP.out hz
                  as_aux_lemma =>
                    go_wp2_with fail
                    exact ⟨⟨c / 10, s + 1, rfl, congrArg (Value.int .u64) (by omega), by omega, by omega, HP', trivial⟩, by simp [intOf]; omega⟩
                · have hz' : (((c : Int) % 10) == 0) = false := by rw [beq_eq_false_iff_ne]; omega
                  have hd := Lib.nDigits_le20 c (by omega)
                  have hdl : (Lib.decDigits c).length = Lib.nDigits c := Lib.decDigits_length c
                  have HD : Hid (DigsOf b c (s + (Lib.nDigits c : Int) - 1)) := Or.inl ⟨t, n, s, HTp.out, n1, hn, HI.out, HOk.out, by rw [hc0]; exact HP.out, hz, rfl⟩
                  have HNc : Hid _ := HN'.out c w4 (by omega)
                  as_aux_lemma =>
                    go_wp2_with fail
                    refine Calls.mono HNc.out ?_
                    rintro e w6 ⟨rfl, hb6⟩
                    generalize Lib.decDigits c = dd at *
                    generalize Lib.nDigits c = nd at *
                    subst hdl
                    go_wp2_with fail
                    go_ret2
                    exact ⟨c, _, rfl, HD.out, hb5.trans (hb6.mono hb5.size)⟩
          · have o2 : (s2 == 0) = false := by rw [beq_eq_false_iff_ne]; exact a2
            have hC : ((q : Nat) : Int) = (c0 : Int) := by rw [hE]; simp [a2]
            clear hE ok'
            as_aux_lemma =>
            go_wp2_with fail
            go_loopw [6, 11] (fun a x W => ∃ (c : Nat) (s : Int), a = .int .i64 s ∧ x = .int .u64 (c : Int) ∧ 1 ≤ c ∧ c ≤ 100000000000000000 ∧ Hid (Strp c0 (t - n + 1) c s) ∧ W = w4) (fun _ x _ => (intOf x).toNat)
            case atStart => exact ⟨c0, t - n + 1, rfl, rfl, HCp.out, hcd, ⟨0, by rw [Nat.pow_zero, Nat.mul_one], by omega⟩, rfl⟩
            case round =>
              obtain ⟨c, s, rfl, rfl, c1, c2, HP, hw⟩ := hrel
              subst wr
              have hs := strp_s HP.out c1 hcd
              by_cases hz : c % 10 = 0
              · have hz' : (((c : Int) % 10) == 0) = true := by rw [beq_iff_eq]; omega
                have HP' : Hid _ := strp_step HP.out hz
                as_aux_lemma =>
                  go_wp2_with fail
                  exact ⟨⟨c / 10, s + 1, rfl, congrArg (Value.int .u64) (by omega), by omega, by omega, HP', trivial⟩, by simp [intOf]; omega⟩
              · have hz' : (((c : Int) % 10) == 0) = false := by rw [beq_eq_false_iff_ne]; omega
                have hd := Lib.nDigits_le20 c (by omega)
                have hdl : (Lib.decDigits c).length = Lib.nDigits c := Lib.decDigits_length c
                have HD : Hid (DigsOf b c (s + (Lib.nDigits c : Int) - 1)) := Or.inl ⟨t, n, s, HTp.out, n1, hn, HI.out, HOk.out, by rw [hc0]; exact HP.out, hz, rfl⟩
                have HNc : Hid _ := HN'.out c w4 (by omega)
                as_aux_lemma =>
                  go_wp2_with fail
                  refine Calls.mono HNc.out ?_
                  rintro e w6 ⟨rfl, hb6⟩
                  generalize Lib.decDigits c = dd at *
                  generalize Lib.nDigits c = nd at *
                  subst hdl
                  go_wp2_with fail
                  go_ret2
                  exact ⟨c, _, rfl, HD.out, hb5.trans (hb6.mono hb5.size)⟩
        · have o1 : (s1 == 0) = false := by rw [beq_eq_false_iff_ne]; exact a1
          have o2 : (s2 == 0) = true := by rw [beq_iff_eq]; omega
          have hC : ((q : Nat) : Int) + 1 = (c0 : Int) := by rw [hE]; simp [a1]
          clear hE ok'
          as_aux_lemma =>
          go_wp2_with fail
          go_loopw [6, 11] (fun a x W => ∃ (c : Nat) (s : Int), a = .int .i64 s ∧ x = .int .u64 (c : Int) ∧ 1 ≤ c ∧ c ≤ 100000000000000000 ∧ Hid (Strp c0 (t - n + 1) c s) ∧ W = w4) (fun _ x _ => (intOf x).toNat)
          case atStart => exact ⟨c0, t - n + 1, rfl, rfl, HCp.out, hcd, ⟨0, by rw [Nat.pow_zero, Nat.mul_one], by omega⟩, rfl⟩
          case round =>
            obtain ⟨c, s, rfl, rfl, c1, c2, HP, hw⟩ := hrel
            subst wr
            have hs := strp_s HP.out c1 hcd
            by_cases hz : c % 10 = 0
            · have hz' : (((c : Int) % 10) == 0) = true := by rw [beq_iff_eq]; omega
              have HP' : Hid _ := strp_step HP.out hz
              as_aux_lemma =>
                go_wp2_with fail
                exact ⟨⟨c / 10, s + 1, rfl, congrArg (Value.int .u64) (by omega), by omega, by omega, HP', trivial⟩, by simp [intOf]; omega⟩
            · have hz' : (((c : Int) % 10) == 0) = false := by rw [beq_eq_false_iff_ne]; omega
              have hd := Lib.nDigits_le20 c (by omega)
              have hdl : (Lib.decDigits c).length = Lib.nDigits c := Lib.decDigits_length c
              have HD : Hid (DigsOf b c (s + (Lib.nDigits c : Int) - 1)) := Or.inl ⟨t, n, s, HTp.out, n1, hn, HI.out, HOk.out, by rw [hc0]; exact HP.out, hz, rfl⟩
              have HNc : Hid _ := HN'.out c w4 (by omega)
              as_aux_lemma =>
                go_wp2_with fail
                refine Calls.mono HNc.out ?_
                rintro e w6 ⟨rfl, hb6⟩
                generalize Lib.decDigits c = dd at *
                generalize Lib.nDigits c = nd at *
                subst hdl
                go_wp2_with fail
                go_ret2
                exact ⟨c, _, rfl, HD.out, hb5.trans (hb6.mono hb5.size)⟩
    · have hn' : ¬ (n : Int) ≤ 17 := by omega
      obtain rfl : n = 18 := by omega
      have HD : Hid (DigsOf b 0 0) := Or.inr ⟨⟨t, HTp.out, fun i h1 h2 => HI.out i h1 (by omega)⟩, rfl, rfl⟩
      as_aux_lemma =>
        go_wp2_with fail
        go_ret2
        exact ⟨0, 0, rfl, HD.out, hbl⟩
end Go.Proofs.YtmejmohambhaaaaGreatDoor
/- number: the document's, of layer 2. Own work of the verifier. -/
namespace Go.Proofs.YtmejmohambhaaaaGreatDoor
open Go.RowKit Soft

def bV (n : Nat) : Value := .int .u8 (n : Int)
/-- The digits that are written already, from the last on; M is left. -/
def Lead (N : Nat) (xs : List Nat) (M : Nat) : Prop := Lib.decDigits N = Lib.decDigits M ++ xs.reverse.map UInt8.ofNat ∧ ∀ x ∈ xs, x < 256
theorem lead_step {N M : Nat} {xs : List Nat} (h : Lead N xs M) (hM : ¬ M < 10) : Lead N (xs ++ [48 + M % 10]) (M / 10) := by
  obtain ⟨h1, h2⟩ := h
  refine ⟨?_, ?_⟩
  · rw [h1, Lib.decDigits, dif_neg hM, List.reverse_append]
    simp
  · intro x hx
    rcases List.mem_append.1 hx with g | g
    · exact h2 x g
    · rw [List.mem_singleton.1 g]; omega
theorem lead_end {N M : Nat} {xs : List Nat} (h : Lead N xs M) (hM : M < 10) : Lib.decDigits N = (xs ++ [48 + M]).reverse.map UInt8.ofNat ∧ ∀ x ∈ xs ++ [48 + M], x < 256 := by
  obtain ⟨h1, h2⟩ := h
  refine ⟨?_, ?_⟩
  · rw [h1, Lib.decDigits_one hM, List.reverse_append]
    simp
  · intro x hx
    rcases List.mem_append.1 hx with g | g
    · exact h2 x g
    · rw [List.mem_singleton.1 g]; omega
theorem lead_len {N M : Nat} {xs : List Nat} (h : Lead N xs M) (hN : N < 18446744073709551616) : xs.length ≤ 19 := by
  have h1 := congrArg List.length h.1
  rw [List.length_append, List.length_map, List.length_reverse, Lib.decDigits_length, Lib.decDigits_length] at h1
  have h2 := Lib.nDigits_le20 N hN
  have h3 := Lib.nDigits_pos M
  omega
/-- A row of bytes in a block. -/
structure BR (g n : Nat) (D : Nat → Nat) (w : World) : Prop where
  dig : ∀ i, i < n → w.cell? ⟨g, i, none⟩ = some (.int .u8 (D i : Int))
  fr : ∀ o, w.frozen? ⟨g, o, none⟩ = false
theorem BR.set {g n : Nat} {D : Nat → Nat} {w : World} (h : BR g n D w) (i v : Nat) (hi : i < n) : BR g n (upd D i v) (w.setCell ⟨g, i, none⟩ (.int .u8 (v : Int))) := by
  refine ⟨fun j hj => ?_, fun o => by rw [World.frozen?_setCell]; exact h.fr o⟩
  by_cases e : j = i
  · subst e; rw [World.cell?_setCell_same w _ _ (h.dig j hj), upd_same]
  · rw [World.cell?_setCell_other w _ _ _ (off_ne (fun c => e c.symm)), upd_other D i v e]; exact h.dig j hj
theorem GB.bytes {B : Nat} {W0 w : World} {v : Value} {xs : List Nat} (h : GB B 5 bV W0 v xs w) : ∃ g cap, v = .slice (some ⟨g, 0, none⟩) xs.length cap ∧ B ≤ g ∧ BR g xs.length (fun i => xs.getD i 0) w := by
  obtain ⟨g, cap, cur, rfl, hB, hcur, _, _, h5, h6⟩ := own_ofG h.own h.nz
  refine ⟨g, cap, rfl, hB, fun i hi => ?_, fun o => ?_⟩
  · have e1 : cur[i]? = some (bV (xs.getD i 0)) := by
      have : (cur.toList.take xs.length)[i]? = some (bV (xs.getD i 0)) := by
        rw [h6, List.getElem?_map, List.getElem?_eq_getElem hi, List.getD_eq_getElem?_getD, List.getElem?_eq_getElem hi]
        rfl
      rw [List.getElem?_take, if_pos hi] at this
      rw [← Array.getElem?_toList]
      exact this
    simp [World.cell?, hcur, e1]
    rfl
  · simp [World.frozen?, hcur]
/-- The row with i at each end in the other's place. -/
def Swp (E D : Nat → Nat) (n i : Nat) : Prop := ∀ t, t < n → D t = if t < i ∨ n ≤ t + i then E (n - 1 - t) else E t
theorem swp_step {E D : Nat → Nat} {n i : Nat} (h : Swp E D n i) (hi : i < n / 2) : Swp E (upd (upd D i (D (n - 1 - i))) (n - 1 - i) (D i)) n (i + 1) := by
  intro t ht
  have a := h i (by omega)
  have b := h (n - 1 - i) (by omega)
  have c := h t ht
  rw [if_neg (by omega)] at a b
  unfold upd
  by_cases e1 : t = n - 1 - i
  · subst e1
    rw [if_pos rfl, if_pos (Or.inr (by omega)), a]
    congr 1; omega
  · rw [if_neg e1]
    by_cases e2 : t = i
    · subst e2
      rw [if_pos rfl, if_pos (Or.inl (by omega)), b]
    · rw [if_neg e2, c]
      by_cases g : t < i ∨ n ≤ t + i
      · rw [if_pos g, if_pos (by omega)]
      · rw [if_neg g, if_neg (by omega)]
theorem swp_end {E D : Nat → Nat} {n i : Nat} (h : Swp E D n i) (hi : ¬ i < n / 2) (t : Nat) (ht : t < n) : D t = E (n - 1 - t) := by
  rw [h t ht]
  by_cases g : t < i ∨ n ≤ t + i
  · rw [if_pos g]
  · rw [if_neg g]; congr 1; omega
set_option maxHeartbeats 2000000 in
set_option maxRecDepth 100000 in
theorem number_any : NumOk := fun N w hN => by
  obtain ⟨i0, hi, hz0, hz1, hz2⟩ := info_parts infoByte
  go_enter Tryz.func33, Tryz.ntmps33
  go_wp2_with fail
  go_loopw [0, 3] (fun a v W => ∃ (M : Nat) (xs : List Nat), a = .int .u64 (M : Int) ∧ M ≤ N ∧ Hid (Lead N xs M) ∧ GB w.heap.size 5 bV w v xs W) (fun a _ _ => (intOf a).toNat)
  case atStart => exact ⟨N, [], rfl, Nat.le_refl _, ⟨by simp, (fun x hx => by cases hx)⟩, GB.new w⟩
  case round =>
    obtain ⟨M, xs, rfl, hM, HL, hG⟩ := hrel
    have hxl := lead_len HL.out hN
    have hBel := hG.below
    by_cases h10 : M < 10
    · have h10' : ¬ (10 : Int) ≤ (M : Int) := by omega
      have HE : Hid _ := lead_end HL.out h10
      clear HL
      as_aux_lemma =>
        go_wp2_with (first | (at_builtin; refine wpList_append_own _ rfl _ _ 58 rfl w.heap.size 5 i0 (.int .u8 0) 1 1 Tryz.underlying58 hi hz0 hz1 hz2 rfl (by decide) _ _ _ rfl (hG.own.alloc _) ⟨_, 0, none⟩ 1 1 [_] rfl rfl (cell_one_new _ _ _) (by intro u hu; simp at hu; subst hu; rfl) (by unfold maxLen; omega) (by omega) (by have := hG.size; simp; omega) ?_; intro v' w7 hown hgrow hnil; have hG7 := hG.push (x := 48 + M) _ (congrArg (Value.int .u8) (by omega)) hown hgrow hnil; clear hown hgrow hnil))
        have hE := HE.out
        clear HE
        obtain ⟨ys, hys⟩ : ∃ ys, ys = xs ++ [48 + M] := ⟨_, rfl⟩
        have hyl : ys.length ≤ 20 := by rw [hys, List.length_append]; simp; omega
        rw [← hys] at hE hG7
        have HE : Hid _ := hE
        have hb7 := hG7.below
        have hs7 := hG7.size
        clear hE hys hG
        obtain ⟨g, cap, rfl, hgB, hBR⟩ := hG7.bytes
        clear hG7
        have HB : Hid (BR g ys.length (fun i => ys.getD i 0) w7) := hBR
        clear hBR
        obtain ⟨h2, hh2⟩ : ∃ h2, h2 = ys.length / 2 := ⟨_, rfl⟩
        have hdv : (ys.length : Int) / 2 = (h2 : Int) := by omega
        have HH2 : Hid (h2 = ys.length / 2) := hh2
        have hh3 : 2 * h2 ≤ ys.length := by omega
        clear hh2
        go_wp2_with fail
        go_loopw [4] (fun a W => ∃ (i : Nat) (D : Nat → Nat), a = .int .i64 (i : Int) ∧ i ≤ h2 ∧ Hid (BR g ys.length D W) ∧ Hid (Swp (fun i => ys.getD i 0) D ys.length i) ∧ Below w.heap.size w W) (fun a _ => h2 - (intOf a).toNat)
        case atStart => exact ⟨0, _, rfl, by omega, HB, (fun t ht => by rw [if_neg (by omega)]), hb7⟩
        case round =>
          obtain ⟨i, D, rfl, hi2, HR, HW, hbl⟩ := hrel
          by_cases hlt : i < h2
          · have hlt' : (i : Int) < (h2 : Int) := by omega
            obtain ⟨j, hj⟩ : ∃ j, j = ys.length - 1 - i := ⟨_, rfl⟩
            have hj' : (ys.length : Int) - 1 - (i : Int) = (j : Int) := by omega
            have HW' : Hid _ := swp_step HW.out (by rw [← HH2.out]; exact hlt)
            have c1 := HR.out.dig i (by omega)
            have c2 := HR.out.dig j (by omega)
            have f1 := HR.out.fr
            have HR' : Hid _ := (HR.out.set i (D j) (by omega)).set j (D i) (by omega)
            rw [← hj] at HW'
            have hji : j < ys.length := by omega
            have hji' : (j : Int) < (ys.length : Int) := by omega
            have hii' : (i : Int) < (ys.length : Int) := by omega
            clear HR HW hj
            as_aux_lemma =>
              go_wp2_with fail
              exact ⟨⟨i + 1, _, by go_num, by omega, HR', HW', (hbl.setCell hgB _).setCell hgB _⟩, by simp [intOf]; omega⟩
          · have hlt' : ¬ (i : Int) < (h2 : Int) := by omega
            have hln : (Lib.decDigits N).length = ys.length := by rw [HE.out.1, List.length_map, List.length_reverse]
            have hcv : (convert 58 9 (.slice (some ⟨g, 0, none⟩) ys.length cap)).run Tryz.prog wr = .ok (.string ⟨(Lib.decDigits N).toArray⟩) wr := by
              have h := run_convert_bytes_back (P := Tryz.prog) wr 58 9 5 ⟨g, 0, none⟩ cap (Lib.decDigits N) Tryz.underlying58 Tryz.underlying5 Tryz.underlying9 (fun k hk => by
                have hk' : k < ys.length := by omega
                have a1 := HR.out.dig k hk'
                rw [swp_end HW.out (by rw [← HH2.out]; exact hlt) k hk'] at a1
                have a2 : (⟨g, 0, none⟩ : Addr).add k = ⟨g, k, none⟩ := by
                  unfold Addr.add
                  by_cases h0 : k = 0
                  · subst h0; rfl
                  · rw [if_neg h0]; simp
                rw [a2, a1]
                have a3 : (Lib.decDigits N)[k] = UInt8.ofNat (ys.getD (ys.length - 1 - k) 0) := by
                  have : (Lib.decDigits N)[k]? = some (UInt8.ofNat (ys.getD (ys.length - 1 - k) 0)) := by
                    rw [HE.out.1, List.getElem?_map, List.getElem?_reverse hk', List.getD_eq_getElem?_getD, List.getElem?_eq_getElem (show ys.length - 1 - k < ys.length by omega)]
                    rfl
                  rw [List.getElem?_eq_getElem hk] at this
                  exact Option.some.inj this
                have a4 : ys.getD (ys.length - 1 - k) 0 < 256 := by
                  rw [List.getD_eq_getElem?_getD, List.getElem?_eq_getElem (show ys.length - 1 - k < ys.length by omega)]
                  exact HE.out.2 _ (List.getElem_mem _)
                rw [a3, UInt8.toNat_ofNat', Nat.mod_eq_of_lt a4])
              rw [hln] at h
              exact h
            clear HR HW
            as_aux_lemma =>
              go_wp2_with fail
              go_ret
              exact ⟨rfl, hbl⟩
    · have h10' : (10 : Int) ≤ (M : Int) := by omega
      have HE : Hid _ := lead_step HL.out h10
      obtain ⟨d, hd⟩ : ∃ d, d = M % 10 := ⟨_, rfl⟩
      have e1 : (M : Int) % 10 = (d : Int) := by omega
      have hd10 : d < 10 := by omega
      rw [← hd] at HE
      clear hd
      clear HL
      as_aux_lemma =>
        go_wp2_with (first | (at_builtin; refine wpList_append_own _ rfl _ _ 58 rfl w.heap.size 5 i0 (.int .u8 0) 1 1 Tryz.underlying58 hi hz0 hz1 hz2 rfl (by decide) _ _ _ rfl (hG.own.alloc _) ⟨_, 0, none⟩ 1 1 [_] rfl rfl (cell_one_new _ _ _) (by intro u hu; simp at hu; subst hu; rfl) (by unfold maxLen; omega) (by omega) (by have := hG.size; simp; omega) ?_; intro v' w7 hown hgrow hnil; have hG7 := hG.push (x := 48 + d) _ (congrArg (Value.int .u8) (by omega)) hown hgrow hnil; clear hown hgrow hnil))
        exact ⟨⟨M / 10, _, congrArg (Value.int .u64) (by omega), by omega, HE, hG7⟩, by simp [intOf]; omega⟩
end Go.Proofs.YtmejmohambhaaaaGreatDoor
/- text: the document's, of layer 2. Own work of the verifier. -/
namespace Go.Proofs.YtmejmohambhaaaaGreatDoor
open Go.RowKit Soft

/-- The text of digits d, the first of which has the exponent e. -/
def txt (d : List UInt8) (e : Int) : List UInt8 :=
  if 0 ≤ e ∧ e ≤ 20 then
    if (d.length : Int) ≤ e + 1 then d ++ List.replicate (e + 1 - d.length).toNat 48
    else d.take (e + 1).toNat ++ [46] ++ d.drop (e + 1).toNat
  else if e < 0 ∧ -6 ≤ e then [48, 46] ++ List.replicate (-e - 1).toNat 48 ++ d
  else (d.take 1 ++ (if 1 < d.length then [46] ++ d.drop 1 else [])) ++ (if e < 0 then [101, 45] ++ Lib.decDigits (-e).toNat else [101] ++ Lib.decDigits e.toNat)
theorem cD_le (b : Nat) (t : Int) (n : Nat) (h : Top b t) (hn : n ≤ 17) : cD b (t - n + 1) ≤ 100000000000000000 := by
  have := qN_lt b t n h hn
  unfold cD
  split <;> omega
theorem digs_bound {b c : Nat} {e : Int} (h : DigsOf b c e) : c ≤ 100000000000000000 ∧ -500 ≤ e ∧ e ≤ 500 := by
  rcases h with ⟨t, n, s, hT, n1, n2, _, _, hS, hc, rfl⟩ | ⟨_, rfl, rfl⟩
  · have h1 := cD_le b t n hT n2
    have hc1 : 1 ≤ c := by omega
    have h2 := strp_s hS hc1 h1
    have h3 : c ≤ 100000000000000000 := by
      obtain ⟨j, e1, _⟩ := hS
      have := Nat.le_mul_of_pos_right c (Nat.pow_pos (n := j) (show 0 < 10 by decide))
      omega
    have h4 := Lib.nDigits_le20 c (by omega)
    have h5 := Lib.nDigits_pos c
    have := hT.1
    have := hT.2.1
    omega
  · omega
set_option maxHeartbeats 2000000 in
set_option maxRecDepth 100000 in
theorem text_any (b : Nat) (hb0 : 1 ≤ b) (hb : b < 9218868437227405312) (w : World) :
    Calls Tryz.prog 21 #[.int .u64 (b : Int)] w fun r w' => ∃ (c : Nat) (x : Int), r = .returned (.string ⟨(txt (Lib.decDigits c) x).toArray⟩) ∧ DigsOf b c x ∧ Below w.heap.size w w' := by
  have HDg : Hid _ := fun W => ddigits_any number_any b hb0 hb W
  have HNm : Hid (NumOk) := number_any
  have HZ : Hid (∀ (n : Nat) (W : World), n ≤ 1000000 → Calls Tryz.prog 34 #[.int .i64 (n : Int)] W fun e w' => e = .returned (.string ⟨(List.replicate n 48).toArray⟩) ∧ w' = W) := fun n W hn => zeros_any n hn W
  go_enter Tryz.func21, Tryz.ntmps21
  go_wp2_with fail
  refine (HDg.out _).mono ?_
  rintro r w1 ⟨c, e, rfl, hD, hb1⟩
  clear HDg
  obtain ⟨d1, d2, d3⟩ := digs_bound hD
  have HD : Hid _ := hD
  clear hD
  go_wp2_with fail
  refine (HNm.out c _ (by omega)).mono ?_
  rintro r w2 ⟨rfl, hb2⟩
  have hbw := hb1.trans (hb2.mono hb1.size)
  have hl1 : 1 ≤ (Lib.decDigits c).length := by rw [Lib.decDigits_length]; exact Lib.nDigits_pos c
  have hl2 : (Lib.decDigits c).length ≤ 20 := by rw [Lib.decDigits_length]; exact Lib.nDigits_le20 c (by omega)
  clear hb1 hb2
  generalize hdd : Lib.decDigits c = dd at *
  by_cases a1 : 0 ≤ e
  · obtain ⟨n, rfl⟩ : ∃ n : Nat, e = (n : Int) := ⟨e.toNat, by omega⟩
    by_cases a2 : n ≤ 20
    · have a2' : (n : Int) ≤ 20 := by omega
      by_cases a3 : dd.length ≤ n + 1
      · have a3' : (dd.length : Int) ≤ (n : Int) + 1 := by omega
        obtain ⟨z, hz⟩ : ∃ z, z = n + 1 - dd.length := ⟨_, rfl⟩
        have hz' : (n : Int) + 1 - (dd.length : Int) = (z : Int) := by omega
        have HZ' : Hid _ := fun W => HZ.out z W (by omega)
        have HE : Hid (dd ++ List.replicate z 48 = txt dd (n : Int)) := by
          show _ = txt dd (n : Int)
          unfold txt
          rw [if_pos ⟨by omega, a2'⟩, if_pos a3', show ((n : Int) + 1 - (dd.length : Int)).toNat = z from by omega]
        clear hz
        as_aux_lemma =>
          go_wp2_with fail
          refine (HZ'.out _).mono ?_
          rintro r w3 ⟨rfl, rfl⟩
          go_wp2_with fail
          go_ret
          refine ⟨c, n, congrArg (fun x => Ending.returned (Value.string x)) ?_, HD.out, hbw⟩
          rw [hdd, ← HE.out]
          apply ByteArray.ext
          simp
      · have a3' : ¬ (dd.length : Int) ≤ (n : Int) + 1 := by omega
        have HE : Hid (dd.take (n + 1) ++ [46] ++ dd.drop (n + 1) = txt dd (n : Int)) := by
          show _ = txt dd (n : Int)
          unfold txt
          rw [if_pos ⟨by omega, a2'⟩, if_neg a3', show ((n : Int) + 1).toNat = n + 1 from by omega]
        as_aux_lemma =>
          go_wp2_with fail
          go_quiet (fail)
          go_wp2_with fail
          go_ret
          refine ⟨c, n, congrArg (fun x => Ending.returned (Value.string x)) ?_, HD.out, Below.drewN' hbw _⟩
          rw [hdd, ← HE.out]
          apply ByteArray.ext
          simp
          exact List.take_of_length_le (by simp)
    · have a2' : ¬ (n : Int) ≤ 20 := by omega
      have a4 : ¬ (n : Int) < 0 := by omega
      have HN : Hid _ := fun W => HNm.out n W (by omega)
      have hln : (Lib.decDigits n).length ≤ 20 := by rw [Lib.decDigits_length]; exact Lib.nDigits_le20 n (by omega)
      generalize hdn : Lib.decDigits n = dn at *
      by_cases a3 : 1 < dd.length
      · have a3' : (1 : Int) < (dd.length : Int) := by omega
        have HE : Hid ((dd.take 1 ++ ([46] ++ dd.drop 1)) ++ ([101] ++ dn) = txt dd (n : Int)) := by
          show _ = txt dd (n : Int)
          subst hdn
          unfold txt
          rw [if_neg (fun h => a2' h.2), if_neg (fun h => a4 h.1), if_pos a3, if_neg a4, show ((n : Int)).toNat = n from by omega]
        as_aux_lemma =>
          go_wp2_with fail
          refine (HN.out _).mono ?_
          rintro r w3 ⟨rfl, hb3⟩
          go_wp2_with fail
          go_ret
          refine ⟨c, n, congrArg (fun x => Ending.returned (Value.string x)) ?_, HD.out, hbw.trans (hb3.mono hbw.size)⟩
          rw [hdd, ← HE.out]
          apply ByteArray.ext
          simp
          exact List.take_of_length_le (by simp)
      · have a3' : ¬ (1 : Int) < (dd.length : Int) := by omega
        have HE : Hid ((dd.take 1 ++ []) ++ ([101] ++ dn) = txt dd (n : Int)) := by
          show _ = txt dd (n : Int)
          subst hdn
          unfold txt
          rw [if_neg (fun h => a2' h.2), if_neg (fun h => a4 h.1), if_neg a3, if_neg a4, show ((n : Int)).toNat = n from by omega]
        as_aux_lemma =>
          go_wp2_with fail
          refine (HN.out _).mono ?_
          rintro r w3 ⟨rfl, hb3⟩
          go_wp2_with fail
          go_ret
          refine ⟨c, n, congrArg (fun x => Ending.returned (Value.string x)) ?_, HD.out, hbw.trans (hb3.mono hbw.size)⟩
          rw [hdd, ← HE.out]
          apply ByteArray.ext
          simp
  · obtain ⟨n, rfl⟩ : ∃ n : Nat, e = -(n : Int) := ⟨(-e).toNat, by omega⟩
    have n1 : 1 ≤ n := by omega
    have a4 : -(n : Int) < 0 := by omega
    by_cases a2 : n ≤ 6
    · have a2' : -6 ≤ -(n : Int) := by omega
      obtain ⟨z, hz⟩ : ∃ z, z = n - 1 := ⟨_, rfl⟩
      have hz' : (n : Int) - 1 = (z : Int) := by omega
      have HZ' : Hid _ := fun W => HZ.out z W (by omega)
      have HE : Hid ([48, 46] ++ List.replicate z 48 ++ dd = txt dd (-(n : Int))) := by
        show _ = txt dd (-(n : Int))
        unfold txt
        rw [if_neg (fun h => a1 h.1), if_pos ⟨a4, a2'⟩, show (- -(n : Int) - 1).toNat = z from by omega]
      clear hz
      as_aux_lemma =>
        go_wp2_with fail
        refine (HZ'.out _).mono ?_
        rintro r w3 ⟨rfl, rfl⟩
        go_wp2_with fail
        go_ret
        refine ⟨c, -(n : Int), congrArg (fun x => Ending.returned (Value.string x)) ?_, HD.out, hbw⟩
        rw [hdd, ← HE.out]
        apply ByteArray.ext
        simp
    · have a2' : ¬ -6 ≤ -(n : Int) := by omega
      have HN : Hid _ := fun W => HNm.out n W (by omega)
      have hln : (Lib.decDigits n).length ≤ 20 := by rw [Lib.decDigits_length]; exact Lib.nDigits_le20 n (by omega)
      generalize hdn : Lib.decDigits n = dn at *
      by_cases a3 : 1 < dd.length
      · have a3' : (1 : Int) < (dd.length : Int) := by omega
        have HE : Hid ((dd.take 1 ++ ([46] ++ dd.drop 1)) ++ ([101, 45] ++ dn) = txt dd (-(n : Int))) := by
          show _ = txt dd (-(n : Int))
          subst hdn
          unfold txt
          rw [if_neg (fun h => a1 h.1), if_neg (fun h => a2' h.2), if_pos a3, if_pos a4, show (- -(n : Int)).toNat = n from by omega]
        as_aux_lemma =>
          go_wp2_with fail
          refine (HN.out _).mono ?_
          rintro r w3 ⟨rfl, hb3⟩
          go_wp2_with fail
          go_ret
          refine ⟨c, -(n : Int), congrArg (fun x => Ending.returned (Value.string x)) ?_, HD.out, hbw.trans (hb3.mono hbw.size)⟩
          rw [hdd, ← HE.out]
          apply ByteArray.ext
          simp
          exact List.take_of_length_le (by simp)
      · have a3' : ¬ (1 : Int) < (dd.length : Int) := by omega
        have HE : Hid ((dd.take 1 ++ []) ++ ([101, 45] ++ dn) = txt dd (-(n : Int))) := by
          show _ = txt dd (-(n : Int))
          subst hdn
          unfold txt
          rw [if_neg (fun h => a1 h.1), if_neg (fun h => a2' h.2), if_neg a3, if_pos a4, show (- -(n : Int)).toNat = n from by omega]
        as_aux_lemma =>
          go_wp2_with fail
          refine (HN.out _).mono ?_
          rintro r w3 ⟨rfl, hb3⟩
          go_wp2_with fail
          go_ret
          refine ⟨c, -(n : Int), congrArg (fun x => Ending.returned (Value.string x)) ?_, HD.out, hbw.trans (hb3.mono hbw.size)⟩
          rw [hdd, ← HE.out]
          apply ByteArray.ext
          simp
end Go.Proofs.YtmejmohambhaaaaGreatDoor
/- Print: the document's, of layer 2. Own work of the verifier. -/
namespace Go.Proofs.YtmejmohambhaaaaGreatDoor
open Go.RowKit Soft

/-- What the document's Print answers. -/
def DocText (x : Nat) (l : List UInt8) : Prop :=
  9218868437227405312 < x % 9223372036854775808 ∧ l = [78, 97, 78] ∨ x = 9218868437227405312 ∧ l = [43, 73, 110, 102] ∨ x = 18442240474082181120 ∧ l = [45, 73, 110, 102] ∨ x = 0 ∧ l = [48] ∨ x = 9223372036854775808 ∧ l = [45, 48]
  ∨ (1 ≤ x ∧ x < 9218868437227405312 ∧ ∃ c e, DigsOf x c e ∧ l = txt (Lib.decDigits c) e)
  ∨ (1 ≤ x % 9223372036854775808 ∧ x % 9223372036854775808 < 9218868437227405312 ∧ 9223372036854775808 ≤ x ∧ ∃ c e, DigsOf (x % 9223372036854775808) c e ∧ l = 45 :: txt (Lib.decDigits c) e)
theorem and_sign (x : Nat) (h : x < 18446744073709551616) : bits .and .u64 (x : Int) 9223372036854775808 = if x < 9223372036854775808 then 0 else 9223372036854775808 := by
  have h1 := u64_and_nat x 9223372036854775808 h (by decide)
  have h2 : x &&& 9223372036854775808 = if x < 9223372036854775808 then 0 else 9223372036854775808 := by
    rw [show (9223372036854775808 : Nat) = 2 ^ 63 from by decide]
    have h63 : x.testBit 63 = decide (¬ x < 2 ^ 63) := by
      rw [Nat.testBit_eq_decide_div_mod_eq]
      rw [show (2 : Nat) ^ 63 = 9223372036854775808 from by decide]
      rw [decide_eq_decide]
      omega
    apply Nat.eq_of_testBit_eq
    intro i
    rw [Nat.testBit_and, Nat.testBit_two_pow]
    by_cases e : 63 = i
    · subst e
      rw [h63]
      by_cases g : x < 2 ^ 63
      · rw [if_pos g]; simp [g]
      · rw [if_neg g, Nat.testBit_two_pow]; simp [g]
    · rw [decide_eq_false e, Bool.and_false]
      by_cases g : x < 2 ^ 63
      · rw [if_pos g]; simp
      · rw [if_neg g, Nat.testBit_two_pow, decide_eq_false e]
  rw [h2] at h1
  rw [show ((9223372036854775808 : Nat) : Int) = 9223372036854775808 from rfl] at h1
  rw [h1]
  split <;> rfl
theorem txt_len {b c : Nat} {e : Int} (h : DigsOf b c e) : (txt (Lib.decDigits c) e).length ≤ 5000 := by
  obtain ⟨d1, d2, d3⟩ := digs_bound h
  have hl2 : (Lib.decDigits c).length ≤ 20 := by rw [Lib.decDigits_length]; exact Lib.nDigits_le20 c (by omega)
  have hl3 : (Lib.decDigits (-e).toNat).length ≤ 20 := by rw [Lib.decDigits_length]; exact Lib.nDigits_le20 _ (by omega)
  have hl4 : (Lib.decDigits e.toNat).length ≤ 20 := by rw [Lib.decDigits_length]; exact Lib.nDigits_le20 _ (by omega)
  unfold txt
  split
  · split
    · rw [List.length_append, List.length_replicate]; omega
    · simp; omega
  · split
    · simp; omega
    · split <;> split <;> (simp; omega)
set_option maxHeartbeats 2000000 in
set_option maxRecDepth 100000 in
theorem dprint_any (x : Nat) (hx : x < 18446744073709551616) (w : World) :
    Calls Tryz.prog 8 #[.float .f64 x] w fun r w' => ∃ l, r = .returned (.string ⟨l.toArray⟩) ∧ DocText x l ∧ Below w.heap.size w w' := by
  have hm := mf64bits x
  have hc := clear_sign x hx
  have ha := and_sign x hx
  have HTx : Hid (∀ b : Nat, 1 ≤ b → b < 9218868437227405312 → ∀ W, Calls Tryz.prog 21 #[.int .u64 (b : Int)] W fun r w' => ∃ (c : Nat) (e : Int), r = .returned (.string ⟨(txt (Lib.decDigits c) e).toArray⟩) ∧ DigsOf b c e ∧ Below W.heap.size W w') := fun b h0 h1 W => text_any b h0 h1 W
  have HT0 : Hid (∀ l, DocText x l ↔ DocText x l) := fun l => Iff.rfl
  clear HT0
  obtain ⟨y, hy⟩ : ∃ y, y = x % 9223372036854775808 := ⟨_, rfl⟩
  rw [← hy] at hc
  by_cases n1 : 9218868437227405312 < y
  · have n1' : (9218868437227405312 : Int) < (y : Int) := by omega
    have HX : Hid (DocText x [78, 97, 78]) := Or.inl ⟨by rw [← hy]; exact n1, rfl⟩
    clear ha hy
    as_aux_lemma =>
      go_enter Tryz.func8, Tryz.ntmps8
      go_wp2_with fail
      go_ret
      exact ⟨_, rfl, HX.out, Below.refl _ _⟩
  have n1' : ¬ (9218868437227405312 : Int) < (y : Int) := by omega
  by_cases n2 : x = 9218868437227405312
  · have n2' : ((x : Int) == 9218868437227405312) = true := by rw [beq_iff_eq]; omega
    have N2 : Hid _ := n2
    have HX : Hid (DocText x [43, 73, 110, 102]) := Or.inr (Or.inl ⟨N2.out, rfl⟩)
    clear ha hy n2
    as_aux_lemma =>
      go_enter Tryz.func8, Tryz.ntmps8
      go_wp2_with fail
      go_ret
      exact ⟨_, rfl, HX.out, Below.refl _ _⟩
  have n2' : ((x : Int) == 9218868437227405312) = false := by rw [beq_eq_false_iff_ne]; omega
  by_cases n3 : x = 18442240474082181120
  · have n3' : ((x : Int) == 18442240474082181120) = true := by rw [beq_iff_eq]; omega
    have N3 : Hid _ := n3
    have HX : Hid (DocText x [45, 73, 110, 102]) := Or.inr (Or.inr (Or.inl ⟨N3.out, rfl⟩))
    clear ha hy n3
    as_aux_lemma =>
      go_enter Tryz.func8, Tryz.ntmps8
      go_wp2_with fail
      go_ret
      exact ⟨_, rfl, HX.out, Below.refl _ _⟩
  have n3' : ((x : Int) == 18442240474082181120) = false := by rw [beq_eq_false_iff_ne]; omega
  by_cases n4 : x = 0
  · have n4' : ((x : Int) == 0) = true := by rw [beq_iff_eq]; omega
    have N4 : Hid _ := n4
    have HX : Hid (DocText x [48]) := Or.inr (Or.inr (Or.inr (Or.inl ⟨N4.out, rfl⟩)))
    clear ha hy n4
    as_aux_lemma =>
      go_enter Tryz.func8, Tryz.ntmps8
      go_wp2_with fail
      go_ret
      exact ⟨_, rfl, HX.out, Below.refl _ _⟩
  have n4' : ((x : Int) == 0) = false := by rw [beq_eq_false_iff_ne]; omega
  by_cases n5 : x = 9223372036854775808
  · have n5' : ((x : Int) == 9223372036854775808) = true := by rw [beq_iff_eq]; omega
    have N5 : Hid _ := n5
    have HX : Hid (DocText x [45, 48]) := Or.inr (Or.inr (Or.inr (Or.inr (Or.inl ⟨N5.out, rfl⟩))))
    clear ha hy n5
    as_aux_lemma =>
      go_enter Tryz.func8, Tryz.ntmps8
      go_wp2_with fail
      go_ret
      exact ⟨_, rfl, HX.out, Below.refl _ _⟩
  have n5' : ((x : Int) == 9223372036854775808) = false := by rw [beq_eq_false_iff_ne]; omega
  have y1 : 1 ≤ y := by omega
  have y2 : y < 9218868437227405312 := by omega
  by_cases n6 : x < 9223372036854775808
  · have HT' : Hid _ := fun W => HTx.out x (by omega) (by omega) W
    rw [if_pos n6] at ha
    have x2 : x < 9218868437227405312 := by omega
    have HX : Hid (∀ c e, DigsOf x c e → DocText x (txt (Lib.decDigits c) e)) := fun c e h => Or.inr (Or.inr (Or.inr (Or.inr (Or.inr (Or.inl ⟨by omega, x2, c, e, h, rfl⟩)))))
    clear hy
    as_aux_lemma =>
      go_enter Tryz.func8, Tryz.ntmps8
      go_wp2_with fail
      with_reducible refine (HT'.out _).mono ?_
      rintro r w1 ⟨c, e, rfl, hD, hb1⟩
      go_wp2_with fail
      go_ret
      exact ⟨_, rfl, HX.out c e hD, hb1⟩
  · have HT' : Hid _ := fun W => HTx.out y y1 y2 W
    rw [if_neg n6] at ha
    have hlen : ∀ c e, DigsOf y c e → (txt (Lib.decDigits c) e).length ≤ 5000 := fun c e h => txt_len h
    have HLn : Hid _ := hlen
    have HX : Hid (∀ c e, DigsOf y c e → DocText x (45 :: txt (Lib.decDigits c) e)) := fun c e h => Or.inr (Or.inr (Or.inr (Or.inr (Or.inr (Or.inr ⟨by omega, by omega, by omega, c, e, by rw [← hy]; exact h, rfl⟩)))))
    clear hlen hy
    as_aux_lemma =>
      go_enter Tryz.func8, Tryz.ntmps8
      go_wp2_with fail
      with_reducible refine (HT'.out _).mono ?_
      rintro r w1 ⟨c, e, rfl, hD, hb1⟩
      have hl := HLn.out c e hD
      have HD : Hid _ := hD
      clear hD
      generalize hg : txt (Lib.decDigits c) e = tt at *
      go_wp2_with fail
      go_ret
      refine ⟨45 :: tt, congrArg (fun x => Ending.returned (Value.string x)) ?_, by rw [← hg]; exact HX.out c e HD.out, hb1⟩
      apply ByteArray.ext
      simp
end Go.Proofs.YtmejmohambhaaaaGreatDoor
/- THE DIGITS THAT THE LIBRARY PRINTS ARE THE DOCUMENT'S: the interval, and which numbers lie in it. Own work of the verifier. -/
namespace Go.Proofs.YtmejmohambhaaaaGreatDoor
open Soft

theorem pM_mOf (b : Nat) : pM b = mOf b := by unfold pM mOf; split <;> split <;> omega
theorem pK_xOf (b : Nat) : pK b = xOf b := by unfold pK xOf; split <;> split <;> omega
/-- What both sides of a comparison have in common. -/
def fac (s k : Int) : Nat := pw 2 (1200 - (-k).toNat) * pw 10 (400 - (-s).toNat)
theorem fac_pos (s k : Int) : 0 < fac s k := Nat.mul_pos (pw_pos _ (by decide)) (pw_pos _ (by decide))
theorem V_left (c : Nat) (s k : Int) (hs : -400 ≤ s) (hk : -1200 ≤ k) : V c 0 s = c * 10 ^ s.toNat * 2 ^ (-k).toNat * fac s k := by
  show V c 0 s = c * pw 10 s.toNat * pw 2 (-k).toNat * fac s k
  unfold V fac
  rw [show ((0 : Int) + 1200).toNat = (-k).toNat + (1200 - (-k).toNat) from by omega, show (s + 400).toNat = s.toNat + (400 - (-s).toNat) from by omega, pw_add, pw_add]
  generalize pw 2 (-k).toNat = a1
  generalize pw 2 (1200 - (-k).toNat) = a2
  generalize pw 10 s.toNat = a3
  generalize pw 10 (400 - (-s).toNat) = a4
  grind
theorem V_right (l : Nat) (s k : Int) (hs : -400 ≤ s) (hk : -1200 ≤ k) : V l k 0 = l * 10 ^ (-s).toNat * 2 ^ k.toNat * fac s k := by
  show V l k 0 = l * pw 10 (-s).toNat * pw 2 k.toNat * fac s k
  unfold V fac
  rw [show ((0 : Int) + 400).toNat = (-s).toNat + (400 - (-s).toNat) from by omega, show (k + 1200).toNat = k.toNat + (1200 - (-k).toNat) from by omega, pw_add, pw_add]
  generalize pw 2 k.toNat = a1
  generalize pw 2 (1200 - (-k).toNat) = a2
  generalize pw 10 (-s).toNat = a3
  generalize pw 10 (400 - (-s).toNat) = a4
  grind
theorem cmpN_mul (a b F : Nat) (hF : 0 < F) : cmpN (a * F) (b * F) = cmpN a b := by
  rcases Nat.lt_trichotomy a b with h | h | h
  · rw [cmpN_lt h, cmpN_lt (Nat.mul_lt_mul_of_pos_right h hF)]
  · rw [cmpN_eq h, cmpN_eq (by rw [h])]
  · rw [cmpN_gt h, cmpN_gt (Nat.mul_lt_mul_of_pos_right h hF)]
theorem AG_V (c l : Nat) (s k : Int) (hs : -400 ≤ s) (hk : -1200 ≤ k) : AG c s l k = cmpN (V c 0 s) (V l k 0) := by
  rw [V_left c s k hs hk, V_right l s k hs hk, cmpN_mul _ _ _ (fac_pos s k)]
  rfl
/-- The ends of a float's interval, and the float, in units. -/
def eL (b : Nat) : Nat := V (lowM b) (pK b - 2) 0
def eH (b : Nat) : Nat := V (4 * pM b + 2) (pK b - 2) 0
def eX (b : Nat) : Nat := V (pM b) (pK b) 0
theorem eX_four (b : Nat) : eX b = V (4 * pM b) (pK b - 2) 0 := by
  have h := pK_low b
  have := V_two (pM b) 2 (pK b - 2) 0 (by omega)
  rw [show pK b - 2 + ((2 : Nat) : Int) = pK b from by omega, show pM b * 2 ^ 2 = 4 * pM b from by omega] at this
  exact this.symm
theorem V_lt {x y : Nat} (e p : Int) (h : x < y) : V x e p < V y e p := by
  rcases Nat.lt_or_ge (V x e p) (V y e p) with g | g
  · exact g
  · have := (V_mono e p).1 g; omega
theorem e_order (b : Nat) (hb : 1 ≤ b) : eL b < eX b ∧ eX b < eH b := by
  have h := pM_pos b hb
  rw [eX_four]
  unfold eL eH
  refine ⟨V_lt _ _ ?_, V_lt _ _ (by omega)⟩
  unfold lowM
  split <;> omega
/-- v 10^s lies within the interval of the float. -/
def In (b v : Nat) (s : Int) : Prop := eL b ≤ V v 0 s ∧ V v 0 s ≤ eH b ∧ (pM b % 2 = 1 → eL b < V v 0 s ∧ V v 0 s < eH b)
theorem side_in (b v : Nat) (s : Int) (hs : -400 ≤ s) : SideN b v s = 0 ↔ In b v s := by
  have h := pK_low b
  unfold SideN In
  rw [AG_V _ _ _ _ hs (by omega), AG_V _ _ _ _ hs (by omega)]
  show (if cmpN (V v 0 s) (eL b) < 0 ∨ cmpN (V v 0 s) (eL b) = 0 ∧ pM b % 2 = 1 then (-1 : Int) else if 0 < cmpN (V v 0 s) (eH b) ∨ cmpN (V v 0 s) (eH b) = 0 ∧ pM b % 2 = 1 then 1 else 0) = 0 ↔ _
  generalize V v 0 s = w
  generalize eL b = L
  generalize eH b = H
  generalize pM b = m
  have tri : ∀ x y : Nat, cmpN x y = -1 ∧ x < y ∨ cmpN x y = 0 ∧ x = y ∨ cmpN x y = 1 ∧ y < x := fun x y => by
    rcases Nat.lt_trichotomy x y with h | h | h
    · exact Or.inl ⟨cmpN_lt h, h⟩
    · exact Or.inr (Or.inl ⟨cmpN_eq h, h⟩)
    · exact Or.inr (Or.inr ⟨cmpN_gt h, h⟩)
  have t1 := tri w L
  have t2 := tri w H
  generalize cmpN w L = z1 at *
  generalize cmpN w H = z2 at *
  constructor
  · intro h
    by_cases c1 : z1 < 0 ∨ z1 = 0 ∧ m % 2 = 1
    · rw [if_pos c1] at h
      exact absurd h (by decide)
    · rw [if_neg c1] at h
      by_cases c2 : 0 < z2 ∨ z2 = 0 ∧ m % 2 = 1
      · rw [if_pos c2] at h
        exact absurd h (by decide)
      · exact ⟨by omega, by omega, fun ho => ⟨by omega, by omega⟩⟩
  · rintro ⟨h1, h2, h3⟩
    rw [if_neg (by omega), if_neg (by omega)]
/-- The quotient, and its half. -/
theorem q_V (b : Nat) (s : Int) (hs : -400 ≤ s) : V (qN b s) 0 s ≤ eX b ∧ eX b < V (qN b s + 1) 0 s ∧ hN b s = cmpN (2 * eX b) (V (2 * qN b s + 1) 0 s) := by
  have h := pK_low b
  have hF := fac_pos s (pK b)
  have e1 : ∀ c, V c 0 s = c * rY b s * fac s (pK b) := fun c => by
    rw [V_left c s (pK b) hs (by omega)]
    unfold rY
    rw [Nat.one_mul, Nat.mul_assoc c, Nat.mul_comm (10 ^ s.toNat)]
  have e2 : eX b = rX b s * fac s (pK b) := by
    unfold eX
    rw [V_right (pM b) s (pK b) hs (by omega)]
    unfold rX
    rw [Nat.mul_right_comm (pM b)]
  have hy := rY_pos b s
  have hd := Nat.div_add_mod (rX b s) (rY b s)
  have hm := Nat.mod_lt (rX b s) hy
  rw [e1, e1, e1, e2]
  unfold hN
  have eq : rX b s / rY b s = qN b s := rfl
  rw [eq] at hd
  generalize qN b s = q at *
  generalize rX b s % rY b s = r at *
  generalize rX b s = x at *
  generalize rY b s = y at *
  generalize fac s (pK b) = F at *
  rw [Nat.mul_comm y q] at hd
  refine ⟨Nat.mul_le_mul_right _ (by omega), Nat.mul_lt_mul_of_pos_right (by rw [Nat.add_mul, Nat.one_mul]; omega) hF, ?_⟩
  rw [← Nat.mul_assoc 2 x F, cmpN_mul _ _ _ hF, ← hd, Nat.mul_add, Nat.add_mul, Nat.one_mul, Nat.mul_assoc 2 q y]
  generalize q * y = z
  unfold cmpN
  rcases Nat.lt_trichotomy (r * 2) y with g | g | g
  · rw [if_pos g, if_pos (by omega)]
  · rw [if_neg (by omega), if_neg (by omega), if_neg (by omega), if_neg (by omega)]
  · rw [if_neg (by omega), if_pos g, if_neg (by omega), if_pos (by omega)]
theorem in_tens (b v : Nat) (s : Int) (j : Nat) (hs : -400 ≤ s) : In b v (s + j) ↔ In b (v * 10 ^ j) s := by
  induction j generalizing v with
  | zero => rw [Nat.pow_zero, Nat.mul_one, show s + ((0 : Nat) : Int) = s from by omega]
  | succ j ih =>
    have e : In b v (s + ((j + 1 : Nat) : Int)) ↔ In b (v * 10) (s + (j : Int)) := by
      unfold In
      rw [V_ten v 0 (s + (j : Int)) (by omega), show s + ((j + 1 : Nat) : Int) = s + (j : Int) + 1 from by omega]
    rw [e, ih (v * 10), Nat.mul_assoc, Nat.pow_succ, Nat.mul_comm 10]
theorem okD_ex (b : Nat) (s : Int) (hb : 1 ≤ b) (hs : -400 ≤ s) : okD b s ↔ ∃ v, In b v s := by
  unfold okD
  rw [side_in _ _ _ hs, side_in _ _ _ hs]
  constructor
  · rintro (h | h)
    · exact ⟨_, h⟩
    · exact ⟨_, h⟩
  · rintro ⟨v, h1, h2, h3⟩
    obtain ⟨o1, o2⟩ := e_order b hb
    obtain ⟨q1, q2, _⟩ := q_V b s hs
    rcases Nat.lt_or_ge (qN b s) v with g | g
    · have k := (V_mono (x := qN b s + 1) (y := v) 0 s).2 g
      exact Or.inr ⟨by omega, by omega, fun ho => by have := h3 ho; omega⟩
    · have k := (V_mono (x := v) (y := qN b s) 0 s).2 g
      exact Or.inl ⟨by omega, by omega, fun ho => by have := h3 ho; omega⟩
theorem cD_in (b : Nat) (s : Int) (hs : -400 ≤ s) (h : okD b s) : In b (cD b s) s := by
  unfold cD
  unfold okD at h
  split
  · rename_i g
    refine (side_in _ _ _ hs).1 ?_
    rcases g with g | g
    · rcases h with k | k
      · exact absurd k g
      · exact k
    · exact g.1
  · rename_i g
    refine (side_in _ _ _ hs).1 ?_
    by_cases k : SideN b (qN b s) s = 0
    · exact k
    · exact absurd (Or.inl k) g
/-- Within an interval that is narrower than a step there is one number at most. -/
theorem in_one (b u v : Nat) (s : Int) (hw : eH b < eL b + V 1 0 s) (hu : In b u s) (hv : In b v s) : u = v := by
  have k : ∀ x, V x 0 s = x * V 1 0 s := fun x => by have := V_mul x 1 0 s; rwa [Nat.mul_one] at this
  have a1 := hu.1
  have a2 := hu.2.1
  have b1 := hv.1
  have b2 := hv.2.1
  rw [k] at a1 a2 b1 b2
  generalize V 1 0 s = T at *
  rcases Nat.lt_trichotomy u v with g | g | g
  · have : (u + 1) * T ≤ v * T := Nat.mul_le_mul_right _ g
    rw [Nat.add_mul, Nat.one_mul] at this
    omega
  · exact g
  · have : (v + 1) * T ≤ u * T := Nat.mul_le_mul_right _ g
    rw [Nat.add_mul, Nat.one_mul] at this
    omega
theorem sd_In (b : Nat) (h0 : 1 ≤ b) (h1 : b < 9218868437227405312) : In b (sd b).1 (sd b).2 := by
  obtain ⟨a1, a2, a3, a4⟩ := sd_in b h0 h1
  rw [← pM_mOf, ← pK_xOf] at a1 a2 a3 a4
  have hk := pK_low b
  have hp := pM_pos b h0
  have e1 : V (2 * pM b - 1) (pK b - 1) 0 = V (4 * pM b - 2) (pK b - 2) 0 := by
    have := V_two (2 * pM b - 1) 1 (pK b - 2) 0 (by omega)
    rw [show pK b - 2 + ((1 : Nat) : Int) = pK b - 1 from by omega, show (2 * pM b - 1) * 2 ^ 1 = 4 * pM b - 2 from by omega] at this
    exact this.symm
  have e2 : V (2 * pM b + 1) (pK b - 1) 0 = eH b := by
    have := V_two (2 * pM b + 1) 1 (pK b - 2) 0 (by omega)
    rw [show pK b - 2 + ((1 : Nat) : Int) = pK b - 1 from by omega, show (2 * pM b + 1) * 2 ^ 1 = 4 * pM b + 2 from by omega] at this
    exact this.symm
  rw [e1, e2] at a3
  rw [e1] at a1
  rw [e2] at a2
  unfold In eL lowM
  by_cases hc : pM b = 4503599627370496 ∧ 1 < b / 4503599627370496
  · rw [if_pos hc]
    refine ⟨a4 hc.1 (by unfold pK; rw [if_neg (by omega)]; omega), a2, fun ho => ?_⟩
    rw [hc.1] at ho
    exact absurd ho (by decide)
  · rw [if_neg hc]
    exact ⟨a1, a2, fun ho => by have := a3 ho; omega⟩
end Go.Proofs.YtmejmohambhaaaaGreatDoor
/- THE DIGITS THAT THE LIBRARY PRINTS ARE THE DOCUMENT'S: the library's own choice. Own work of the verifier. -/
namespace Go.Proofs.YtmejmohambhaaaaGreatDoor
open Soft

theorem V_add (x y : Nat) (e p : Int) : V (x + y) e p = V x e p + V y e p := by
  unfold V
  rw [Nat.add_mul, Nat.add_mul]
theorem cmp2 (l y : Nat) (e p : Int) (hy : 6 ≤ y) (hl : 1 ≤ l) (hx : l * 2 ^ y < 18446744073709551616) (hs0 : 5 ≤ -(e + l2 p + 3)) (hs1 : -(e + l2 p + 3) ≤ 63) (hp0 : -348 ≤ p) (hp1 : p ≤ 347) (he : -1200 ≤ e) (n : Nat) :
    (2 * n ≤ scl (l * 2 ^ y) e p ↔ V (2 * n) 0 (-p) ≤ V l (e + 2 + y) 0) ∧ (scl (l * 2 ^ y) e p ≤ 2 * n ↔ V l (e + 2 + y) 0 ≤ V (2 * n) 0 (-p)) := by
  have h64 : l * 2 ^ y = 64 * (l * 2 ^ (y - 6)) := by
    rw [show (2 : Nat) ^ y = 2 ^ (y - 6) * 2 ^ 6 from by rw [← Nat.pow_add]; congr 1; omega]
    rw [show (2 : Nat) ^ 6 = 64 from rfl, ← Nat.mul_assoc, Nat.mul_comm]
  have hT : 0 < 2 ^ (y - 6) := Nat.pow_pos (by decide)
  have hlT : 0 < l * 2 ^ (y - 6) := Nat.mul_pos hl hT
  have k := scl_un (l * 2 ^ (y - 6)) e p hlT (by omega) hs0 hs1 hp0 hp1 he n
  rw [← h64] at k
  have m1 := V_le_mv (l * 2 ^ y) (2 * n) e p (-2) 0 2 (-p) he (by omega) (by decide) (by decide) (by omega) (by omega) (by decide) (by omega)
  have m2 := V_le_mv (2 * n) (l * 2 ^ y) (-2) 0 e p 2 (-p) (by decide) (by decide) he (by omega) (by decide) (by omega) (by omega) (by omega)
  rw [show p + -p = 0 from by omega, show (-2 : Int) + 2 = 0 from by decide, show (0 : Int) + -p = -p from by omega, V_two l y (e + 2) 0 (by omega)] at m1 m2
  exact ⟨k.1.trans m2.symm, k.2.trans m1.symm⟩
/-- What the library chooses by. -/
structure Chs (b y : Nat) (e p : Int) : Prop where
  eq : sd b = pick (4 * pM b * 2 ^ y) (lowM b * 2 ^ y) ((4 * pM b + 2) * 2 ^ y) (pM b % 2) e p
  ey : e + 2 + (y : Int) = pK b
  ok : okE e p = true
  s0 : 5 ≤ -(e + l2 p + 3)
  s1 : -(e + l2 p + 3) ≤ 63
  he : -1200 ≤ e
  hy : 6 ≤ y
  lo : 4611686018427387904 ≤ lowM b * 2 ^ y
  hi : (4 * pM b + 2) * 2 ^ y < 18446744073709551616
  w1 : V 1 0 (-p) + eL b ≤ eH b
  w2 : eH b < eL b + V 10 0 (-p)
  w3 : eX b < V 100000000000000000 0 (-p)
  w4 : 10 ≤ pM b ∨ p = 324 ∧ pK b = -1074
def widN (K : Int) : Bool := decide (V 1 0 (l10 K) ≤ V 4 (K - 2) 0) && decide (V 4 (K - 2) 0 < V 10 0 (l10 K))
theorem widN_ok : (List.range 2046).all (fun i => widN ((i : Int) - 1074)) = true := by decide +kernel
theorem wid_norm (K : Int) (h0 : -1074 ≤ K) (h1 : K ≤ 971) : V 1 0 (l10 K) ≤ V 4 (K - 2) 0 ∧ V 4 (K - 2) 0 < V 10 0 (l10 K) := by
  have := List.all_eq_true.1 widN_ok (K + 1074).toNat (List.mem_range.2 (by omega))
  rw [show (((K + 1074).toNat : Nat) : Int) - 1074 = K from by omega] at this
  unfold widN at this
  rw [Bool.and_eq_true, decide_eq_true_eq, decide_eq_true_eq] at this
  exact this
def widT (K : Int) : Bool := decide (V 1 0 (skw K) ≤ V 3 (K - 2) 0) && decide (V 3 (K - 2) 0 < V 10 0 (skw K)) && decide (5 ≤ -(K - 11 + l2 (-(skw K)) + 3)) && decide (-(K - 11 + l2 (-(skw K)) + 3) ≤ 63)
theorem widT_ok : (List.range 2045).all (fun i => widT ((i : Int) - 1073)) = true := by decide +kernel
theorem wid_two (K : Int) (h0 : -1073 ≤ K) (h1 : K ≤ 971) : V 1 0 (skw K) ≤ V 3 (K - 2) 0 ∧ V 3 (K - 2) 0 < V 10 0 (skw K) ∧ 5 ≤ -(K - 11 + l2 (-(skw K)) + 3) ∧ -(K - 11 + l2 (-(skw K)) + 3) ≤ 63 := by
  have := List.all_eq_true.1 widT_ok (K + 1073).toNat (List.mem_range.2 (by omega))
  rw [show (((K + 1073).toNat : Nat) : Int) - 1073 = K from by omega] at this
  unfold widT at this
  rw [Bool.and_eq_true, Bool.and_eq_true, Bool.and_eq_true, decide_eq_true_eq, decide_eq_true_eq, decide_eq_true_eq, decide_eq_true_eq] at this
  exact ⟨this.1.1.1, this.1.1.2, this.1.2, this.2⟩
/-- The widths, where both halves are alike. -/
theorem wide4 (b : Nat) (p : Int) (hb : 1 ≤ b) (hl : lowM b = 4 * pM b - 2) (h1 : V 1 0 (-p) ≤ V 4 (pK b - 2) 0) (h2 : V 4 (pK b - 2) 0 < V 10 0 (-p)) :
    V 1 0 (-p) + eL b ≤ eH b ∧ eH b < eL b + V 10 0 (-p) ∧ eX b < V 100000000000000000 0 (-p) := by
  have hM := pM_pos b hb
  have hM1 := pM_lt b
  have e1 : eH b = eL b + V 4 (pK b - 2) 0 := by
    unfold eH eL
    rw [← V_add, hl, show 4 * pM b - 2 + 4 = 4 * pM b + 2 from by omega]
  have e2 : eX b = pM b * V 4 (pK b - 2) 0 := by
    rw [eX_four, ← V_mul, Nat.mul_comm 4]
  refine ⟨by omega, by omega, ?_⟩
  rw [e2]
  have a1 : pM b * V 4 (pK b - 2) 0 < pM b * V 10 0 (-p) := Nat.mul_lt_mul_of_pos_left h2 hM
  rw [← V_mul (pM b) 10] at a1
  exact Nat.lt_of_lt_of_le a1 ((V_mono _ _).2 (by omega))
theorem wide3 (b : Nat) (p : Int) (hM : pM b = 4503599627370496) (hl : lowM b = 4 * pM b - 1) (h1 : V 1 0 (-p) ≤ V 3 (pK b - 2) 0) (h2 : V 3 (pK b - 2) 0 < V 10 0 (-p)) :
    V 1 0 (-p) + eL b ≤ eH b ∧ eH b < eL b + V 10 0 (-p) ∧ eX b < V 100000000000000000 0 (-p) := by
  have e1 : eH b = eL b + V 3 (pK b - 2) 0 := by
    unfold eH eL
    rw [← V_add, hl, show 4 * pM b - 1 + 3 = 4 * pM b + 2 from by omega]
  refine ⟨by omega, by omega, ?_⟩
  rw [eX_four]
  have a0 : V (4 * pM b) (pK b - 2) 0 ≤ V (6004799503160662 * 3) (pK b - 2) 0 := (V_mono _ _).2 (by omega)
  rw [V_mul 6004799503160662 3] at a0
  have a1 : 6004799503160662 * V 3 (pK b - 2) 0 < 6004799503160662 * V 10 0 (-p) := Nat.mul_lt_mul_of_pos_left h2 (by decide)
  rw [← V_mul 6004799503160662 10] at a1
  exact Nat.lt_of_le_of_lt a0 (Nat.lt_of_lt_of_le a1 ((V_mono _ _).2 (by decide)))
theorem chs (b : Nat) (h0 : 1 ≤ b) (h1 : b < 9218868437227405312) : ∃ (y : Nat) (e p : Int), Chs b y e p := by
  by_cases h : b < 4503599627370496
  · obtain ⟨z, hz, hz', z0, z1, z2, z3, _, z5⟩ := sub_bits b h0 h
    have eM : pM b = b := by unfold pM; rw [if_pos (by omega)]
    have eK : pK b = -1074 := by unfold pK; rw [if_pos (by omega)]
    have eLo : lowM b = 4 * b - 2 := by unfold lowM; rw [if_neg (by omega), eM]
    have ez : 2 ^ z = 4 * 2 ^ (z - 2) := by
      rw [show 4 * 2 ^ (z - 2) = 2 ^ (z - 2) * 2 ^ 2 from by omega, ← Nat.pow_add]; congr 1; omega
    have ez1 : 2 ^ (z - 1) = 2 * 2 ^ (z - 2) := by
      rw [show 2 * 2 ^ (z - 2) = 2 ^ (z - 2) * 2 ^ 1 from by omega, ← Nat.pow_add]; congr 1; omega
    have hg : 2 ^ (z - 2) ≤ 2 ^ 61 := Nat.pow_le_pow_right (by decide) (by omega)
    have h61 : (2 : Nat) ^ 61 = 2305843009213693952 := by decide
    have w := wide4 b 324 h0 (by rw [eLo, eM]) (by have := (wid_norm (-1074) (by decide) (by decide)).1; rw [eK]; exact this) (by have := (wid_norm (-1074) (by decide) (by decide)).2; rw [eK]; exact this)
    have a1 : 4 * b * 2 ^ (z - 2) = b * 2 ^ z := by rw [ez]; generalize 2 ^ (z - 2) = T; grind
    have a2 : (4 * b - 2) * 2 ^ (z - 2) = b * 2 ^ z - 2 ^ (z - 1) := by rw [Nat.sub_mul, a1, ez1]
    have a3 : (4 * b + 2) * 2 ^ (z - 2) = b * 2 ^ z + 2 ^ (z - 1) := by rw [Nat.add_mul, a1, ez1]
    obtain ⟨s0, s1⟩ := s_sub (-1074 - (z : Int)) (by omega) (by omega)
    refine ⟨z - 2, -1074 - (z : Int), 324, ?_, by rw [eK]; omega, ok_sub _ (by omega) (by omega), s0, s1, by omega, by omega, ?_, ?_, w.1, w.2.1, w.2.2, ?_⟩
    · rw [sd_low b h, hz, short_low b z z0, eM, eLo, a1, a2, a3]
      rfl
    · rw [eLo, a2]; omega
    · rw [eM, a3]; exact z5
    · exact Or.inr ⟨rfl, eK⟩
  · have eM : pM b = b % 4503599627370496 + 4503599627370496 := by unfold pM; rw [if_neg (by omega)]
    have eK : pK b = (b / 4503599627370496 : Nat) - 1075 := by unfold pK; rw [if_neg (by omega)]
    have hq : b / 4503599627370496 < 2047 := by omega
    have hq1 : 1 ≤ b / 4503599627370496 := by omega
    have hr : b % 4503599627370496 < 4503599627370496 := Nat.mod_lt _ (by decide)
    have hs := sd_norm b (by omega) h1
    have hLo : lowM b = if b % 4503599627370496 = 0 ∧ 1 < b / 4503599627370496 then 4 * pM b - 1 else 4 * pM b - 2 := by
      unfold lowM
      rw [eM]
      by_cases c : b % 4503599627370496 = 0 ∧ 1 < b / 4503599627370496
      · rw [if_pos c, if_pos ⟨by omega, c.2⟩]
      · rw [if_neg c, if_neg (by omega)]
    generalize b / 4503599627370496 = q at *
    generalize b % 4503599627370496 = r at *
    have e9 : (2 : Nat) ^ 9 = 512 := by decide
    by_cases hn : r = 0 ∧ 1 < q
    · rw [if_pos hn] at hLo
      obtain ⟨rfl, hn2⟩ := hn
      have eM' : pM b = 4503599627370496 := by rw [eM]
      obtain ⟨v1, v2, v3, v4⟩ := wid_two (pK b) (by omega) (by omega)
      have w := wide3 b (-(skw (pK b))) eM' hLo (by rw [Int.neg_neg]; exact v1) (by rw [Int.neg_neg]; exact v2)
      have ek := (ok_norm (pK b - 11) (by omega) (by omega)).2
      rw [show pK b - 11 + 11 = pK b from by omega] at ek
      refine ⟨9, pK b - 11, -(skw (pK b)), ?_, by omega, ek, v3, v4, by omega, by decide, ?_, ?_, w.1, w.2.1, w.2.2, Or.inl (by omega)⟩
      · rw [hs, hLo, eM', e9, show ((q : Nat) : Int) - 1086 = pK b - 11 from by omega]
        unfold shortF
        rw [if_pos ⟨by decide, by omega⟩, show pK b - 11 + 11 = pK b from by omega]
      · rw [hLo, eM', e9]; decide
      · rw [eM', e9]; decide
    · rw [if_neg hn] at hLo
      obtain ⟨v1, v2⟩ := wid_norm (pK b) (by omega) (by omega)
      have w := wide4 b (-(l10 (pK b))) h0 hLo (by rw [Int.neg_neg]; exact v1) (by rw [Int.neg_neg]; exact v2)
      have ek := (ok_norm (pK b - 11) (by omega) (by omega)).1
      obtain ⟨s0, s1⟩ := s_norm (pK b - 11) (by omega) (by omega)
      rw [show pK b - 11 + 11 = pK b from by omega] at ek s0 s1
      refine ⟨9, pK b - 11, -(l10 (pK b)), ?_, by omega, ek, s0, s1, by omega, by decide, ?_, ?_, w.1, w.2.1, w.2.2, Or.inl (by omega)⟩
      · rw [hs, show 4503599627370496 + r = pM b from by omega, show ((q : Nat) : Int) - 1086 = pK b - 11 from by omega, short_norm (pM b) (pK b - 11) (by omega) (by omega), hLo, e9, show pK b - 11 + 11 = pK b from by omega,
          show 4 * pM b * 512 = pM b * 2048 from by omega, show (4 * pM b - 2) * 512 = pM b * 2048 - 1024 from by omega, show (4 * pM b + 2) * 512 = pM b * 2048 + 1024 from by omega]
      · rw [hLo, e9]; omega
      · rw [e9]; omega
/-- The numbers of the library's scale that lie in the interval; and the one in the middle. -/
theorem chs_in {b y : Nat} {e p : Int} (h : Chs b y e p) (hb : 1 ≤ b) (v : Nat) :
    In b v (-p) ↔ dLow (scl (lowM b * 2 ^ y) e p) (pM b % 2) ≤ v ∧ v ≤ dHigh (scl ((4 * pM b + 2) * 2 ^ y) e p) (pM b % 2) := by
  have hE := h.ok
  unfold okE at hE
  simp only [Bool.and_eq_true, decide_eq_true_eq] at hE
  obtain ⟨⟨⟨_, _⟩, hp0⟩, hp1⟩ := hE
  have hk := pK_low b
  have hM := pM_pos b hb
  have hl : 1 ≤ lowM b ∧ lowM b ≤ 4 * pM b + 2 := by unfold lowM; split <;> omega
  have hmul : lowM b * 2 ^ y ≤ (4 * pM b + 2) * 2 ^ y := Nat.mul_le_mul_right _ hl.2
  have h1 := h.lo
  have h2 := h.hi
  obtain ⟨u1, u2⟩ := scl_between (lowM b * 2 ^ y) e p h1 (by omega) h.ok
  obtain ⟨u3, u4⟩ := scl_between ((4 * pM b + 2) * 2 ^ y) e p (by omega) h2 h.ok
  have c1 := cmp2 (lowM b) y e p h.hy hl.1 (by omega) h.s0 h.s1 hp0 hp1 h.he (2 * v)
  have c2 := cmp2 (4 * pM b + 2) y e p h.hy (by omega) h2 h.s0 h.s1 hp0 hp1 h.he (2 * v)
  have e1 : ∀ l, V l (e + 2 + y) 0 = 4 * V l (pK b - 2) 0 := fun l => by
    rw [h.ey, ← V_mul]
    have := V_two l 2 (pK b - 2) 0 (by omega)
    rw [show pK b - 2 + ((2 : Nat) : Int) = pK b from by omega, show l * 2 ^ 2 = 4 * l from by omega] at this
    exact this.symm
  have e2 : V (2 * (2 * v)) 0 (-p) = 4 * V v 0 (-p) := by rw [← V_mul]; congr 1; omega
  rw [e1, e2] at c1 c2
  rw [dLow_small _ _ (by omega) (by omega), dHigh_small _ _ (by omega) (by omega) (by omega)]
  unfold In eL eH
  generalize scl (lowM b * 2 ^ y) e p = U1 at *
  generalize scl ((4 * pM b + 2) * 2 ^ y) e p = U3 at *
  generalize V (lowM b) (pK b - 2) 0 = L at *
  generalize V (4 * pM b + 2) (pK b - 2) 0 = H at *
  generalize V v 0 (-p) = w at *
  have ho : pM b % 2 = 0 ∨ pM b % 2 = 1 := by omega
  obtain ⟨c11, c12⟩ := c1
  obtain ⟨c21, c22⟩ := c2
  rcases ho with ho | ho
  · rw [ho]
    constructor
    · rintro ⟨a, c, _⟩
      have := c12.2 (by omega)
      have := c21.2 (by omega)
      omega
    · rintro ⟨a, c⟩
      have := c12.1 (by omega)
      have := c21.1 (by omega)
      exact ⟨by omega, by omega, fun k => by omega⟩
  · rw [ho]
    constructor
    · rintro ⟨a, c, d⟩
      have d' := d rfl
      have f1 : ¬ 2 * (2 * v) ≤ U1 := fun g => by have := c11.1 g; omega
      have f2 : ¬ U3 ≤ 2 * (2 * v) := fun g => by have := c22.1 g; omega
      omega
    · rintro ⟨a, c⟩
      have f1 : ¬ 4 * w ≤ 4 * L := fun g => by have := c11.2 g; omega
      have f2 : ¬ 4 * H ≤ 4 * w := fun g => by have := c22.2 g; omega
      exact ⟨by omega, by omega, fun _ => by omega⟩
theorem chs_mid {b y : Nat} {e p : Int} (h : Chs b y e p) (hb : 1 ≤ b) :
    dMid (scl (4 * pM b * 2 ^ y) e p) = if 0 < hN b (-p) ∨ hN b (-p) = 0 ∧ qN b (-p) % 2 = 1 then qN b (-p) + 1 else qN b (-p) := by
  have hE := h.ok
  unfold okE at hE
  simp only [Bool.and_eq_true, decide_eq_true_eq] at hE
  obtain ⟨⟨⟨_, _⟩, hp0⟩, hp1⟩ := hE
  have hk := pK_low b
  have hM := pM_pos b hb
  have hl : lowM b ≤ 4 * pM b := by unfold lowM; split <;> omega
  have hm1 : lowM b * 2 ^ y ≤ 4 * pM b * 2 ^ y := Nat.mul_le_mul_right _ hl
  have hm2 : 4 * pM b * 2 ^ y ≤ (4 * pM b + 2) * 2 ^ y := Nat.mul_le_mul_right _ (by omega)
  have h1 := h.lo
  have h2 := h.hi
  obtain ⟨u1, u2⟩ := scl_between (4 * pM b * 2 ^ y) e p (by omega) (by omega) h.ok
  obtain ⟨q1, q2, q3⟩ := q_V b (-p) (by omega)
  have c : ∀ n, _ := fun n => cmp2 (4 * pM b) y e p h.hy (by omega) (by omega) h.s0 h.s1 hp0 hp1 h.he n
  have e1 : V (4 * pM b) (e + 2 + y) 0 = 4 * eX b := by rw [h.ey, V_mul]; rfl
  rw [e1] at c
  have c1 := c (2 * qN b (-p))
  have c2 := c (2 * (qN b (-p) + 1))
  have c3 := c (2 * qN b (-p) + 1)
  rw [show V (2 * (2 * qN b (-p))) 0 (-p) = 4 * V (qN b (-p)) 0 (-p) from by rw [← V_mul]; congr 1; omega] at c1
  rw [show V (2 * (2 * (qN b (-p) + 1))) 0 (-p) = 4 * V (qN b (-p) + 1) 0 (-p) from by rw [← V_mul]; congr 1; omega] at c2
  rw [V_mul 2 (2 * qN b (-p) + 1)] at c3
  rw [dMid_small _ (by omega), q3]
  generalize scl (4 * pM b * 2 ^ y) e p = U at *
  generalize V (qN b (-p)) 0 (-p) = z1 at *
  generalize V (qN b (-p) + 1) 0 (-p) = z2 at *
  generalize V (2 * qN b (-p) + 1) 0 (-p) = z3 at *
  generalize qN b (-p) = q at *
  generalize eX b = x at *
  have r1 := c1.1.2 (by omega)
  have r2 : ¬ 2 * (2 * (q + 1)) ≤ U := fun g => by have := c2.1.1 g; omega
  have r3 : U / 4 = q := by omega
  rw [r3]
  rcases Nat.lt_trichotomy (2 * x) z3 with g | g | g
  · rw [cmpN_lt g, if_neg (by omega)]
    have : ¬ 2 * (2 * q + 1) ≤ U := fun k => by have := c3.1.1 k; omega
    omega
  · rw [cmpN_eq g]
    have k1 := c3.1.2 (by omega)
    have k2 := c3.2.2 (by omega)
    split <;> omega
  · rw [cmpN_gt g, if_pos (Or.inl (by decide))]
    have : ¬ U ≤ 2 * (2 * q + 1) := fun k => by have := c3.2.1 k; omega
    omega
end Go.Proofs.YtmejmohambhaaaaGreatDoor
/- THE DIGITS THAT THE LIBRARY PRINTS ARE THE DOCUMENT'S. Own work of the verifier. -/
namespace Go.Proofs.YtmejmohambhaaaaGreatDoor
open Soft

theorem V_tensN (x : Nat) (e p : Int) (j : Nat) (hp : -400 ≤ p) : V x e (p + j) = V (x * 10 ^ j) e p := by
  induction j generalizing x with
  | zero => rw [Nat.pow_zero, Nat.mul_one, show p + ((0 : Nat) : Int) = p from by omega]
  | succ j ih => rw [show p + ((j + 1 : Nat) : Int) = p + (j : Int) + 1 from by omega, ← V_ten x e (p + (j : Int)) (by omega), ih (x * 10), Nat.mul_assoc, Nat.pow_succ, Nat.mul_comm 10]
theorem tens_mono {a b : Int} (h0 : -400 ≤ a) (h : a ≤ b) : V 1 0 a ≤ V 1 0 b := by
  obtain ⟨j, rfl⟩ : ∃ j : Nat, b = a + j := ⟨(b - a).toNat, by omega⟩
  rw [V_tensN 1 0 a j h0]
  exact (V_mono _ _).2 (by rw [Nat.one_mul]; exact Nat.pow_pos (by decide))
theorem top_V {b : Nat} {t : Int} (h : Top b t) : V 1 0 t ≤ eX b ∧ eX b < V 1 0 (t + 1) := by
  obtain ⟨t0, t1, t2, t3⟩ := h
  have hk := pK_low b
  rw [AG_V _ _ _ _ t0 (by omega)] at t2
  rw [AG_V _ _ _ _ (by omega) (by omega), cmpN_pos] at t3
  refine ⟨?_, t3⟩
  rcases Nat.lt_or_ge (eX b) (V 1 0 t) with g | g
  · have := cmpN_gt g
    unfold eX at this
    omega
  · exact g
theorem top_in {b : Nat} {t : Int} (h : Top b t) (S : Int) (n : Nat) (hS : -400 ≤ S) (h1 : V 1 0 (S + 1) ≤ eX b) (h2 : eX b < V (10 ^ n) 0 S) : S + 1 ≤ t ∧ t < S + n := by
  obtain ⟨v1, v2⟩ := top_V h
  have t0 := h.1
  constructor
  · rcases Int.lt_or_le t (S + 1) with g | g
    · have := tens_mono (a := t + 1) (b := S + 1) (by omega) (by omega)
      omega
    · exact g
  · rcases Int.lt_or_le t (S + n) with g | g
    · exact g
    · have := tens_mono (a := S + n) (b := t) (by omega) g
      rw [V_tensN 1 0 S n hS, Nat.one_mul] at this
      omega
theorem top_from {b y : Nat} {e p : Int} (h : Chs b y e p) (hb : 3 ≤ b) (hp : p ≤ 347) : V 1 0 (-p + 1) ≤ eX b := by
  have hk := pK_low b
  rcases h.w4 with g | ⟨g1, g2⟩
  · have e1 : V 1 0 (-p + 1) = 10 * V 1 0 (-p) := by
      rw [← V_ten 1 0 (-p) (by omega), Nat.one_mul]
      have := V_mul 10 1 0 (-p)
      rwa [Nat.mul_one] at this
    have e2 : eH b ≤ eL b + V 4 (pK b - 2) 0 := by
      unfold eH eL
      rw [← V_add]
      refine (V_mono _ _).2 ?_
      unfold lowM
      split <;> omega
    have e3 : 10 * V 4 (pK b - 2) 0 ≤ eX b := by
      rw [eX_four, ← V_mul]
      exact (V_mono _ _).2 (by omega)
    have := h.w1
    omega
  · subst g1
    unfold eX
    rw [g2]
    have h3 : 3 ≤ pM b := by unfold pM; split <;> omega
    have a : V 1 0 (-324 + 1) ≤ V 3 (-1074) 0 := by decide +kernel
    exact Nat.le_trans a ((V_mono _ _).2 h3)
/-- What the text of digits is told by: the digits without their noughts, and the place of the first. -/
def SameD (b c : Nat) (e : Int) : Prop := ∃ j : Nat, (sd b).1 = c * 10 ^ j ∧ c % 10 ≠ 0 ∧ e = (sd b).2 + j + (Lib.nDigits c : Int) - 1
theorem digs_main (b c : Nat) (e : Int) (h0 : 3 ≤ b) (h1 : b < 9218868437227405312) (h : DigsOf b c e) : SameD b c e := by
  obtain ⟨y, ee, p, hC⟩ := chs b (by omega) h1
  have hE := hC.ok
  unfold okE at hE
  simp only [Bool.and_eq_true, decide_eq_true_eq] at hE
  obtain ⟨⟨⟨_, _⟩, hp0⟩, hp1⟩ := hE
  have hIn := fun v => chs_in hC (by omega) v
  have hMid := chs_mid hC (by omega)
  have hsd := sd_In b (by omega) h1
  have hw2 := hC.w2
  have hw3 := hC.w3
  have hTf := top_from hC h0 hp1
  have hpk : sd b = if dLow (scl (lowM b * 2 ^ y) ee p) (pM b % 2) ≤ dHigh (scl ((4 * pM b + 2) * 2 ^ y) ee p) (pM b % 2) / 10 * 10 then (dHigh (scl ((4 * pM b + 2) * 2 ^ y) ee p) (pM b % 2) / 10, -(p - 1))
      else if dLow (scl (lowM b * 2 ^ y) ee p) (pM b % 2) < dHigh (scl ((4 * pM b + 2) * 2 ^ y) ee p) (pM b % 2) then (dMid (scl (4 * pM b * 2 ^ y) ee p), -p) else (dLow (scl (lowM b * 2 ^ y) ee p) (pM b % 2), -p) := by
    rw [hC.eq]; rfl
  generalize dLow (scl (lowM b * 2 ^ y) ee p) (pM b % 2) = D1 at *
  generalize dHigh (scl ((4 * pM b + 2) * 2 ^ y) ee p) (pM b % 2) = D3 at *
  generalize dMid (scl (4 * pM b * 2 ^ y) ee p) = D2 at *
  clear hC
  obtain ⟨S, hS⟩ : ∃ S : Int, S = -p := ⟨_, rfl⟩
  rw [show -(p - 1) = S + 1 from by omega] at hpk
  rw [← hS] at hIn hMid hw2 hw3 hTf hpk
  have hS0 : -400 ≤ S := by omega
  have hS1 : -347 ≤ S := by omega
  clear hp0 hp1 hS
  have hten : ∀ v, In b v (S + 1) ↔ In b (v * 10) S := fun v => by
    have := in_tens b v S 1 hS0
    rwa [Nat.pow_one] at this
  have hw2' : eH b < eL b + V 1 0 (S + 1) := by
    rw [← V_ten 1 0 S hS0]
    exact hw2
  have tb : ∀ t, Top b t → S + 1 ≤ t ∧ t < S + 17 := fun t hT => top_in hT S 17 hS0 hTf hw3
  have hokS : okD b S := by
    refine (okD_ex b S (by omega) hS0).2 ?_
    rcases (show (sd b).2 = S ∨ (sd b).2 = S + 1 by rw [hpk]; split; · exact Or.inr rfl
                                                    · split <;> exact Or.inl rfl) with g | g
    · rw [g] at hsd; exact ⟨_, hsd⟩
    · rw [g] at hsd; exact ⟨_, (hten _).1 hsd⟩
  rcases h with ⟨t, n, s, hT, n1, n2, hnot, hok, hStrp, hc, rfl⟩ | ⟨⟨t, hT, hnot⟩, _, _⟩
  · obtain ⟨j, ej, es⟩ := hStrp
    obtain ⟨t1, t2⟩ := tb t hT
    have i1 := cD_in b (t - n + 1) (by omega) hok
    by_cases hA : ∃ v, In b v (S + 1)
    · have hn : (n : Int) ≤ t - S := by
        rcases Int.lt_or_le (t - S) n with g | g
        · refine absurd ((okD_ex b (S + 1) (by omega) (by omega)).2 hA) ?_
          have := hnot (t - S).toNat (by omega) (by omega)
          rwa [show t - (((t - S).toNat : Nat) : Int) + 1 = S + 1 from by omega] at this
        · exact g
      obtain ⟨v, hv⟩ := hA
      have hbr : D1 ≤ D3 / 10 * 10 := by
        have := (hIn _).1 ((hten v).1 hv)
        omega
      rw [if_pos hbr] at hpk
      obtain ⟨j0, hj0⟩ : ∃ j0 : Nat, t - n + 1 = S + 1 + j0 := ⟨(t - n - S).toNat, by omega⟩
      rw [hj0] at i1 ej es
      have i2 := (in_tens b _ (S + 1) j0 (by omega)).1 i1
      have e2 : (sd b).2 = S + 1 := by rw [hpk]
      rw [e2] at hsd
      have e3 := in_one b _ _ (S + 1) hw2' i2 hsd
      refine ⟨j + j0, ?_, hc, ?_⟩
      · rw [← e3, ej, Nat.mul_assoc, ← Nat.pow_add]
      · rw [e2, es]; omega
    · have hbr : ¬ D1 ≤ D3 / 10 * 10 := fun g => hA ⟨D3 / 10, (hten _).2 ((hIn _).2 ⟨g, by omega⟩)⟩
      rw [if_neg hbr] at hpk
      have hn1 : (n : Int) ≤ t - S + 1 := by
        rcases Int.lt_or_le (t - S + 1) n with g | g
        · refine absurd hokS ?_
          have := hnot (t - S + 1).toNat (by omega) (by omega)
          rwa [show t - (((t - S + 1).toNat : Nat) : Int) + 1 = S from by omega] at this
        · exact g
      have hn2 : t - n + 1 ≤ S := by
        rcases Int.lt_or_le S (t - n + 1) with g | g
        · obtain ⟨j0, hj0⟩ : ∃ j0 : Nat, t - n + 1 = S + 1 + j0 := ⟨(t - n - S).toNat, by omega⟩
          rw [hj0] at i1
          exact absurd ⟨_, (in_tens b _ (S + 1) j0 (by omega)).1 i1⟩ hA
        · exact g
      have hs : t - n + 1 = S := by omega
      rw [hs] at i1 ej es
      have e2 : (sd b).2 = S := by rw [hpk]; split <;> rfl
      rw [e2] at hsd
      have key : (sd b).1 = cD b S := by
        by_cases hlt : D1 < D3
        · rw [if_pos hlt] at hpk
          have e1 : (sd b).1 = D2 := by rw [hpk]
          rw [e1] at hsd ⊢
          unfold cD upD
          have q0 := side_in b (qN b S) S hS0
          have q1 := side_in b (qN b S + 1) S hS0
          rw [q1]
          have ho : In b (qN b S) S ∨ In b (qN b S + 1) S := by
            rcases hokS with k | k
            · exact Or.inl (q0.1 k)
            · exact Or.inr (q1.1 k)
          by_cases r : 0 < hN b S ∨ hN b S = 0 ∧ qN b S % 2 = 1
          · rw [if_pos r] at hMid
            rw [hMid] at hsd ⊢
            rw [if_pos (Or.inr ⟨hsd, r⟩)]
          · rw [if_neg r] at hMid
            rw [hMid] at hsd ⊢
            rw [if_neg]
            rintro (k | k)
            · exact k (q0.2 hsd)
            · exact r k.2
        · rw [if_neg hlt] at hpk
          have e1 : (sd b).1 = D1 := by rw [hpk]
          have := (hIn _).1 i1
          omega
      exact ⟨j, by rw [key, ej], hc, by rw [e2, es]⟩
  · obtain ⟨t1, t2⟩ := tb t hT
    refine absurd hokS ?_
    have := hnot (t - S + 1).toNat (by omega) (by omega)
    rwa [show t - (((t - S + 1).toNat : Nat) : Int) + 1 = S from by omega] at this
/-- The two least floats. -/
theorem digs_small (b c r : Nat) (e : Int) (hX : V 1 0 (-324) ≤ eX b ∧ eX b < V 1 0 (-323)) (hok : okD b (-324)) (hr : cD b (-324) = r) (hsd : ∀ c' j : Nat, r = c' * 10 ^ j → c' % 10 ≠ 0 → ∃ i : Nat, (sd b).1 = c' * 10 ^ i ∧ (-324 : Int) + j = (sd b).2 + i) (h : DigsOf b c e) : SameD b c e := by
  have tb : ∀ t, Top b t → t = -324 := fun t hT => by
    obtain ⟨v1, v2⟩ := top_V hT
    have t0 := hT.1
    have a1 : t < -323 := by
      rcases Int.lt_or_le t (-323) with g | g
      · exact g
      · have := tens_mono (a := -323) (b := t) (by decide) g
        omega
    have a2 : -324 < t + 1 := by
      rcases Int.lt_or_le (-324) (t + 1) with g | g
      · exact g
      · have := tens_mono (a := t + 1) (b := -324) (by omega) g
        omega
    omega
  rcases h with ⟨t, n, s, hT, n1, n2, hnot, hok', hStrp, hc, rfl⟩ | ⟨⟨t, hT, hnot⟩, _, _⟩
  · obtain rfl := tb t hT
    have hn : n = 1 := by
      rcases Nat.lt_or_ge 1 n with g | g
      · exact absurd hok (hnot 1 (by decide) g)
      · omega
    subst hn
    obtain ⟨j, ej, es⟩ := hStrp
    rw [show (-324 : Int) - ((1 : Nat) : Int) + 1 = -324 from by decide] at ej es
    rw [hr] at ej
    obtain ⟨i, e1, e2⟩ := hsd c j ej hc
    exact ⟨i, e1, hc, by omega⟩
  · obtain rfl := tb t hT
    exact absurd hok (hnot 1 (by decide) (by decide))
theorem one_facts : (V 1 0 (-324) ≤ eX 1 ∧ eX 1 < V 1 0 (-323)) ∧ SideN 1 (qN 1 (-324) + 1) (-324) = 0 ∧ 0 < hN 1 (-324) ∧ qN 1 (-324) = 4 ∧ sd 1 = (5, -324) := by decide +kernel
theorem two_facts : (V 1 0 (-324) ≤ eX 2 ∧ eX 2 < V 1 0 (-323)) ∧ SideN 2 (qN 2 (-324) + 1) (-324) = 0 ∧ 0 < hN 2 (-324) ∧ qN 2 (-324) = 9 ∧ sd 2 = (1, -323) := by decide +kernel
theorem cD_up {b : Nat} {s : Int} (h1 : SideN b (qN b s + 1) s = 0) (h2 : 0 < hN b s) : cD b s = qN b s + 1 := by
  unfold cD
  rw [if_pos (show upD b s from Or.inr ⟨h1, Or.inl h2⟩)]
theorem digs_all (b c : Nat) (e : Int) (h0 : 1 ≤ b) (h1 : b < 9218868437227405312) (h : DigsOf b c e) : SameD b c e := by
  rcases Nat.lt_or_ge b 3 with g | g
  · rcases (show b = 1 ∨ b = 2 by omega) with rfl | rfl
    · obtain ⟨a1, a2, a3, a4, a5⟩ := one_facts
      refine digs_small 1 c 5 e a1 (Or.inr a2) (by rw [cD_up a2 a3, a4]) (fun c' j hj hc => ⟨j, ?_, ?_⟩) h
      · rw [a5]; exact hj
      · rw [a5]
    · obtain ⟨a1, a2, a3, a4, a5⟩ := two_facts
      refine digs_small 2 c 10 e a1 (Or.inr a2) (by rw [cD_up a2 a3, a4]) (fun c' j hj hc => ⟨0, ?_, ?_⟩) h
      · rw [a5]
        rcases j with _ | _ | j
        · rw [Nat.pow_zero, Nat.mul_one] at hj; omega
        · show 1 = c' * 10 ^ 0
          rw [Nat.pow_zero, Nat.mul_one]
          rw [show (0 : Nat) + 1 = 1 from rfl, Nat.pow_one] at hj
          omega
        · rw [Nat.pow_succ, Nat.pow_succ] at hj
          have : 0 < 10 ^ j := Nat.pow_pos (by decide)
          have : 0 < c' * 10 ^ j := Nat.mul_pos (by omega) this
          rw [← Nat.mul_assoc, ← Nat.mul_assoc] at hj
          omega
      · rw [a5]
        rcases j with _ | _ | j
        · rw [Nat.pow_zero, Nat.mul_one] at hj; omega
        · rfl
        · rw [Nat.pow_succ, Nat.pow_succ] at hj
          have : 0 < 10 ^ j := Nat.pow_pos (by decide)
          have : 0 < c' * 10 ^ j := Nat.mul_pos (by omega) this
          rw [← Nat.mul_assoc, ← Nat.mul_assoc] at hj
          omega
  · exact digs_main b c e g h1 h
end Go.Proofs.YtmejmohambhaaaaGreatDoor
/- THE TEXT THAT THE DOCUMENT'S Print TELLS IS THE PROGRAM'S. Own work of the verifier. -/
namespace Go.Proofs.YtmejmohambhaaaaGreatDoor
open Soft

theorem dec_tens (c j : Nat) (hc : 1 ≤ c) : Lib.decDigits (c * 10 ^ j) = Lib.decDigits c ++ List.replicate j 48 := by
  induction j with
  | zero => rw [Nat.pow_zero, Nat.mul_one, List.replicate_zero, List.append_nil]
  | succ j ih =>
    have h1 : 0 < 10 ^ j := Nat.pow_pos (by decide)
    have h2 : 0 < c * 10 ^ j := Nat.mul_pos hc h1
    have e : c * 10 ^ (j + 1) = c * 10 ^ j * 10 := by rw [Nat.pow_succ, Nat.mul_assoc]
    rw [e, Lib.decDigits, dif_neg (by omega), Nat.mul_div_cancel _ (by decide), Nat.mul_mod_left, ih, List.replicate_succ', List.append_assoc]
    rfl
theorem dec_last (c : Nat) : ∃ l, Lib.decDigits c = l ++ [UInt8.ofNat (48 + c % 10)] := by
  by_cases h : c < 10
  · exact ⟨[], by rw [Lib.decDigits_one h, Nat.mod_eq_of_lt h]; rfl⟩
  · exact ⟨Lib.decDigits (c / 10), by rw [Lib.decDigits, dif_neg h]⟩
theorem n_tens (c j : Nat) (hc : 1 ≤ c) : Lib.nDigits (c * 10 ^ j) = Lib.nDigits c + j := by
  have := congrArg List.length (dec_tens c j hc)
  rw [List.length_append, List.length_replicate, Lib.decDigits_length, Lib.decDigits_length] at this
  exact this
theorem trim_tens (c j : Nat) (hc : c % 10 ≠ 0) : trimLen (c * 10 ^ j) = Lib.nDigits c := by
  have hc1 : 1 ≤ c := by omega
  have hd := dec_tens c j hc1
  have hl := Lib.decDigits_length c
  refine (trim_len ⟨?_, ?_, Or.inr ?_⟩).symm
  · rw [n_tens c j hc1]; omega
  · intro i h hk
    have : (Lib.decDigits (c * 10 ^ j))[i]? = some 48 := by
      rw [hd, List.getElem?_append_right (by omega), List.getElem?_replicate, if_pos]
      rw [Lib.decDigits_length, n_tens c j hc1] at h
      omega
    rw [List.getElem?_eq_getElem h] at this
    exact Option.some.inj this
  · obtain ⟨l, e⟩ := dec_last c
    have hn : Lib.nDigits c = l.length + 1 := by rw [← hl, e, List.length_append]; rfl
    have hlt : Lib.nDigits c - 1 < (Lib.decDigits (c * 10 ^ j)).length := by rw [Lib.decDigits_length, n_tens c j hc1]; omega
    refine ⟨hlt, ?_⟩
    have : (Lib.decDigits (c * 10 ^ j))[Lib.nDigits c - 1]? = some (UInt8.ofNat (48 + c % 10)) := by
      rw [hd, e, List.append_assoc, hn, Nat.add_sub_cancel, List.getElem?_append_right (Nat.le_refl _), Nat.sub_self]
      rfl
    rw [List.getElem?_eq_getElem hlt] at this
    rw [Option.some.inj this]
    intro k
    have := congrArg UInt8.toNat k
    rw [UInt8.toNat_ofNat'] at this
    have h48 : (48 : UInt8).toNat = 48 := rfl
    omega
theorem take_tens (c j : Nat) (hc : 1 ≤ c) : (Lib.decDigits (c * 10 ^ j)).take (Lib.nDigits c) = Lib.decDigits c := by
  rw [dec_tens c j hc, ← Lib.decDigits_length c, List.take_left]
theorem pt_far (x : Nat) (h0 : x % 9223372036854775808 ≠ 0) (h1 : x % 9223372036854775808 < 9218868437227405312) (hE : hasE (x % 9223372036854775808) = true) : pt x < -5 ∨ 21 < pt x := by
  obtain ⟨s1, s2, s3, s4⟩ := sd_bounds x h0 h1
  have hE' := of_decide_eq_true hE
  have hn := Lib.nDigits_pos (sd x).1
  have u1 := Lib.lt_pow_nDigits (sd x).1
  have u2 := pow_ge s1
  rcases hE' with hE' | hE'
  · left
    have hhi : val x < 10 ^ 394 := by
      rw [val_mod, ← val_small]
      exact val_lt (by omega) (by omega) (by decide)
    unfold val at hhi
    unfold pt
    generalize (sd x).1 = u at *
    generalize (sd x).2 = e at *
    have q2 : 10 ^ (Lib.nDigits u - 1 + (e + 400).toNat) < 10 ^ 394 := by
      rw [Nat.pow_add]
      exact Nat.lt_of_le_of_lt (Nat.mul_le_mul_right _ u2) hhi
    have r2 := lt_exp10 q2
    omega
  · right
    have hlo : 10 ^ 421 ≤ val x := by
      rw [val_mod, ← val_great]
      rcases Nat.eq_or_lt_of_le hE'.1 with e | e
      · rw [← e]; exact Nat.le_refl _
      · exact Nat.le_of_lt (val_lt (by decide) e h1)
    unfold val at hlo
    unfold pt
    generalize (sd x).1 = u at *
    generalize (sd x).2 = e at *
    have q1 : 10 ^ 421 < 10 ^ (Lib.nDigits u + (e + 400).toNat) := by
      rw [Nat.pow_add]
      exact Nat.lt_of_le_of_lt hlo (Nat.mul_lt_mul_of_pos_right u1 (Nat.pow_pos (by decide)))
    have r1 := lt_exp10 q1
    omega
theorem sd_sign (x : Nat) : SameD (x % 9223372036854775808) = SameD x := by
  unfold SameD
  rw [← sd_mod x]
theorem same_text (x c : Nat) (e : Int) (h0 : x % 9223372036854775808 ≠ 0) (h1 : x % 9223372036854775808 < 9218868437227405312) (h : SameD x c e) : sgn (decide (9223372036854775808 ≤ x)) ++ txt (Lib.decDigits c) e = pText x := by
  obtain ⟨j, hu, hc, he⟩ := h
  have hc1 : 1 ≤ c := by omega
  have hpt : pt x = e + 1 := by
    unfold pt
    rw [hu, n_tens c j hc1]
    omega
  have hl := Lib.decDigits_length c
  have hn := Lib.nDigits_pos c
  unfold pText
  cases hE : hasE (x % 9223372036854775808)
  · obtain ⟨m0, m1⟩ := pt_mid x h0 h1 hE
    rw [if_neg (by decide)]
    unfold fText
    rw [if_neg h0, if_neg (by omega), if_neg (by omega), hpt, hu, trim_tens c j hc]
    unfold fB
    rw [take_tens c j hc1, dec_tens c j hc1]
    unfold txt
    generalize Lib.decDigits c = d at *
    generalize sgn (decide (9223372036854775808 ≤ x)) = sg
    rw [← hl]
    by_cases a : 0 ≤ e
    · rw [if_pos ⟨a, by omega⟩, if_neg (show ¬ e + 1 ≤ 0 by omega)]
      by_cases k : (d.length : Int) ≤ e + 1
      · rw [if_pos k, if_pos k, show (e + 1 - (d.length : Int)).toNat = (e + 1).toNat - d.length from by omega, List.append_assoc]
      · rw [if_neg k, if_neg k, List.take_append_of_le_length (by omega)]
        simp only [List.append_assoc]
    · rw [if_neg (fun k => a k.1), if_pos ⟨by omega, by omega⟩, if_pos (by omega), show (-e - 1).toNat = (-(e + 1)).toNat from by omega]
      simp only [List.append_assoc]
  · have hf := pt_far x h0 h1 hE
    rw [if_pos rfl]
    unfold xText eHead
    rw [hpt, hu, trim_tens c j hc, take_tens c j hc1, dec_tens c j hc1, show e + 1 - 1 = e from by omega]
    unfold txt Lib.itoa
    obtain ⟨d0, ds, hd⟩ : ∃ d0 ds, Lib.decDigits c = d0 :: ds := by
      cases g : Lib.decDigits c with
      | nil => rw [g] at hl; simp at hl; omega
      | cons a l => exact ⟨a, l, rfl⟩
    rw [hd] at hl ⊢
    rw [List.length_cons] at hl
    generalize sgn (decide (9223372036854775808 ≤ x)) = sg
    rw [if_neg (by omega), if_neg (by omega), ← hl]
    by_cases k : ds.length + 1 = 1
    · rw [if_pos k, if_neg (by rw [List.length_cons]; omega)]
      by_cases a : e < 0
      · rw [if_pos a, if_pos a, show (-e).toNat = e.natAbs from by omega]
        simp
      · rw [if_neg a, if_neg a]
        simp
    · rw [if_neg k, if_pos (by rw [List.length_cons]; omega)]
      by_cases a : e < 0
      · rw [if_pos a, if_pos a, show (-e).toNat = e.natAbs from by omega]
        simp
      · rw [if_neg a, if_neg a]
        simp
/-- THE DOCUMENT'S TEXT IS THE PROGRAM'S. -/
theorem doc_text (x : Nat) (hx : x < 18446744073709551616) (l : List UInt8) (h : DocText x l) : l = pText x := by
  rcases h with ⟨a, rfl⟩ | ⟨rfl, rfl⟩ | ⟨rfl, rfl⟩ | ⟨rfl, rfl⟩ | ⟨rfl, rfl⟩ | ⟨a1, a2, c, e, hD, rfl⟩ | ⟨a1, a2, a3, c, e, hD, rfl⟩
  · exact (text_nan x a).symm
  · rw [text_inf _ (by decide), if_neg (by decide)]
  · rw [text_inf _ (by decide), if_pos (by decide)]
  · rw [text_zero _ (by decide), if_neg (by decide)]
  · rw [text_zero _ (by decide), if_pos (by decide)]
  · have h := digs_all x c e a1 a2 hD
    have := same_text x c e (by omega) (by omega) h
    rw [decide_eq_false (by omega)] at this
    exact this
  · have h := digs_all _ c e a1 a2 hD
    rw [sd_sign] at h
    have := same_text x c e (by omega) a2 h
    rw [decide_eq_true a3] at this
    exact this
end Go.Proofs.YtmejmohambhaaaaGreatDoor
/- WHAT THE DOCUMENT'S decimal ANSWERS, as a function; at the text of a float. Own work of the verifier. -/
namespace Go.Proofs.YtmejmohambhaaaaGreatDoor
open Soft

/-- The digits and the point: c, the power of ten, was there a point, how many digits; what is left from an e on. -/
def dRun : List UInt8 → Nat → Int → Bool → Nat → Option (Nat × Int × Nat × List UInt8)
  | [], c, s, _, n => some (c, s, n, [])
  | b :: r, c, s, pt, n =>
    if b.toNat = 101 then some (c, s, n, b :: r)
    else if b.toNat = 46 ∧ pt = false then dRun r c s true n
    else if b.toNat < 48 ∨ 57 < b.toNat then none
    else if b.toNat = 48 ∧ 100000000000000000 ≤ c then dRun r c (if pt then s + 1 - 1 else s + 1) pt (n + 1)
    else if 999999999999999999 < 10 * c + (b.toNat - 48) then none
    else dRun r (10 * c + (b.toNat - 48)) (if pt then s - 1 else s) pt (n + 1)
/-- The digits of an exponent. -/
def eRun : List UInt8 → Nat → Option Nat
  | [], e => some e
  | b :: r, e => if b.toNat < 48 ∨ 57 < b.toNat then none else eRun r (10 * e + (b.toNat - 48))
/-- The exponent, behind its sign. -/
def xRun (c : Nat) (s : Int) (m : Bool) (r : List UInt8) : Option (Nat × Int) :=
  if r.length = 0 ∨ 3 < r.length then none else
    match eRun r 0 with
    | none => none
    | some e => some (c, s + (if m then -(e : Int) else (e : Int)))
/-- Behind the digits. -/
def yRun (c : Nat) (s : Int) (n : Nat) (r : List UInt8) : Option (Nat × Int) :=
  if n = 0 ∨ c = 0 then none else
    match r with
    | [] => some (c, s)
    | _ :: r => match r with
      | [] => none
      | b :: r' => if b.toNat = 45 then xRun c s true r' else xRun c s false (b :: r')
def decV (l : List UInt8) : Option (Nat × Int) :=
  match dRun l 0 0 false 0 with
  | none => none
  | some (c, s, n, r) => yRun c s n r
theorem dRun_len : ∀ (l : List UInt8) (c : Nat) (s : Int) (pt : Bool) (n : Nat) (c' : Nat) (s' : Int) (n' : Nat) (r : List UInt8), c ≤ 999999999999999999 → dRun l c s pt n = some (c', s', n', r) → c' ≤ 999999999999999999 ∧ s - l.length ≤ s' ∧ s' ≤ s + l.length
  | [], c, s, pt, n, c', s', n', r, hc, h => by
    simp only [dRun, Option.some.injEq, Prod.mk.injEq] at h
    obtain ⟨rfl, rfl, _, _⟩ := h
    exact ⟨hc, by simp, by simp⟩
  | b :: t, c, s, pt, n, c', s', n', r, hc, h => by
    rw [dRun] at h
    rw [List.length_cons]
    split at h
    · simp only [Option.some.injEq, Prod.mk.injEq] at h
      obtain ⟨rfl, rfl, _, _⟩ := h
      exact ⟨hc, by omega, by omega⟩
    · split at h
      · have := dRun_len t c s true n c' s' n' r hc h
        omega
      · split at h
        · cases h
        · split at h
          · have := dRun_len t c _ pt (n + 1) c' s' n' r hc h
            cases pt
            · rw [if_neg (by decide)] at this
              omega
            · rw [if_pos rfl] at this
              omega
          · split at h
            · cases h
            · have := dRun_len t _ _ pt (n + 1) c' s' n' r (by omega) h
              cases pt
              · rw [if_neg (by decide)] at this
                omega
              · rw [if_pos rfl] at this
                omega
theorem eRun_le : ∀ (l : List UInt8) (e e' : Nat), eRun l e = some e' → e' < (e + 1) * 10 ^ l.length
  | [], e, e', h => by
    simp only [eRun, Option.some.injEq] at h
    subst h
    simp
  | b :: t, e, e', h => by
    rw [eRun] at h
    split at h
    · cases h
    · have := eRun_le t _ e' h
      rw [List.length_cons, Nat.pow_succ, Nat.mul_comm (10 ^ t.length) 10, ← Nat.mul_assoc]
      refine Nat.lt_of_lt_of_le this (Nat.mul_le_mul_right _ (by omega))
theorem xRun_len {c c' : Nat} {s s' : Int} {m : Bool} {r : List UInt8} (h : xRun c s m r = some (c', s')) : c' = c ∧ s - 999 ≤ s' ∧ s' ≤ s + 999 := by
  unfold xRun at h
  split at h
  · cases h
  · rename_i hl
    cases he : eRun r 0 with
    | none => rw [he] at h; cases h
    | some e =>
      rw [he] at h
      simp only [Option.some.injEq, Prod.mk.injEq] at h
      obtain ⟨rfl, rfl⟩ := h
      have := eRun_le r 0 e he
      have h3 : 10 ^ r.length ≤ 10 ^ 3 := Nat.pow_le_pow_right (by decide) (by omega)
      rw [show (10 : Nat) ^ 3 = 1000 from by decide] at h3
      refine ⟨rfl, ?_, ?_⟩ <;> (cases m <;> simp <;> omega)
theorem decV_len {l : List UInt8} {c : Nat} {s : Int} (h : decV l = some (c, s)) : 1 ≤ c ∧ c ≤ 999999999999999999 ∧ -(l.length : Int) - 999 ≤ s ∧ s ≤ l.length + 999 := by
  unfold decV at h
  cases hd : dRun l 0 0 false 0 with
  | none => rw [hd] at h; cases h
  | some q =>
    obtain ⟨c1, s1, n1, r⟩ := q
    rw [hd] at h
    have h1 := dRun_len l 0 0 false 0 c1 s1 n1 r (by decide) hd
    simp only [yRun] at h
    split at h
    · cases h
    · rename_i hz
      cases r with
      | nil =>
        simp only [Option.some.injEq, Prod.mk.injEq] at h
        obtain ⟨rfl, rfl⟩ := h
        exact ⟨by omega, by omega, by omega, by omega⟩
      | cons b r =>
        cases r with
        | nil => cases h
        | cons b' r' =>
          simp only at h
          split at h
          · have := xRun_len h
            omega
          · have := xRun_len h
            omega
/-- A run of digits. -/
theorem run_digits : ∀ (d r : List UInt8) (c : Nat) (s : Int) (pt : Bool) (n : Nat), (∀ b ∈ d, isD b = true) → dvA c d ≤ 999999999999999999 →
    dRun (d ++ r) c s pt n = dRun r (dvA c d) (if pt then s - (d.length : Int) else s) pt (n + d.length)
  | [], r, c, s, pt, n, _, _ => by
    rw [List.nil_append, dvA_nil, List.length_nil]
    cases pt <;> simp
  | b :: t, r, c, s, pt, n, hd, h => by
    have hb := of_decide_eq_true (hd b (List.mem_cons_self ..))
    rw [dvA_cons] at h
    have hge : ∀ (l : List UInt8) (x : Nat), x ≤ dvA x l := fun l => by
      induction l with
      | nil => intro x; rw [dvA_nil]; exact Nat.le_refl _
      | cons a l ih => intro x; rw [dvA_cons]; refine Nat.le_trans ?_ (ih _); unfold nx; omega
    have h2 := hge t (nx c b)
    have hn : nx c b = 10 * c + (b.toNat - 48) := by unfold nx; omega
    rw [List.cons_append, dRun, if_neg (by omega), if_neg (by omega), if_neg (by omega), if_neg (by omega), if_neg (by omega), ← hn,
      run_digits t r (nx c b) _ pt (n + 1) (fun x hx => hd x (List.mem_cons_of_mem _ hx)) h, dvA_cons, List.length_cons]
    congr 1
    · cases pt
      · simp
      · simp; omega
    · omega
/-- Noughts behind. -/
theorem run_zeros : ∀ (m : Nat) (r : List UInt8) (c : Nat) (s : Int) (n : Nat), 1 ≤ c → c ≤ 999999999999999999 →
    ∃ z : Nat, z ≤ m ∧ c * 10 ^ z ≤ 999999999999999999 ∧ dRun (List.replicate m 48 ++ r) c s false n = dRun r (c * 10 ^ z) (s + (m : Int) - (z : Int)) false (n + m)
  | 0, r, c, s, n, _, h => ⟨0, by omega, by rw [Nat.pow_zero, Nat.mul_one]; exact h, by rw [List.replicate_zero, List.nil_append, Nat.pow_zero, Nat.mul_one]; congr 1; omega⟩
  | m + 1, r, c, s, n, h0, h => by
    have e48 : (48 : UInt8).toNat = 48 := rfl
    rw [List.replicate_succ, List.cons_append, dRun, e48, if_neg (by decide), if_neg (by omega), if_neg (by omega)]
    by_cases hc : 100000000000000000 ≤ c
    · rw [if_pos ⟨rfl, hc⟩, if_neg (by decide)]
      obtain ⟨z, h1, h2, h3⟩ := run_zeros m r c (s + 1) (n + 1) h0 h
      refine ⟨z, by omega, h2, ?_⟩
      rw [h3]
      congr 1 <;> omega
    · rw [if_neg (fun k => hc k.2), if_neg (by omega), if_neg (by decide), show 10 * c + (48 - 48) = 10 * c from by omega]
      obtain ⟨z, h1, h2, h3⟩ := run_zeros m r (10 * c) s (n + 1) (by omega) (by omega)
      refine ⟨z + 1, by omega, ?_, ?_⟩
      · rw [Nat.pow_succ, Nat.mul_comm (10 ^ z), ← Nat.mul_assoc, Nat.mul_comm c 10]; exact h2
      · rw [h3]
        congr 1
        · rw [Nat.pow_succ, Nat.mul_comm (10 ^ z), ← Nat.mul_assoc, Nat.mul_comm c 10]
        · omega
        · omega
theorem run_point (r : List UInt8) (c : Nat) (s : Int) (n : Nat) : dRun (46 :: r) c s false n = dRun r c s true n := by
  rw [dRun, if_neg (by decide), if_pos (by decide)]
theorem run_e (r : List UInt8) (c : Nat) (s : Int) (pt : Bool) (n : Nat) : dRun (101 :: r) c s pt n = some (c, s, n, 101 :: r) := by
  rw [dRun, if_pos (by decide)]
theorem run_exp : ∀ (d : List UInt8) (e : Nat), (∀ b ∈ d, isD b = true) → eRun d e = some (dvA e d)
  | [], e, _ => by rw [eRun, dvA_nil]
  | b :: t, e, hd => by
    have hb := of_decide_eq_true (hd b (List.mem_cons_self ..))
    rw [eRun, if_neg (by omega), run_exp t _ (fun x hx => hd x (List.mem_cons_of_mem _ hx)), dvA_cons]
    congr 2
    unfold nx; omega
end Go.Proofs.YtmejmohambhaaaaGreatDoor
/- THE INTERVALS OF THE FLOATS LIE ONE BEHIND THE OTHER. Own work of the verifier. -/
namespace Go.Proofs.YtmejmohambhaaaaGreatDoor
open Soft

theorem eL_next (a : Nat) (h1 : a + 1 < 9218868437227405312) : eL (a + 1) = eH a ∧ (pM a % 2 = 1 → pM (a + 1) % 2 = 0) ∧ (pM a % 2 = 0 → pM (a + 1) % 2 = 1) := by
  unfold eL eH
  by_cases c1 : a + 1 < 4503599627370496
  · have e1 : pM a = a := by unfold pM; rw [if_pos (by omega)]
    have e2 : pM (a + 1) = a + 1 := by unfold pM; rw [if_pos (by omega)]
    have e3 : pK a = -1074 := by unfold pK; rw [if_pos (by omega)]
    have e4 : pK (a + 1) = -1074 := by unfold pK; rw [if_pos (by omega)]
    have e5 : lowM (a + 1) = 4 * a + 2 := by unfold lowM; rw [if_neg (by omega), e2]; omega
    rw [e1, e2, e3, e4, e5]
    exact ⟨rfl, fun h => by omega, fun h => by omega⟩
  · by_cases c2 : a + 1 = 4503599627370496
    · have e1 : pM a = a := by unfold pM; rw [if_pos (by omega)]
      have e2 : pM (a + 1) = a + 1 := by unfold pM; rw [if_neg (by omega)]; omega
      have e3 : pK a = -1074 := by unfold pK; rw [if_pos (by omega)]
      have e4 : pK (a + 1) = -1074 := by unfold pK; rw [if_neg (by omega)]; omega
      have e5 : lowM (a + 1) = 4 * a + 2 := by unfold lowM; rw [if_neg (by omega), e2]; omega
      rw [e1, e2, e3, e4, e5]
      exact ⟨rfl, fun h => by omega, fun h => by omega⟩
    · have e1 : pM a = a % 4503599627370496 + 4503599627370496 := by unfold pM; rw [if_neg (by omega)]
      have e3 : pK a = (a / 4503599627370496 : Nat) - 1075 := by unfold pK; rw [if_neg (by omega)]
      by_cases c3 : a % 4503599627370496 + 1 < 4503599627370496
      · have e2 : pM (a + 1) = pM a + 1 := by rw [e1]; unfold pM; rw [if_neg (by omega)]; omega
        have e4 : pK (a + 1) = pK a := by rw [e3]; unfold pK; rw [if_neg (by omega)]; omega
        have e5 : lowM (a + 1) = 4 * pM a + 2 := by unfold lowM; rw [if_neg (by omega), e2]; omega
        rw [e2, e4, e5]
        exact ⟨rfl, fun h => by omega, fun h => by omega⟩
      · have e1' : pM a = 9007199254740991 := by omega
        have e2 : pM (a + 1) = 4503599627370496 := by unfold pM; rw [if_neg (by omega)]; omega
        have e4 : pK (a + 1) = pK a + 1 := by rw [e3]; unfold pK; rw [if_neg (by omega)]; omega
        have e5 : lowM (a + 1) = 18014398509481983 := by unfold lowM; rw [if_pos ⟨by omega, by omega⟩, e2]
        have hk := pK_low a
        rw [e1', e2, e4, e5]
        refine ⟨?_, fun _ => by decide, fun h => absurd h (by decide)⟩
        have := V_two 18014398509481983 1 (pK a - 2) 0 (by omega)
        rw [show pK a - 2 + ((1 : Nat) : Int) = pK a + 1 - 2 from by omega] at this
        exact this.symm
theorem eL_rise {a b : Nat} (h0 : 1 ≤ a) (h : a < b) (h1 : b < 9218868437227405312) : eH a ≤ eL b := by
  induction b with
  | zero => omega
  | succ b ih =>
    rcases Nat.lt_or_ge a b with g | g
    · have i := ih g (by omega)
      have o := e_order b (by omega)
      have n := (eL_next b h1).1
      omega
    · obtain rfl : a = b := by omega
      exact Nat.le_of_eq (eL_next a h1).1.symm
theorem side_neg (b v : Nat) (s : Int) (hs : -400 ≤ s) (h : V v 0 s < eL b ∨ V v 0 s = eL b ∧ pM b % 2 = 1) : SideN b v s = -1 := by
  have hk := pK_low b
  unfold SideN
  rw [AG_V _ _ _ _ hs (by omega)]
  rw [if_pos]
  rcases h with h | h
  · left
    rw [show cmpN (V v 0 s) (V (lowM b) (pK b - 2) 0) = -1 from cmpN_lt h]
    decide
  · right
    exact ⟨cmpN_eq h.1, h.2⟩
theorem side_pos (b v : Nat) (s : Int) (hb : 1 ≤ b) (hs : -400 ≤ s) (h : eH b < V v 0 s ∨ V v 0 s = eH b ∧ pM b % 2 = 1) : SideN b v s = 1 := by
  have hk := pK_low b
  have o := e_order b hb
  unfold SideN
  rw [AG_V _ _ _ _ hs (by omega), AG_V _ _ _ _ hs (by omega)]
  rw [if_neg, if_pos]
  · rcases h with h | h
    · left
      rw [show cmpN (V v 0 s) (V (4 * pM b + 2) (pK b - 2) 0) = 1 from cmpN_gt h]
      decide
    · right
      exact ⟨cmpN_eq h.1, h.2⟩
  · rw [show cmpN (V v 0 s) (V (lowM b) (pK b - 2) 0) = 1 from cmpN_gt (show eL b < V v 0 s by omega)]
    rintro (k | k)
    · exact absurd k (by decide)
    · exact absurd k.1 (by decide)
/-- A number within one float's interval lies below that of every greater one .. -/
theorem side_greater {a b v : Nat} {s : Int} (h0 : 1 ≤ a) (h : a < b) (h1 : b < 9218868437227405312) (hs : -400 ≤ s) (hI : In a v s) : SideN b v s = -1 := by
  refine side_neg b v s hs ?_
  obtain ⟨i1, i2, i3⟩ := hI
  rcases Nat.lt_or_ge (a + 1) b with g | g
  · have r := eL_rise (a := a + 1) (by omega) g h1
    have o := e_order (a + 1) (by omega)
    have n := (eL_next a (by omega)).1
    left; omega
  · obtain rfl : b = a + 1 := by omega
    obtain ⟨n1, n2, n3⟩ := eL_next a h1
    rw [n1]
    have ho : pM a % 2 = 0 ∨ pM a % 2 = 1 := by omega
    rcases ho with ho | ho
    · have := n3 ho
      omega
    · have := i3 ho
      omega
/-- .. and above that of every lesser one. -/
theorem side_lesser {a b v : Nat} {s : Int} (h0 : 1 ≤ b) (h : b < a) (h1 : a < 9218868437227405312) (hs : -400 ≤ s) (hI : In a v s) : SideN b v s = 1 := by
  refine side_pos b v s h0 hs ?_
  obtain ⟨i1, i2, i3⟩ := hI
  rcases Nat.lt_or_ge (b + 1) a with g | g
  · have r := eL_rise (a := b + 1) (by omega) g h1
    have o := e_order (b + 1) (by omega)
    have n := (eL_next b (by omega)).1
    left; omega
  · obtain rfl : a = b + 1 := by omega
    obtain ⟨n1, n2, n3⟩ := eL_next b h1
    rw [n1] at i1 i3
    have ho : pM b % 2 = 0 ∨ pM b % 2 = 1 := by omega
    rcases ho with ho | ho
    · have := i3 (n3 ho)
      omega
    · omega
end Go.Proofs.YtmejmohambhaaaaGreatDoor
/- THE DOCUMENT'S decimal AT THE TEXT OF A FLOAT: digits within its interval. Own work of the verifier. -/
namespace Go.Proofs.YtmejmohambhaaaaGreatDoor
open Soft

theorem strip_ex (u : Nat) (hu : 1 ≤ u) : ∃ c j : Nat, u = c * 10 ^ j ∧ c % 10 ≠ 0 := by
  induction u using Nat.strongRecOn with
  | _ u ih =>
    by_cases h : u % 10 = 0
    · obtain ⟨c, j, e, hc⟩ := ih (u / 10) (by omega) (by omega)
      refine ⟨c, j + 1, ?_, hc⟩
      rw [Nat.pow_succ, ← Nat.mul_assoc, ← e]
      omega
    · exact ⟨u, 0, by rw [Nat.pow_zero, Nat.mul_one], h⟩
/-- The text of a float above 0, by its digits. -/
theorem float_txt (a : Nat) (h0 : 1 ≤ a) (h1 : a < 9218868437227405312) : ∃ (c : Nat) (e : Int), c % 10 ≠ 0 ∧ c < 100000000000000000 ∧ -391 ≤ e ∧ e ≤ 390 ∧ pText a = txt (Lib.decDigits c) e ∧ -400 ≤ e - (Lib.nDigits c : Int) + 1 ∧ In a c (e - (Lib.nDigits c : Int) + 1) := by
  obtain ⟨s1, s2, s3, s4⟩ := sd_bounds a (by omega) (by omega)
  have h17 := sd_17 a (by omega) (by omega)
  obtain ⟨p0, p1⟩ := pt_bounds a (by omega) (by omega)
  have hI := sd_In a h0 h1
  obtain ⟨c, j, e, hc⟩ := strip_ex (sd a).1 s1
  have hc1 : 1 ≤ c := by omega
  have hj : c ≤ c * 10 ^ j := Nat.le_mul_of_pos_right _ (Nat.pow_pos (by decide))
  have hpt : pt a = (sd a).2 + j + (Lib.nDigits c : Int) := by
    unfold pt
    rw [e, n_tens c j hc1]
    omega
  have ht := same_text a c ((sd a).2 + j + (Lib.nDigits c : Int) - 1) (by omega) (by omega) ⟨j, e, hc, rfl⟩
  rw [decide_eq_false (by omega)] at ht
  refine ⟨c, (sd a).2 + j + (Lib.nDigits c : Int) - 1, hc, by omega, by omega, by omega, ht.symm, by omega, ?_⟩
  rw [show (sd a).2 + j + (Lib.nDigits c : Int) - 1 - (Lib.nDigits c : Int) + 1 = (sd a).2 + j from by omega]
  refine (in_tens a c (sd a).2 j (by omega)).2 ?_
  rw [← e]
  exact hI
theorem decV_of {l : List UInt8} {c : Nat} {s : Int} {n : Nat} {r : List UInt8} (h : dRun l 0 0 false 0 = some (c, s, n, r)) : decV l = yRun c s n r := by
  unfold decV
  rw [h]
theorem yRun_nil {c : Nat} {s : Int} {n : Nat} (hn : n ≠ 0) (hc : c ≠ 0) : yRun c s n [] = some (c, s) := by
  unfold yRun
  rw [if_neg (by omega)]
theorem xRun_dec (c : Nat) (s : Int) (m : Bool) (x : Nat) (hx : x < 1000) : xRun c s m (Lib.decDigits x) = some (c, s + (if m then -(x : Int) else (x : Int))) := by
  have hl := Lib.decDigits_length x
  have h1 := Lib.nDigits_pos x
  have h3 : Lib.nDigits x ≤ 3 := n_le (by decide) hx
  obtain ⟨v1, v2⟩ := dec_val x
  unfold xRun
  rw [if_neg (by omega), run_exp _ _ v2, v1]
theorem yRun_minus {c : Nat} {s : Int} {n : Nat} (x : Nat) (hx : x < 1000) (hn : n ≠ 0) (hc : c ≠ 0) : yRun c s n (101 :: 45 :: Lib.decDigits x) = some (c, s - (x : Int)) := by
  unfold yRun
  rw [if_neg (by omega)]
  simp only
  rw [if_pos (by decide), xRun_dec c s true x hx, if_pos rfl]
  congr 2
theorem yRun_plus {c : Nat} {s : Int} {n : Nat} (x : Nat) (hx : x < 1000) (hn : n ≠ 0) (hc : c ≠ 0) : yRun c s n (101 :: Lib.decDigits x) = some (c, s + (x : Int)) := by
  have hl := Lib.decDigits_length x
  have h1 := Lib.nDigits_pos x
  have hv := (dec_val x).2
  have hX := xRun_dec c s false x hx
  unfold yRun
  rw [if_neg (by omega)]
  generalize hd : Lib.decDigits x = d at *
  cases d with
  | nil => rw [List.length_nil] at hl; omega
  | cons b r =>
    have hb := of_decide_eq_true (hv b (List.mem_cons_self ..))
    simp only
    rw [if_neg (by omega), hX, if_neg (by decide)]
theorem dec_txt (c : Nat) (e : Int) (hc : c % 10 ≠ 0) (h17 : c < 100000000000000000) (h0 : -391 ≤ e) (h1 : e ≤ 390) : ∃ (z : Nat) (s : Int), decV (txt (Lib.decDigits c) e) = some (c * 10 ^ z, s) ∧ e - (Lib.nDigits c : Int) + 1 = s + z ∧ (z = 0 ∨ 0 ≤ s) := by
  have hl := Lib.decDigits_length c
  have hn := Lib.nDigits_pos c
  obtain ⟨v1, v2⟩ := dec_val c
  unfold txt
  by_cases a : 0 ≤ e ∧ e ≤ 20
  · rw [if_pos a]
    by_cases k : ((Lib.decDigits c).length : Int) ≤ e + 1
    · rw [if_pos k]
      have r1 := run_digits (Lib.decDigits c) (List.replicate (e + 1 - (Lib.decDigits c).length).toNat 48) 0 0 false 0 v2 (by rw [v1]; omega)
      rw [v1, if_neg (by decide)] at r1
      obtain ⟨z, z1, z2, z3⟩ := run_zeros (e + 1 - (Lib.decDigits c).length).toNat [] c 0 (0 + (Lib.decDigits c).length) (by omega) (by omega)
      rw [List.append_nil] at z3
      rw [z3, dRun] at r1
      refine ⟨z, _, (decV_of r1).trans (yRun_nil (by omega) ?_), by omega, by omega⟩
      have := Nat.mul_pos (show 0 < c by omega) (Nat.pow_pos (n := z) (show 0 < 10 by decide))
      omega
    · rw [if_neg k]
      have r1 := run_digits ((Lib.decDigits c).take (e + 1).toNat) (46 :: (Lib.decDigits c).drop (e + 1).toNat) 0 0 false 0 (fun b hb => v2 b (List.mem_of_mem_take hb))
      have hsp : dvA (dvA 0 ((Lib.decDigits c).take (e + 1).toNat)) ((Lib.decDigits c).drop (e + 1).toNat) = c := by rw [← dvA_append, List.take_append_drop, v1]
      have hge : ∀ (l : List UInt8) (x : Nat), x ≤ dvA x l := fun l => by
        induction l with
        | nil => intro x; rw [dvA_nil]; exact Nat.le_refl _
        | cons a l ih => intro x; rw [dvA_cons]; refine Nat.le_trans ?_ (ih _); unfold nx; omega
      have h2 := hge ((Lib.decDigits c).drop (e + 1).toNat) (dvA 0 ((Lib.decDigits c).take (e + 1).toNat))
      rw [hsp] at h2
      have r2 := r1 (by omega)
      have r3 := run_digits ((Lib.decDigits c).drop (e + 1).toNat) [] (dvA 0 ((Lib.decDigits c).take (e + 1).toNat)) 0 true (0 + ((Lib.decDigits c).take (e + 1).toNat).length) (fun b hb => v2 b (List.mem_of_mem_drop hb)) (by rw [hsp]; omega)
      rw [List.append_nil, hsp, if_pos rfl, dRun] at r3
      rw [if_neg (by decide), run_point, r3] at r2
      have e4 : List.take (e + 1).toNat (Lib.decDigits c) ++ [46] ++ List.drop (e + 1).toNat (Lib.decDigits c) = List.take (e + 1).toNat (Lib.decDigits c) ++ 46 :: List.drop (e + 1).toNat (Lib.decDigits c) := by simp
      rw [e4]
      refine ⟨0, _, (decV_of r2).trans (by rw [Nat.pow_zero, Nat.mul_one]; exact yRun_nil (by rw [List.length_take]; omega) (by omega)), ?_, Or.inl rfl⟩
      rw [List.length_drop]
      omega
  · rw [if_neg a]
    by_cases k : e < 0 ∧ -6 ≤ e
    · rw [if_pos k]
      have hz : ∀ b ∈ List.replicate (-e - 1).toNat (48 : UInt8), isD b = true := zeros_d _
      have r1 := run_digits (List.replicate (-e - 1).toNat 48) (Lib.decDigits c) 0 0 true 1 hz (by rw [dvA_zeros]; omega)
      rw [dvA_zeros, Nat.zero_mul, if_pos rfl, List.length_replicate] at r1
      have r2 := run_digits (Lib.decDigits c) [] 0 (0 - ((-e - 1).toNat : Int)) true (1 + (-e - 1).toNat) v2 (by rw [v1]; omega)
      rw [List.append_nil, v1, if_pos rfl, dRun] at r2
      rw [r2] at r1
      have r0 : dRun ([48, 46] ++ List.replicate (-e - 1).toNat 48 ++ Lib.decDigits c) 0 0 false 0 = dRun (List.replicate (-e - 1).toNat 48 ++ Lib.decDigits c) 0 0 true 1 := by
        rw [List.append_assoc]
        show dRun (48 :: 46 :: (List.replicate (-e - 1).toNat 48 ++ Lib.decDigits c)) 0 0 false 0 = _
        rw [dRun, if_neg (by decide), if_neg (by decide), if_neg (by decide), if_neg (by decide), if_neg (by decide), if_neg (by decide), run_point]
        rfl
      refine ⟨0, _, (decV_of (r0.trans r1)).trans (by rw [Nat.pow_zero, Nat.mul_one]; exact yRun_nil (by omega) (by omega)), by omega, Or.inl rfl⟩
    · rw [if_neg k]
      obtain ⟨d0, ds, hd⟩ : ∃ d0 ds, Lib.decDigits c = d0 :: ds := by
        cases g : Lib.decDigits c with
        | nil => rw [g] at hl; simp at hl; omega
        | cons a l => exact ⟨a, l, rfl⟩
      rw [hd] at hl v1 v2 ⊢
      rw [List.length_cons] at hl
      rw [dvA_cons] at v1
      have hge : ∀ (l : List UInt8) (x : Nat), x ≤ dvA x l := fun l => by
        induction l with
        | nil => intro x; rw [dvA_nil]; exact Nat.le_refl _
        | cons a l ih => intro x; rw [dvA_cons]; refine Nat.le_trans ?_ (ih _); unfold nx; omega
      have h2 := hge ds (nx 0 d0)
      have hrun : ∀ X : List UInt8, ∃ n, n ≠ 0 ∧ dRun (((d0 :: ds).take 1 ++ (if 1 < (d0 :: ds).length then [46] ++ (d0 :: ds).drop 1 else [])) ++ 101 :: X) 0 0 false 0 = some (c, -(ds.length : Int), n, 101 :: X) := fun X => by
        have hd0 : ∀ b ∈ [d0], isD b = true := fun b hb => v2 b (by rw [List.mem_singleton.1 hb]; exact List.mem_cons_self ..)
        by_cases g : 1 < (d0 :: ds).length
        · rw [if_pos g]
          have r1 := run_digits [d0] (46 :: (ds ++ 101 :: X)) 0 0 false 0 hd0 (by rw [dvA_cons, dvA_nil]; omega)
          have r2 := run_digits ds (101 :: X) (nx 0 d0) 0 true 1 (fun b hb => v2 b (List.mem_cons_of_mem _ hb)) (by omega)
          rw [v1, if_pos rfl, run_e] at r2
          rw [dvA_cons, dvA_nil, if_neg (by decide), run_point] at r1
          refine ⟨1 + ds.length, by omega, ?_⟩
          have e5 : (d0 :: ds).take 1 ++ ([46] ++ (d0 :: ds).drop 1) ++ 101 :: X = [d0] ++ 46 :: (ds ++ 101 :: X) := by simp
          rw [e5, r1]
          show dRun (ds ++ 101 :: X) (nx 0 d0) 0 true 1 = _
          rw [r2]
          congr 3
          omega
        · rw [if_neg g]
          rw [List.length_cons] at g
          have hds : ds = [] := List.length_eq_zero_iff.1 (by omega)
          subst hds
          have r1 := run_digits [d0] (101 :: X) 0 0 false 0 hd0 (by rw [dvA_cons, dvA_nil]; omega)
          rw [dvA_cons, if_neg (by decide), run_e, v1] at r1
          refine ⟨1, by decide, ?_⟩
          have e5 : (d0 :: ([] : List UInt8)).take 1 ++ [] ++ 101 :: X = [d0] ++ 101 :: X := by simp
          rw [e5, r1]
          rfl
      by_cases g : e < 0
      · rw [if_pos g]
        obtain ⟨n, n1, n2⟩ := hrun (45 :: Lib.decDigits (-e).toNat)
        refine ⟨0, _, (decV_of n2).trans (by rw [Nat.pow_zero, Nat.mul_one]; exact yRun_minus _ (by omega) n1 (by omega)), by omega, Or.inl rfl⟩
      · rw [if_neg g]
        obtain ⟨n, n1, n2⟩ := hrun (Lib.decDigits e.toNat)
        refine ⟨0, _, (decV_of n2).trans (by rw [Nat.pow_zero, Nat.mul_one]; exact yRun_plus _ (by omega) n1 (by omega)), by omega, Or.inl rfl⟩
/-- AT THE TEXT OF A FLOAT ABOVE 0 what decimal answers lies within the float's interval. -/
theorem dec_float (a : Nat) (h0 : 1 ≤ a) (h1 : a < 9218868437227405312) : ∃ (c : Nat) (s : Int), decV (pText a) = some (c, s) ∧ -400 ≤ s ∧ In a c s := by
  obtain ⟨c, e, hc, h17, e0, e1, ht, hs, hI⟩ := float_txt a h0 h1
  obtain ⟨z, s, hd, hz, hz0⟩ := dec_txt c e hc h17 e0 e1
  have hs0 : -400 ≤ s := by omega
  refine ⟨c * 10 ^ z, s, by rw [ht]; exact hd, hs0, (in_tens a c s z hs0).1 ?_⟩
  rw [← hz]
  exact hI
end Go.Proofs.YtmejmohambhaaaaGreatDoor
