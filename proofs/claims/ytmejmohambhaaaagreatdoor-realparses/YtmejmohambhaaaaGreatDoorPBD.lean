/- decimal: the document's, of layer 2, at every text. Own work of the verifier. -/
import Derived.Test.YtmejmohambhaaaaGreatDoorPBB
namespace Go.Proofs.YtmejmohambhaaaaGreatDoor
open Go.RowKit

def TellsD (l : List UInt8) (r : Ending) : Prop := (∃ (c : Nat) (s : Int), decV l = some (c, s) ∧ r = .returned (.tuple #[.int .u64 (c : Int), .int .i64 s, .bool true])) ∨ (decV l = none ∧ r = .returned (.tuple #[.int .u64 0, .int .i64 0, .bool false]))
theorem decV_none {l : List UInt8} (h : dRun l 0 0 false 0 = none) : decV l = none := by unfold decV; rw [h]
theorem yRun_zero {c : Nat} {s : Int} {n : Nat} {r : List UInt8} (h : n = 0 ∨ c = 0) : yRun c s n r = none := by unfold yRun; rw [if_pos h]
theorem yRun_step (l : List UInt8) (i : Nat) (b : UInt8) (c : Nat) (s : Int) (n : Nat) (hn : n ≠ 0) (hc : c ≠ 0) :
    (∀ h : i < l.length, l[i].toNat = 45 → yRun c s n (b :: l.drop i) = xRun c s true (l.drop (i + 1))) ∧ ((∀ h : i < l.length, l[i].toNat ≠ 45) → yRun c s n (b :: l.drop i) = xRun c s false (l.drop i)) := by
  refine ⟨fun h h45 => ?_, fun h => ?_⟩
  · unfold yRun
    rw [if_neg (by omega), List.drop_eq_getElem_cons h]
    simp only
    rw [if_pos h45]
  · unfold yRun
    rw [if_neg (by omega)]
    rcases Nat.lt_or_ge i l.length with g | g
    · rw [List.drop_eq_getElem_cons g]
      simp only
      rw [if_neg (h g)]
    · have hx : xRun c s false ([] : List UInt8) = none := by
        unfold xRun
        rw [if_pos (Or.inl List.length_nil)]
      rw [List.drop_eq_nil_of_le g, hx]
theorem eRun_small (e k : Nat) (h : e < 10 ^ k) (hk : k ≤ 2) : e < 100 := by
  have : 10 ^ k ≤ 10 ^ 2 := Nat.pow_le_pow_right (by decide) hk
  rw [show (10 : Nat) ^ 2 = 100 from by decide] at this
  omega
set_option maxHeartbeats 4000000 in
set_option maxRecDepth 100000 in
theorem decimal_any (l : List UInt8) (hl : l.length ≤ 40) (w : World) :
    Calls Tryz.prog 23 #[.string ⟨l.toArray⟩] w fun r w' => TellsD l r ∧ w' = w := by
  go_enter Tryz.func23, Tryz.ntmps23
  go_wp2_with fail
  go_loopw [5, 6, 7, 8, 9] (fun a5 a6 a7 a8 a9 W => ∃ (i c n : Nat) (s p : Int), i ≤ l.length ∧ a5 = .int .u64 (c : Int) ∧ a6 = .int .i64 s ∧ a7 = .int .i64 p ∧ a8 = .int .i64 (n : Int) ∧ a9 = .int .i64 (i : Int) ∧ c ≤ 999999999999999999 ∧ -(i : Int) ≤ s ∧ s ≤ (i : Int) ∧ n ≤ i ∧ -1 ≤ p ∧ p ≤ 40 ∧ Hid (dRun l 0 0 false 0 = dRun (l.drop i) c s (decide (0 ≤ p)) n) ∧ W = w) (fun _ _ _ _ a _ => l.length - (intOf a).toNat)
  case atStart => exact ⟨0, 0, 0, 0, -1, by omega, rfl, rfl, rfl, rfl, rfl, by decide, by decide, by decide, by decide, by decide, by decide, rfl, rfl⟩
  case round =>
    obtain ⟨i, c, n, s, p, hi, rfl, rfl, rfl, rfl, rfl, hc, s0, s1, hn, p0, p1, HR, hw⟩ := hrel
    subst wr
    by_cases hlt : i < l.length
    · have hlt' : (i : Int) < (l.length : Int) := by omega
      have hB : i < (ByteArray.mk l.toArray).size := by show i < l.toArray.size; simpa using hlt
      have hbe : ((ByteArray.mk l.toArray)[i]'hB).toNat = l[i].toNat := rfl
      have h256 : ((ByteArray.mk l.toArray)[i]'hB).toNat < 256 := UInt8.toNat_lt _
      have hS := HR.out
      rw [List.drop_eq_getElem_cons hlt, dRun] at hS
      clear HR
      by_cases c101 : l[i].toNat = 101
      · rw [if_pos c101] at hS
        have hD := decV_of hS
        have t1 : ((((ByteArray.mk l.toArray)[i]'hB).toNat : Int) != 101) = false := by rw [bne_eq_false_iff_eq, hbe]; omega
        clear hS c101 hbe h256
        by_cases z1 : n = 0
        · have z1' : ((n : Int) == 0) = true := by rw [beq_iff_eq]; omega
          have HE : Hid (decV l = none) := (hD.trans (yRun_zero (Or.inl z1)))
          clear hD z1
          as_aux_lemma =>
            go_wp2_with fail
            go_ret3
            exact ⟨Or.inr ⟨HE.out, rfl⟩, rfl⟩
        have z1' : ((n : Int) == 0) = false := by rw [beq_eq_false_iff_ne]; omega
        by_cases z2 : c = 0
        · have z2' : ((c : Int) == 0) = true := by rw [beq_iff_eq]; omega
          have HE : Hid (decV l = none) := (hD.trans (yRun_zero (Or.inr z2)))
          clear hD z2 z1
          as_aux_lemma =>
            go_wp2_with fail
            go_ret3
            exact ⟨Or.inr ⟨HE.out, rfl⟩, rfl⟩
        have z2' : ((c : Int) == 0) = false := by rw [beq_eq_false_iff_ne]; omega
        obtain ⟨y1, y2⟩ := yRun_step l (i + 1) l[i] c s n z1 z2
        rw [← hD] at y1 y2
        obtain ⟨j, hj⟩ : ∃ j, j = i + 1 := ⟨_, rfl⟩
        have hj' : (i : Int) + 1 = (j : Int) := by omega
        have z3 : ((i : Int) == (l.length : Int)) = false := by rw [beq_eq_false_iff_ne]; omega
        rw [← hj] at y1 y2
        have HY1 : Hid _ := y1
        have HY2 : Hid _ := y2
        have jl : j ≤ l.length := by omega
        clear hD y1 y2 z1 z2 hj
        as_aux_lemma =>
        go_upto_region 24 with fail
        go_cut [10] from 85 (fun v W => ∃ m : Bool, v = .bool m ∧ (m = true ↔ ∃ h : j < l.length, l[j].toNat = 45) ∧ W = w)
        case first =>
          by_cases jlt : j < l.length
          · have jlt' : (j : Int) < (l.length : Int) := by omega
            have hBj : j < (ByteArray.mk l.toArray).size := by show j < l.toArray.size; simpa using jlt
            have hbj : ((ByteArray.mk l.toArray)[j]'hBj).toNat = l[j].toNat := rfl
            by_cases c45 : l[j].toNat = 45
            · have t45 : ((((ByteArray.mk l.toArray)[j]'hBj).toNat : Int) == 45) = true := by rw [beq_iff_eq, hbj]; omega
              have H45 : Hid _ := c45
              clear hbj c45
              as_aux_lemma =>
                go_wp2_with fail
                go_meet
                exact ⟨true, rfl, ⟨fun _ => ⟨jlt, H45.out⟩, fun _ => rfl⟩, rfl⟩
            · have t45 : ((((ByteArray.mk l.toArray)[j]'hBj).toNat : Int) == 45) = false := by rw [beq_eq_false_iff_ne, hbj]; omega
              have H45 : Hid _ := c45
              clear hbj c45
              as_aux_lemma =>
                go_wp2_with fail
                go_meet
                exact ⟨false, rfl, ⟨(fun h => by cases h), (fun h => absurd h.2 H45.out)⟩, rfl⟩
          · have jlt' : ¬ (j : Int) < (l.length : Int) := by omega
            as_aux_lemma =>
              go_wp2_with fail
              go_meet
              exact ⟨false, rfl, ⟨(fun h => by cases h), (fun h => absurd h.1 jlt)⟩, rfl⟩
        case rest =>
        obtain ⟨m, rfl, hm, hwc⟩ := hcut
        subst wc
        have HM : Hid _ := hm
        clear hm
        go_upto_if 95 with fail
        go_cut [9] from 96 (fun v W => ∃ i0 : Nat, v = .int .i64 (i0 : Int) ∧ i0 ≤ l.length ∧ Hid (decV l = xRun c s m (l.drop i0)) ∧ W = w)
        case first =>
          cases m
          · have HX : Hid (decV l = xRun c s false (l.drop j)) := HY2.out (fun h k => by have := HM.out.2 ⟨h, k⟩; cases this)
            clear HY1 HY2 HM
            as_aux_lemma =>
              go_wp2_with fail
              go_meet
              exact ⟨j, rfl, jl, HX, rfl⟩
          · obtain ⟨h, k⟩ := HM.out.1 rfl
            have HX : Hid (decV l = xRun c s true (l.drop (j + 1))) := HY1.out h k
            clear HY1 HY2 HM k
            as_aux_lemma =>
              go_wp2_with fail
              go_meet
              exact ⟨j + 1, by go_num, by omega, HX, rfl⟩
        case rest =>
        clear HY1 HY2 HM
        obtain ⟨i0, rfl, hi0, HX, hwc⟩ := hcut
        subst wc
        by_cases q1 : i0 = l.length
        · have q1' : ((i0 : Int) == (l.length : Int)) = true := by rw [beq_iff_eq]; omega
          have HE : Hid (decV l = none) := (by show decV l = none; rw [HX.out]; unfold xRun; rw [if_pos (Or.inl (by rw [List.length_drop]; omega))])
          clear HX q1
          as_aux_lemma =>
            go_wp2_with fail
            go_ret3
            exact ⟨Or.inr ⟨HE.out, rfl⟩, rfl⟩
        have q1' : ((i0 : Int) == (l.length : Int)) = false := by rw [beq_eq_false_iff_ne]; omega
        by_cases q2 : 3 < l.length - i0
        · have q2' : (3 : Int) < (l.length : Int) - (i0 : Int) := by omega
          have HE : Hid (decV l = none) := (by show decV l = none; rw [HX.out]; unfold xRun; rw [if_pos (Or.inr (by rw [List.length_drop]; exact q2))])
          clear HX q1 q2
          as_aux_lemma =>
            go_wp2_with fail
            go_ret3
            exact ⟨Or.inr ⟨HE.out, rfl⟩, rfl⟩
        have q2' : ¬ (3 : Int) < (l.length : Int) - (i0 : Int) := by omega
        have HX2 : Hid (decV l = match eRun (l.drop i0) 0 with | none => none | some e => some (c, s + (if m then -(e : Int) else (e : Int)))) := by
          have := HX.out
          unfold xRun at this
          rw [if_neg (by rw [List.length_drop]; omega)] at this
          exact this
        clear HX
        go_wp2_with fail
        go_loopw [9, 11] (fun a b W => ∃ i e : Nat, a = .int .i64 (i : Int) ∧ b = .int .i64 (e : Int) ∧ i0 ≤ i ∧ i ≤ l.length ∧ Hid (e < 10 ^ (i - i0)) ∧ e < 1000 ∧ Hid (eRun (l.drop i0) 0 = eRun (l.drop i) e) ∧ W = w) (fun a _ _ => l.length - (intOf a).toNat)
        case atStart => exact ⟨i0, 0, rfl, rfl, by omega, hi0, by show 0 < 10 ^ (i0 - i0); rw [Nat.sub_self]; decide, by decide, rfl, rfl⟩
        case round =>
          obtain ⟨k, e, rfl, rfl, k0, k1, HE, e0, HR, hw⟩ := hrel
          subst wr
          by_cases klt : k < l.length
          · have klt' : (k : Int) < (l.length : Int) := by omega
            have hBk : k < (ByteArray.mk l.toArray).size := by show k < l.toArray.size; simpa using klt
            have hbk : ((ByteArray.mk l.toArray)[k]'hBk).toNat = l[k].toNat := rfl
            have k256 : ((ByteArray.mk l.toArray)[k]'hBk).toNat < 256 := UInt8.toNat_lt _
            have hS := HR.out
            rw [List.drop_eq_getElem_cons klt, eRun] at hS
            have e1 : e < 100 := eRun_small e (k - i0) HE.out (by omega)
            by_cases d1 : l[k].toNat < 48
            · have d1' : (((ByteArray.mk l.toArray)[k]'hBk).toNat : Int) < 48 := by rw [hbk]; omega
              rw [if_pos (Or.inl d1)] at hS
              have HF : Hid (decV l = none) := (by show decV l = none; rw [HX2.out, hS])
              clear hS hbk d1 HX2 HR HE
              as_aux_lemma =>
                go_wp2_with fail
                go_ret3
                exact ⟨Or.inr ⟨HF.out, rfl⟩, rfl⟩
            have d1' : ¬ (((ByteArray.mk l.toArray)[k]'hBk).toNat : Int) < 48 := by rw [hbk]; omega
            by_cases d2 : 57 < l[k].toNat
            · have d2' : (57 : Int) < (((ByteArray.mk l.toArray)[k]'hBk).toNat : Int) := by rw [hbk]; omega
              rw [if_pos (Or.inr d2)] at hS
              have HF : Hid (decV l = none) := (by show decV l = none; rw [HX2.out, hS])
              clear hS hbk d1 d2 HX2 HR HE
              as_aux_lemma =>
                go_wp2_with fail
                go_ret3
                exact ⟨Or.inr ⟨HF.out, rfl⟩, rfl⟩
            have d2' : ¬ (57 : Int) < (((ByteArray.mk l.toArray)[k]'hBk).toNat : Int) := by rw [hbk]; omega
            rw [if_neg (by omega)] at hS
            have HR' : Hid _ := hS
            have HE' : Hid (10 * e + (l[k].toNat - 48) < 10 ^ (k + 1 - i0)) := by
              have := HE.out
              show _ < 10 ^ (k + 1 - i0)
              rw [show k + 1 - i0 = k - i0 + 1 from by omega, Nat.pow_succ]
              omega
            clear hS HR HE d1 d2 HX2
            as_aux_lemma =>
              go_wp2_with fail
              refine ⟨⟨k + 1, 10 * e + (l[k].toNat - 48), by go_num, congrArg (Value.int .i64) (by rw [← hbk]; omega), by omega, by omega, HE', by omega, HR', trivial⟩, by simp [intOf]; omega⟩
          · obtain rfl : k = l.length := by omega
            have klt' : ¬ (l.length : Int) < (l.length : Int) := by omega
            have hS := HR.out
            rw [List.drop_length, eRun] at hS
            have hX := HX2.out
            rw [hS] at hX
            cases m
            · have HG : Hid (decV l = some (c, (s + (e : Int)))) := hX
              clear hS hX HX2 HR HE
              as_aux_lemma =>
                go_wp2_with fail
                go_ret3
                exact ⟨Or.inl ⟨_, _, HG.out, rfl⟩, rfl⟩
            · have HG : Hid (decV l = some (c, (s + -(e : Int)))) := hX
              clear hS hX HX2 HR HE
              as_aux_lemma =>
                go_wp2_with fail
                go_ret3
                exact ⟨Or.inl ⟨_, _, HG.out, rfl⟩, rfl⟩
      rw [if_neg c101] at hS
      have t1 : ((((ByteArray.mk l.toArray)[i]'hB).toNat : Int) != 101) = true := by rw [bne_iff_ne, hbe]; omega
      by_cases c46 : l[i].toNat = 46
      · have t46 : ((((ByteArray.mk l.toArray)[i]'hB).toNat : Int) == 46) = true := by rw [beq_iff_eq, hbe]; omega
        by_cases pn : p < 0
        · rw [if_pos ⟨c46, decide_eq_false (by omega)⟩] at hS
          have HR : Hid (dRun l 0 0 false 0 = dRun (l.drop (i + 1)) c s (decide (0 ≤ (i : Int))) n) := by
            show _ = dRun (l.drop (i + 1)) c s (decide (0 ≤ (i : Int))) n
            rw [decide_eq_true (by omega)]; exact hS
          clear hS c46 c101 hbe h256
          as_aux_lemma =>
            go_wp2_with fail
            exact ⟨⟨i + 1, c, n, s, (i : Int), by omega, rfl, rfl, rfl, rfl, by go_num, hc, by omega, by omega, by omega, by omega, by omega, HR, trivial⟩, by simp [intOf]; omega⟩
        · rw [if_neg (fun h => by have := of_decide_eq_false h.2; omega), if_pos (Or.inl (by omega))] at hS
          have HE : Hid (decV l = none) := (decV_none hS)
          have u48 : (((ByteArray.mk l.toArray)[i]'hB).toNat : Int) < 48 := by rw [hbe]; omega
          clear hS c46 c101 hbe h256
          as_aux_lemma =>
            go_wp2_with fail
            go_ret3
            exact ⟨Or.inr ⟨HE.out, rfl⟩, rfl⟩
      rw [if_neg (fun h => c46 h.1)] at hS
      have t46 : ((((ByteArray.mk l.toArray)[i]'hB).toNat : Int) == 46) = false := by rw [beq_eq_false_iff_ne, hbe]; omega
      by_cases d1 : l[i].toNat < 48
      · have d1' : (((ByteArray.mk l.toArray)[i]'hB).toNat : Int) < 48 := by rw [hbe]; omega
        rw [if_pos (Or.inl d1)] at hS
        have HE : Hid (decV l = none) := (decV_none hS)
        clear hS c46 c101 hbe h256 d1
        as_aux_lemma =>
          go_wp2_with fail
          go_ret3
          exact ⟨Or.inr ⟨HE.out, rfl⟩, rfl⟩
      have d1' : ¬ (((ByteArray.mk l.toArray)[i]'hB).toNat : Int) < 48 := by rw [hbe]; omega
      by_cases d2 : 57 < l[i].toNat
      · have d2' : (57 : Int) < (((ByteArray.mk l.toArray)[i]'hB).toNat : Int) := by rw [hbe]; omega
        rw [if_pos (Or.inr d2)] at hS
        have HE : Hid (decV l = none) := (decV_none hS)
        clear hS c46 c101 hbe h256 d1 d2
        as_aux_lemma =>
          go_wp2_with fail
          go_ret3
          exact ⟨Or.inr ⟨HE.out, rfl⟩, rfl⟩
      have d2' : ¬ (57 : Int) < (((ByteArray.mk l.toArray)[i]'hB).toNat : Int) := by rw [hbe]; omega
      rw [if_neg (by omega)] at hS
      have hxl : (l[i].toNat : Int) = (((ByteArray.mk l.toArray)[i]'hB).toNat : Int) := rfl
      by_cases zz : l[i].toNat = 48 ∧ 100000000000000000 ≤ c
      · have z1 : ((((ByteArray.mk l.toArray)[i]'hB).toNat : Int) == 48) = true := by rw [beq_iff_eq, hbe]; omega
        have z2 : (100000000000000000 : Int) ≤ (c : Int) := by omega
        have z3 : ¬ (999999999999999999 : Int) < (c : Int) := by omega
        rw [if_pos zz] at hS
        by_cases pn : p < 0
        · have pn' : ¬ 0 ≤ p := by omega
          rw [if_neg (by rw [decide_eq_false pn']; decide)] at hS
          have HR : Hid _ := hS
          clear hS c46 c101 hbe h256 d1 d2 zz hxl
          as_aux_lemma =>
            go_wp2_with fail
            exact ⟨⟨i + 1, c, n + 1, s + 1, p, by omega, rfl, rfl, rfl, by go_num, by go_num, hc, by omega, by omega, by omega, by omega, by omega, HR, trivial⟩, by simp [intOf]; omega⟩
        · have pn' : 0 ≤ p := by omega
          rw [if_pos (decide_eq_true pn')] at hS
          have HR : Hid (dRun l 0 0 false 0 = dRun (l.drop (i + 1)) c s (decide (0 ≤ p)) (n + 1)) := by
            show _ = dRun (l.drop (i + 1)) c s (decide (0 ≤ p)) (n + 1)
            rw [show s + 1 - 1 = s from by omega] at hS
            exact hS
          clear hS c46 c101 hbe h256 d1 d2 zz hxl
          as_aux_lemma =>
            go_wp2_with fail
            exact ⟨⟨i + 1, c, n + 1, s, p, by omega, rfl, congrArg (Value.int .i64) (by omega), rfl, by go_num, by go_num, hc, by omega, by omega, by omega, by omega, by omega, HR, trivial⟩, by simp [intOf]; omega⟩
      rw [if_neg zz] at hS
      obtain ⟨c', hc'⟩ : ∃ c', c' = 10 * c + (l[i].toNat - 48) := ⟨_, rfl⟩
      have hcc : 10 * (c : Int) + ((((ByteArray.mk l.toArray)[i]'hB).toNat : Int) - 48) = (c' : Int) := by rw [hbe]; omega
      rw [← hc'] at hS
      have zb : ((((ByteArray.mk l.toArray)[i]'hB).toNat : Int) == 48) = false ∨ ((((ByteArray.mk l.toArray)[i]'hB).toNat : Int) == 48) = true ∧ ¬ (100000000000000000 : Int) ≤ (c : Int) := by
        by_cases g : l[i].toNat = 48
        · right
          exact ⟨by rw [beq_iff_eq, hbe]; omega, by omega⟩
        · left
          rw [beq_eq_false_iff_ne, hbe]; omega
      by_cases big : 999999999999999999 < c'
      · have big' : (999999999999999999 : Int) < (c' : Int) := by omega
        rw [if_pos big] at hS
        have HE : Hid (decV l = none) := (decV_none hS)
        have cb : c' < 18446744073709551616 := by omega
        clear hS c46 c101 hbe d1 d2 zz hxl big
        rcases zb with zb | ⟨zb, zc⟩
        · as_aux_lemma =>
            go_wp2_with fail
            go_ret3
            exact ⟨Or.inr ⟨HE.out, rfl⟩, rfl⟩
        · as_aux_lemma =>
            go_wp2_with fail
      have big' : ¬ (999999999999999999 : Int) < (c' : Int) := by omega
      have cb : c' ≤ 999999999999999999 := by omega
      rw [if_neg big] at hS
      by_cases pn : p < 0
      · have pn' : ¬ 0 ≤ p := by omega
        rw [if_neg (by rw [decide_eq_false pn']; decide)] at hS
        have HR : Hid _ := hS
        clear hS c46 c101 hbe d1 d2 zz hxl big hc'
        rcases zb with zb | ⟨zb, zc⟩
        · as_aux_lemma =>
            go_wp2_with fail
            exact ⟨⟨i + 1, c', n + 1, s, p, by omega, rfl, rfl, rfl, by go_num, by go_num, cb, by omega, by omega, by omega, by omega, by omega, HR, trivial⟩, by simp [intOf]; omega⟩
        · as_aux_lemma =>
            go_wp2_with fail
            exact ⟨⟨i + 1, c', n + 1, s, p, by omega, rfl, rfl, rfl, by go_num, by go_num, cb, by omega, by omega, by omega, by omega, by omega, HR, trivial⟩, by simp [intOf]; omega⟩
      · have pn' : 0 ≤ p := by omega
        rw [if_pos (decide_eq_true pn')] at hS
        have HR : Hid _ := hS
        clear hS c46 c101 hbe d1 d2 zz hxl big hc'
        rcases zb with zb | ⟨zb, zc⟩
        · as_aux_lemma =>
            go_wp2_with fail
            exact ⟨⟨i + 1, c', n + 1, s - 1, p, by omega, rfl, rfl, rfl, by go_num, by go_num, cb, by omega, by omega, by omega, by omega, by omega, HR, trivial⟩, by simp [intOf]; omega⟩
        · as_aux_lemma =>
            go_wp2_with fail
            exact ⟨⟨i + 1, c', n + 1, s - 1, p, by omega, rfl, rfl, rfl, by go_num, by go_num, cb, by omega, by omega, by omega, by omega, by omega, HR, trivial⟩, by simp [intOf]; omega⟩
    · obtain rfl : i = l.length := by omega
      have hlt' : ¬ (l.length : Int) < (l.length : Int) := by omega
      have hS := HR.out
      rw [List.drop_length, dRun] at hS
      have hD := decV_of hS
      clear hS HR
      by_cases z1 : n = 0
      · have z1' : ((n : Int) == 0) = true := by rw [beq_iff_eq]; omega
        have HE : Hid (decV l = none) := (hD.trans (yRun_zero (Or.inl z1)))
        clear hD z1
        as_aux_lemma =>
          go_wp2_with fail
          go_ret3
          exact ⟨Or.inr ⟨HE.out, rfl⟩, rfl⟩
      have z1' : ((n : Int) == 0) = false := by rw [beq_eq_false_iff_ne]; omega
      by_cases z2 : c = 0
      · have z2' : ((c : Int) == 0) = true := by rw [beq_iff_eq]; omega
        have HE : Hid (decV l = none) := (hD.trans (yRun_zero (Or.inr z2)))
        clear hD z2 z1
        as_aux_lemma =>
          go_wp2_with fail
          go_ret3
          exact ⟨Or.inr ⟨HE.out, rfl⟩, rfl⟩
      have z2' : ((c : Int) == 0) = false := by rw [beq_eq_false_iff_ne]; omega
      have HG : Hid (decV l = some (c, s)) := (hD.trans (yRun_nil z1 z2))
      clear hD z1 z2
      as_aux_lemma =>
        go_wp2_with fail
        go_ret3
        exact ⟨Or.inl ⟨_, _, HG.out, rfl⟩, rfl⟩
end Go.Proofs.YtmejmohambhaaaaGreatDoor
/- nearest, rank, Same: the document's, of layer 2. Own work of the verifier. -/
namespace Go.Proofs.YtmejmohambhaaaaGreatDoor
open Go.RowKit Soft

/-- Whichever float's interval holds the number, it is b. -/
def NearB (c : Nat) (s : Int) (b : Nat) : Prop := -400 ≤ s → ∀ a, 1 ≤ a → a < 9218868437227405312 → In a c s → b = a
/-- .. it lies between these two. -/
def Rng (c : Nat) (s : Int) (lo hi : Nat) : Prop := -400 ≤ s → ∀ a, 1 ≤ a → a < 9218868437227405312 → In a c s → lo ≤ a ∧ a ≤ hi
theorem sideN_cases (b c : Nat) (s : Int) : SideN b c s = -1 ∨ SideN b c s = 0 ∨ SideN b c s = 1 := by
  unfold SideN
  split
  · exact Or.inl rfl
  · split
    · exact Or.inr (Or.inr rfl)
    · exact Or.inr (Or.inl rfl)
theorem near_zero {c b : Nat} {s : Int} (h0 : 1 ≤ b) (h1 : b < 9218868437227405312) (h : SideN b c s = 0) : NearB c s b := fun hs a a0 a1 hI => by
  rcases Nat.lt_trichotomy b a with g | g | g
  · rw [side_lesser h0 g a1 hs hI] at h; cases h
  · exact g
  · rw [side_greater a0 g h1 hs hI] at h; cases h
theorem rng_neg {c lo hi b : Nat} {s : Int} (h0 : 1 ≤ b) (h : SideN b c s = -1) (hr : Rng c s lo hi) : Rng c s lo b := fun hs a a0 a1 hI => by
  refine ⟨(hr hs a a0 a1 hI).1, ?_⟩
  rcases Nat.lt_or_ge b a with g | g
  · rw [side_lesser h0 g a1 hs hI] at h; cases h
  · exact g
theorem rng_pos {c lo hi b : Nat} {s : Int} (h1 : b < 9218868437227405312) (h : SideN b c s = 1) (hr : Rng c s lo hi) : Rng c s (b + 1) hi := fun hs a a0 a1 hI => by
  refine ⟨?_, (hr hs a a0 a1 hI).2⟩
  rcases Nat.lt_trichotomy b a with g | g | g
  · exact g
  · subst g
    rw [(side_in _ _ _ hs).2 hI] at h; cases h
  · rw [side_greater a0 g h1 hs hI] at h; cases h
theorem near_none {c lo : Nat} {s : Int} (h : SideN lo c s ≠ 0) (hr : Rng c s lo lo) : NearB c s 0 := fun hs a a0 a1 hI => by
  have := hr hs a a0 a1 hI
  obtain rfl : a = lo := by omega
  exact absurd ((side_in _ _ _ hs).2 hI) h
set_option maxHeartbeats 1000000 in
set_option maxRecDepth 100000 in
theorem nearest_any (c : Nat) (s : Int) (hc : c < 18446744073709551616) (hs0 : -1100 ≤ s) (hs1 : s ≤ 1100) (w : World) :
    Calls Tryz.prog 24 #[.int .u64 (c : Int), .int .i64 s] w fun e w' => ∃ b : Nat, e = .returned (.int .u64 (b : Int)) ∧ b < 9218868437227405312 ∧ NearB c s b ∧ Below w.heap.size w w' := by
  have HS : Hid (∀ b : Nat, 1 ≤ b → b < 9218868437227405312 → ∀ W, Calls Tryz.prog 37 #[.int .u64 (b : Int), .int .u64 (c : Int), .int .i64 s] W fun e w' => e = .returned (.int .i64 (SideN b c s)) ∧ Below W.heap.size W w') := fun b h0 h1 W => side_any b c s h0 h1 hc hs0 hs1 W
  have HSt : Hid (Rng c s 1 9218868437227405311) := fun _ a a0 a1 _ => ⟨a0, by omega⟩
  go_enter Tryz.func24, Tryz.ntmps24
  go_wp2_with fail
  go_loopw [5, 6] (fun a b W => ∃ lo hi : Nat, a = .int .u64 (lo : Int) ∧ b = .int .u64 (hi : Int) ∧ 1 ≤ lo ∧ lo ≤ hi ∧ hi ≤ 9218868437227405311 ∧ Hid (Rng c s lo hi) ∧ Below w.heap.size w W) (fun a b _ => (intOf b).toNat - (intOf a).toNat)
  case atStart => exact ⟨1, 9218868437227405311, rfl, rfl, by decide, by decide, by decide, HSt, Below.refl _ _⟩
  case round =>
    obtain ⟨lo, hi, rfl, rfl, l0, lh, h0, HR, hb⟩ := hrel
    clear HSt
    by_cases hlt : lo < hi
    · have hlt' : (lo : Int) < (hi : Int) := by omega
      obtain ⟨k, hk⟩ : ∃ k, k = (hi - lo) / 2 := ⟨_, rfl⟩
      obtain ⟨mid, hm⟩ : ∃ m, m = lo + k := ⟨_, rfl⟩
      have hk' : ((hi : Int) - (lo : Int)) / 2 = (k : Int) := by omega
      have hm' : (lo : Int) + (k : Int) = (mid : Int) := by omega
      have hmh : mid < hi := by omega
      have hml : lo ≤ mid := by omega
      have HS1 : Hid _ := HS.out mid (by omega) (by omega)
      have h3 := sideN_cases mid c s
      have HZ : Hid _ := fun h => near_zero (c := c) (s := s) (b := mid) (by omega) (by omega) h
      have HN : Hid _ := fun h => rng_neg (c := c) (s := s) (b := mid) (by omega) h HR.out
      have HP : Hid _ := fun h => rng_pos (c := c) (s := s) (b := mid) (by omega) h HR.out
      generalize SideN mid c s = z at *
      clear HS HR hk hm
      as_aux_lemma =>
        go_wp2_with fail
        refine (HS1.out _).mono ?_
        rintro e w1 ⟨rfl, hb1⟩
        have hbw := hb.trans (hb1.mono hb.size)
        clear HS1 hb hb1
        rcases h3 with rfl | rfl | rfl
        · have HR' : Hid _ := HN.out rfl
          clear HN HP HZ
          as_aux_lemma =>
            go_wp2_with fail
            exact ⟨⟨lo, mid, rfl, rfl, l0, hml, by omega, HR', hbw⟩, by simp [intOf]; omega⟩
        · have HR' : Hid _ := HZ.out rfl
          clear HN HP HZ
          as_aux_lemma =>
            go_wp2_with fail
            go_ret
            exact ⟨mid, rfl, by omega, HR'.out, hbw⟩
        · have HR' : Hid _ := HP.out rfl
          clear HN HP HZ
          as_aux_lemma =>
            go_wp2_with fail
            exact ⟨⟨mid + 1, hi, by go_num, rfl, by omega, by omega, by omega, HR', hbw⟩, by simp [intOf]; omega⟩
    · obtain rfl : lo = hi := by omega
      have hlt' : ¬ (lo : Int) < (lo : Int) := by omega
      have HS1 : Hid _ := HS.out lo (by omega) (by omega)
      have HZ : Hid _ := fun h => near_zero (c := c) (s := s) (b := lo) (by omega) (by omega) h
      have HN : Hid _ := fun h => near_none (c := c) (s := s) (lo := lo) h HR.out
      generalize SideN lo c s = z at *
      clear HS HR
      by_cases hz : z = 0
      · have hz' : (z == 0) = true := by rw [beq_iff_eq]; exact hz
        have HR' : Hid _ := HZ.out hz
        clear HN HZ hz
        as_aux_lemma =>
          go_wp2_with fail
          refine (HS1.out _).mono ?_
          rintro e w1 ⟨rfl, hb1⟩
          go_wp2_with fail
          go_ret
          exact ⟨lo, rfl, by omega, HR'.out, hb.trans (hb1.mono hb.size)⟩
      · have hz' : (z == 0) = false := by rw [beq_eq_false_iff_ne]; exact hz
        have HR' : Hid _ := HN.out hz
        clear HN HZ hz
        as_aux_lemma =>
          go_wp2_with fail
          refine (HS1.out _).mono ?_
          rintro e w1 ⟨rfl, hb1⟩
          go_wp2_with fail
          go_ret
          exact ⟨0, rfl, by decide, HR'.out, hb.trans (hb1.mono hb.size)⟩
end Go.Proofs.YtmejmohambhaaaaGreatDoor
