/- THE DOCUMENT'S TEXT OF A SNAPSHOT: the lines of a histogram. Own work of the verifier. -/
import Derived.Test.YtlgfgeacphkhnaaGreatDoorWBM
namespace Go.Proofs.YtlgfgeacphkhnaaGreatDoor
open Go.RowKit Me

set_option maxRecDepth 100000 in
set_option maxHeartbeats 2000000 in
theorem dval_hist (hPr : RPr) (u : World) (P : Nat) (bv : Value) (T : List UInt8) (x : Vl) (lv cv : Value) (w : World) (h : Gr u w bv T w) (hl : SLb u lv x.d.labels) (hc : SN u cv x.cs) (hs : Sho x.d []) (hn : x.d.labels.length ≤ 16) (hx : VW x) (hM : MayIs (P : Int) x.cs 0) (hk : x.d.kind = 2) :
  Calls Tryz.prog 13 #[bv, .int .i64 (P : Int), vx x lv cv] w fun e w' => ∃ bv', e = .returned bv' ∧ Gr u w bv' (dvT T (hgL P x)) w' := by
 obtain ⟨hp, hs2, h3⟩ := may_ok hM
 have HM := hid_of hM
 have H3 := hid_of h3
 have HSum : Hid (∀ i, ((x.cs.take i).map (·.2)).sum ≤ 9223372036854775807) := fun i => Nat.le_trans (sum_take_le x.cs i) (by exact hs2)
 obtain ⟨ao, cap, rfl⟩ := hl.form
 have HC := hid_of hc
 obtain ⟨co, ccap, rfl⟩ := SN.form hc
 obtain ⟨bo, bcap, hbv⟩ := h.form
 obtain ⟨W0, hW0⟩ : ∃ W0, W0 = w.alloc (.cells (vc x (.slice ao x.d.labels.length cap) (.slice co x.cs.length ccap)) 36) := ⟨_, rfl⟩
 have hN0 : W0.heap[w.heap.size]? = some (.cells (vc x (.slice ao x.d.labels.length cap) (.slice co x.cs.length ccap)) 36) := by rw [hW0]; exact new_1 w _
 have hP0 : Gr u w bv T W0 := by rw [hW0]; exact h.alloc _
 have HI0 : Hid (Gv u w w.heap.size x (.slice ao x.d.labels.length cap) (.slice co x.cs.length ccap) bv T W0) := ⟨hP0, hN0⟩
 have HPs : Hid (∀ W, Calls Tryz.prog 25 #[.float .f64 x.sum] W fun e w' => e = .returned (.string ⟨(Rl.pText x.sum).toArray⟩) ∧ Below W.heap.size W w') := hPr x.sum hx.sum
 have HDn : Hid (∀ W, Calls Tryz.prog 10 #[.int .u64 (x.n : Int)] W fun e w' => e = .returned (.string ⟨(Lib.decDigits x.n).toArray⟩) ∧ Below W.heap.size W w') := dwhole_any x.n hx.n
 have HSu : Hid (∀ b X W, Gv u w w.heap.size x (.slice ao x.d.labels.length cap) (.slice co x.cs.length ccap) b X W → Calls Tryz.prog 24 #[b, dsV x.d (.slice ao x.d.labels.length cap), .string ⟨#[95, 115, 117, 109]⟩, .agg #[.string ⟨#[]⟩, .string ⟨#[]⟩], .string ⟨(Lib.itoa x.t).toArray⟩] W fun e w' => ∃ b', e = .returned b' ∧ Gv u w w.heap.size x (.slice ao x.d.labels.length cap) (.slice co x.cs.length ccap) b' (dvT X [seT x.d suE [] (Lib.itoa x.t)]) w') := fun b X W k => by
  refine Calls.mono (dl0_any u b X x.d _ suE (Lib.itoa x.t) W k.gr.re hl hs (by decide) (by have := itoa_len hx.t; omega)) ?_
  rintro e w' ⟨b', rfl, q⟩
  exact ⟨b', rfl, k.then q⟩
 have HCo : Hid (∀ b X W, Gv u w w.heap.size x (.slice ao x.d.labels.length cap) (.slice co x.cs.length ccap) b X W → Calls Tryz.prog 24 #[b, dsV x.d (.slice ao x.d.labels.length cap), .string ⟨#[95, 99, 111, 117, 110, 116]⟩, .agg #[.string ⟨#[]⟩, .string ⟨#[]⟩], .string ⟨(Lib.decDigits x.n).toArray⟩] W fun e w' => ∃ b', e = .returned b' ∧ Gv u w w.heap.size x (.slice ao x.d.labels.length cap) (.slice co x.cs.length ccap) b' (dvT X [seT x.d coE [] (Lib.decDigits x.n)]) w') := fun b X W k => by
  refine Calls.mono (dl0_any u b X x.d _ coE (Lib.decDigits x.n) W k.gr.re hl hs (by decide) (by have := digits_len x.n hx.n; omega)) ?_
  rintro e w' ⟨b', rfl, q⟩
  exact ⟨b', rfl, k.then q⟩
 have HKq : Hid (∀ b X W, Gv u w w.heap.size x (.slice ao x.d.labels.length cap) (.slice co x.cs.length ccap) b X W → cB w.heap.size x (.slice ao x.d.labels.length cap) (.slice co x.cs.length ccap) W) := fun b X W k => cB_of k.bx
 have HKk : Hid (∀ b X W, Gv u w w.heap.size x (.slice ao x.d.labels.length cap) (.slice co x.cs.length ccap) b X W → W.cell? ⟨w.heap.size, 0, none⟩ = some (.int .i64 2)) := fun b X W k => by rw [← hk]; exact (cB_of k.bx).1
 have HFm : Hid (∀ b X W, Gv u w w.heap.size x (.slice ao x.d.labels.length cap) (.slice co x.cs.length ccap) b X W → ∃ a c, b = .slice a X.length c) := fun b X W k => k.gr.form
 have HPt : Hid (∀ W, Calls Tryz.prog 21 #[.agg #[.int .i64 (hiOf x.t), .int .u64 (loOf x.t)]] W fun e w' => e = .returned (.string ⟨(Lib.itoa x.t).toArray⟩) ∧ Below W.heap.size W w') := fun W => by have q := Wi.refprint_any _ _ (wf_of hx.t) W; rw [val_hl] at q; exact q
 have HWh : Hid (∀ n : Nat, n < 18446744073709551616 → ∀ W, Calls Tryz.prog 10 #[.int .u64 (n : Int)] W fun e w' => e = .returned (.string ⟨(Lib.decDigits n).toArray⟩) ∧ Below W.heap.size W w') := dwhole_any
 have HBk : Hid (∀ b X (le nu : List UInt8) W, le.length ≤ 100 → nu.length ≤ 1000 → Gv u w w.heap.size x (.slice ao x.d.labels.length cap) (.slice co x.cs.length ccap) b X W → Calls Tryz.prog 24 #[b, dsV x.d (.slice ao x.d.labels.length cap), .string ⟨#[95, 98, 117, 99, 107, 101, 116]⟩, .agg #[.string ⟨#[108, 101]⟩, .string ⟨le.toArray⟩], .string ⟨nu.toArray⟩] W fun e w' => ∃ b', e = .returned b' ∧ Gv u w w.heap.size x (.slice ao x.d.labels.length cap) (.slice co x.cs.length ccap) b' (dvT X [seT x.d buE [(leN, le)] nu]) w') := fun b X le nu W k1 k2 k => by
  refine Calls.mono (dl1_any u b X x.d _ buE nu le W k.gr.re hl (sho_le hs le k1 hn) (by decide) k2) ?_
  rintro e w' ⟨b', rfl, q⟩
  exact ⟨b', rfl, k.then q⟩
 have hdl := digits_len x.n hx.n
 have HWc := hid_of hx.cs
 have hcl := hx.cl
 have HW0 := hid_of hW0
 have HSt : Hid (∀ b X W, Gv u w w.heap.size x (.slice ao x.d.labels.length cap) (.slice co x.cs.length ccap) b X W → Below u.heap.size u W) := fun b X W k => k.gr.st
 subst hbv
 clear h hl hc hs hx hW0 hN0 hP0 hk hPr hn hM hs2 h3
 unfold hgL
 rw [dvT_app]
 obtain ⟨R, hR⟩ : ∃ R, R = dvT T (bkL x.d P 0 x.cs) := ⟨_, rfl⟩
 rw [← hR]
 rw [show dvT R [seT x.d buE [(leN, inN)] (Lib.decDigits x.n), seT x.d suE [] (Lib.itoa x.t), seT x.d coE [] (Lib.decDigits x.n)] = dvT (dvT (dvT R [seT x.d buE [(leN, inN)] (Lib.decDigits x.n)]) [seT x.d suE [] (Lib.itoa x.t)]) [seT x.d coE [] (Lib.decDigits x.n)] from rfl]
 generalize hT5 : dvT R [seT x.d buE [(leN, inN)] (Lib.decDigits x.n)] = T5
 have HIn : Hid (∀ b W, Gv u w w.heap.size x (.slice ao x.d.labels.length cap) (.slice co x.cs.length ccap) b R W → Calls Tryz.prog 24 #[b, dsV x.d (.slice ao x.d.labels.length cap), .string ⟨#[95, 98, 117, 99, 107, 101, 116]⟩, .agg #[.string ⟨#[108, 101]⟩, .string ⟨#[43, 73, 110, 102]⟩], .string ⟨(Lib.decDigits x.n).toArray⟩] W fun e w' => ∃ b', e = .returned b' ∧ Gv u w w.heap.size x (.slice ao x.d.labels.length cap) (.slice co x.cs.length ccap) b' T5 w') := fun b W k => by
  rw [← hT5]
  exact HBk.out b R inN (Lib.decDigits x.n) W (by decide) (by omega) k
 have HR0 : Hid (R = dvT T (bkL x.d P ((x.cs.take 0).map (·.2)).sum (x.cs.drop 0))) := hR
 clear hT5 hR hdl
 generalize Lib.itoa x.t = D3 at *
 go_enter Tryz.func13, Tryz.ntmps13
 go_upto_region 1 with fail
 rw [← HW0.out]
 clear HW0
 have hk0 := HKk.out _ _ _ HI0.out
 go_upto_region 3 with fail
 obtain ⟨-, -, -, -, -, -, -, -, d8, -, -⟩ := HKq.out _ _ _ HI0.out
 clear hk0
 go_wp2_with fail
 refine (HPs.out _).mono ?_
 rintro e w3 ⟨rfl, hb3⟩
 have HI3 := hid_of (HI0.out.below hb3)
 clear HI0 hb3 d8 HPs
 have hk3 := HKk.out _ _ _ HI3.out
 go_upto_region 5 with fail
 obtain ⟨-, -, -, -, d4, d5, -, -, -, -, -⟩ := HKq.out _ _ _ HI3.out
 clear hk3
 go_wp2_with fail
 refine (HPt.out _).mono ?_
 rintro e w5 ⟨rfl, hb5⟩
 have HI5 := hid_of (HI3.out.below hb5)
 clear HI3 hb5 d4 d5 HPt HKk
 go_wp2_with fail
 go_loopw [0, 8, 9] (fun v s a W => ∃ (i : Nat) (X : List UInt8), i ≤ x.cs.length ∧ a = .int .i64 (i : Int) ∧ s = .int .u64 (((x.cs.take i).map (·.2)).sum : Nat) ∧ (∃ va vc, v = .slice va X.length vc) ∧ Hid (R = dvT X (bkL x.d P ((x.cs.take i).map (·.2)).sum (x.cs.drop i))) ∧ Hid (Gv u w w.heap.size x (.slice ao x.d.labels.length cap) (.slice co x.cs.length ccap) v X W)) (fun _ _ a _ => x.cs.length - (intOf a).toNat)
 case atStart => exact ⟨0, T, by omega, rfl, rfl, ⟨_, _, rfl⟩, HR0, HI5⟩
 case round =>
  clear HI5 HR0
  obtain ⟨i, X, hi, rfl, rfl, ⟨va, vc, rfl⟩, HR, HI⟩ := hrel
  obtain ⟨-, -, -, -, -, -, d6, -, -, -, -⟩ := HKq.out _ _ _ HI.out
  by_cases hlt : i < x.cs.length
  ·have hlt' : (i : Int) < (x.cs.length : Int) := by omega
   by_cases hft : fitB X = true
   ·have hft' : (X.length : Int) ≤ 4194304 := by have := fit_ln hft; omega
    obtain ⟨ao2, b, o, cap2, hv, hao, hrow⟩ := (HC.out.below (HSt.out _ _ _ HI.out)).sc
    obtain rfl := hao (by intro e; rw [e] at hlt; simp at hlt)
    cases hv
    obtain ⟨q0, q1⟩ := hrow i hlt
    obtain ⟨g1, g2, _⟩ := H3.out i hlt
    obtain ⟨k1, k2, k3⟩ := in_may HM.out (List.getElem_mem hlt)
    have hN : x.cs[i].2 < 18446744073709551616 := (HWc.out _ (List.getElem_mem hlt)).2.2
    have hsm := HSum.out (i + 1)
    have hst := sum_take hlt
    have HS := hid_of (bkL_drop x.d P ((x.cs.take i).map (·.2)).sum x.cs i hlt)
    rw [← hst] at HS
    have hw64 : IntKind.u64.wrap ((((x.cs.take i).map (·.2)).sum : Nat) + (x.cs[i].2 : Int)) = (((x.cs.take (i + 1)).map (·.2)).sum : Nat) := by
     rw [hst, IntKind.wrap_u64]; omega
    obtain ⟨I, hI⟩ := Int.eq_ofNat_of_zero_le g1
    rw [hI] at k1 k2 k3 q0 HS
    simp only [Int.toNat_natCast] at k1 k2 k3 HS
    rw [Lib.itoa_nonneg] at HS
    have HHigh : Hid (∀ W, Calls Tryz.prog 26 #[.int .i64 (P : Int), .int .i64 (I : Int)] W fun e w' => e = two (hiV P I : Nat) 0 ∧ Below W.heap.size W w') := fun W => (rhigh_yes P I (by omega) (by omega) k1 W).mono (by rintro e w' ⟨⟨n, rfl⟩, rfl⟩; exact ⟨rfl, bel_drewNB (Below.refl _ _) n⟩)
    generalize hgs : ((x.cs.take (i + 1)).map (·.2)).sum = s2 at *
    have HGs := hid_of hgs
    clear hgs
    generalize ((x.cs.take i).map (·.2)).sum = s1 at *
    generalize hiV P I = hv at *
    generalize x.cs[i].2 = N at *
    have hcv : IntKind.u64.wrap (hv : Int) = (hv : Int) := by rw [IntKind.wrap_u64]; omega
    have hs2l : s2 < 18446744073709551616 := by omega
    have hhvl : hv < 18446744073709551616 := by omega
    have HRn : Hid (R = dvT (dvT X [seT x.d buE [(leN, Lib.decDigits hv)] (Lib.decDigits s2)]) (bkL x.d P s2 (x.cs.drop (i + 1)))) := by
     show _ = _
     rw [HR.out, HS.out]
     rfl
    have HWa : Hid (∀ W, Calls Tryz.prog 10 #[.int .u64 (hv : Int)] W fun e w' => e = .returned (.string ⟨(Lib.decDigits hv).toArray⟩) ∧ Below W.heap.size W w') := HWh.out hv hhvl
    have HWb : Hid (∀ W, Calls Tryz.prog 10 #[.int .u64 (s2 : Int)] W fun e w' => e = .returned (.string ⟨(Lib.decDigits s2).toArray⟩) ∧ Below W.heap.size W w') := HWh.out s2 hs2l
    have HLb : Hid (∀ W, Gv u w w.heap.size x (.slice ao x.d.labels.length cap) (.slice (some ⟨b, o, none⟩) x.cs.length ccap) (.slice va X.length vc) X W → Calls Tryz.prog 24 #[.slice va X.length vc, dsV x.d (.slice ao x.d.labels.length cap), .string ⟨#[95, 98, 117, 99, 107, 101, 116]⟩, .agg #[.string ⟨#[108, 101]⟩, .string ⟨(Lib.decDigits hv).toArray⟩], .string ⟨(Lib.decDigits s2).toArray⟩] W fun e w' => ∃ b', e = .returned b' ∧ Gv u w w.heap.size x (.slice ao x.d.labels.length cap) (.slice (some ⟨b, o, none⟩) x.cs.length ccap) b' (dvT X [seT x.d buE [(leN, Lib.decDigits hv)] (Lib.decDigits s2)]) w') := fun W k => by
     refine HBk.out _ _ _ _ W ?_ ?_ k
     ·have := digits_len hv hhvl; omega
     ·have := digits_len s2 hs2l; omega
    clear k1 k2 k3 g1 g2 hI hrow hao hst HR HS HBk HWh hsm hN HIn HSu HCo HDn hs2l hhvl hft HM H3 HSum HWc HC
    generalize dvT X [seT x.d buE [(leN, Lib.decDigits hv)] (Lib.decDigits s2)] = X2 at *
    generalize Lib.decDigits hv = Da at *
    generalize Lib.decDigits s2 = Db at *
    go_upto_region 11 with fail
    go_wp2_with fail
    refine (HHigh.out _).mono ?_
    rintro e w11 ⟨rfl, hb11⟩
    have HI11 := hid_of (HI.out.below hb11)
    clear HHigh HI hb11 q0 q1 d6
    go_upto_region 12 with fail
    go_region_held3 (fun W => cB w.heap.size x (.slice ao x.d.labels.length cap) (.slice (some ⟨b, o, none⟩) x.cs.length ccap) W)
     (first | (with_reducible exact HKq.out _ _ _ hPz) | (with_reducible exact HKq.out _ _ _ hP8) | (with_reducible refine HKq.out _ _ _ (hP9.below ?_); repeat (first | with_reducible exact Below.refl _ _ | with_reducible refine belD ?_ | with_reducible refine belN _ ?_)) | (with_reducible refine HKq.out _ _ _ (HI11.out.below ?_); repeat (first | with_reducible exact Below.refl _ _ | with_reducible refine belD ?_ | with_reducible refine belN _ ?_)))
     (first
      | (go_at_call 10; (with_reducible refine Calls.mono (HWa.out _) ?_); rintro e w9 ⟨rfl, hb9⟩; have hP9 := HI11.out.below (bt (by repeat (first | with_reducible exact Below.refl _ _ | with_reducible refine belD ?_ | with_reducible refine belN _ ?_)) hb9))
      | (go_at_call 10; (with_reducible refine Calls.mono (HWb.out _) ?_); rintro e w8 ⟨rfl, hb8⟩; have hP8 := hP9.below (bt (by repeat (first | with_reducible exact Below.refl _ _ | with_reducible refine belD ?_ | with_reducible refine belN _ ?_)) hb8))
      | (go_at_call 24; (with_reducible refine Calls.mono (HLb.out _ hP8) ?_); rintro e wz ⟨bz, rfl, hPz⟩))
    all_goals
     obtain ⟨az, cz, rfl⟩ := HFm.out _ _ _ hPz
     have HZ := hid_of hPz
     clear hPz
     go_wp2_with fail
     exact ⟨⟨i + 1, X2, by omega, by go_num, by rw [HGs.out], ⟨_, _, rfl⟩, by rw [HGs.out]; exact HRn, HZ⟩, by simp [intOf]; omega⟩
   ·have hft0 : fitB X = false := by simpa using hft
    have hft' : ¬ (X.length : Int) ≤ 4194304 := by unfold fitB at hft0; rw [decide_eq_false_iff_not] at hft0; exact hft0
    have HRn : R = X := by rw [HR.out]; exact dvT_no _ _ hft0
    rw [← HRn] at HI hft' ⊢
    clear hft hft0 HRn HR HBk HWh HM H3 HSum HWc HC
    generalize ((x.cs.take i).map (·.2)).sum = s1
    go_upto_region 13 with fail
    go_cut [0] from 75 (fun v W => ∃ a c, v = .slice a T5.length c ∧ Hid (Gv u w w.heap.size x (.slice ao x.d.labels.length cap) (.slice co x.cs.length ccap) v T5 W))
    case first =>
     go_region_held3 (fun W => cB w.heap.size x (.slice ao x.d.labels.length cap) (.slice co x.cs.length ccap) W)
      (first | (with_reducible exact HKq.out _ _ _ hPz) | (with_reducible exact HKq.out _ _ _ hP9) | (with_reducible refine HKq.out _ _ _ (HI.out.below ?_); repeat (first | with_reducible exact Below.refl _ _ | with_reducible refine belD ?_ | with_reducible refine belN _ ?_)))
      (first
       | (go_at_call 10; (with_reducible refine Calls.mono (HDn.out _) ?_); rintro e w9 ⟨rfl, hb9⟩; have hP9 := HI.out.below (bt (by repeat (first | with_reducible exact Below.refl _ _ | with_reducible refine belD ?_ | with_reducible refine belN _ ?_)) hb9))
       | (go_at_call 24; (with_reducible refine Calls.mono (HIn.out _ _ hP9) ?_); rintro e wz ⟨bz, rfl, hPz⟩))
     all_goals
      obtain ⟨az, cz, rfl⟩ := HFm.out _ _ _ hPz
      go_wp2_with fail
      go_meet
      exact ⟨_, _, rfl, hPz⟩
    case rest =>
     obtain ⟨a16, c16, rfl, HI16⟩ := hcut
     clear HI HIn
     go_upto_region 17 with fail
     obtain ⟨c0, c1, c2, c3, -, -, -, -, -, -, -⟩ := HKq.out _ _ _ HI16.out
     have D17 : La.HidC _ _ _ _ _ := HSu.out _ _ _ HI16.out
     go_wp2_with fail
     refine (D17.out).mono ?_
     rintro e w17 ⟨b17, rfl, h17⟩
     obtain ⟨a17, e17, rfl⟩ := HFm.out _ _ _ h17
     have HI17 := hid_of h17
     clear D17 h17 c0 c1 c2 c3
     go_upto_region 18 with fail
     go_region_held3 (fun W => cB w.heap.size x (.slice ao x.d.labels.length cap) (.slice co x.cs.length ccap) W)
      (first | (with_reducible exact HKq.out _ _ _ hPz) | (with_reducible exact HKq.out _ _ _ hP9) | (with_reducible refine HKq.out _ _ _ (HI17.out.below ?_); repeat (first | with_reducible exact Below.refl _ _ | with_reducible refine belD ?_ | with_reducible refine belN _ ?_)))
      (first
       | (go_at_call 10; (with_reducible refine Calls.mono (HDn.out _) ?_); rintro e w9 ⟨rfl, hb9⟩; have hP9 := HI17.out.below (bt (by repeat (first | with_reducible exact Below.refl _ _ | with_reducible refine belD ?_ | with_reducible refine belN _ ?_)) hb9))
       | (go_at_call 24; (with_reducible refine Calls.mono (HCo.out _ _ _ hP9) ?_); rintro e wz ⟨bz, rfl, hPz⟩))
     all_goals
      go_wp2_with fail
      go_ret
      exact ⟨_, rfl, hPz.gr⟩
  ·have hlt' : ¬ (i : Int) < (x.cs.length : Int) := by omega
   have HRn : R = X := by rw [HR.out, List.drop_eq_nil_of_le (by omega)]; rfl
   rw [← HRn] at HI ⊢
   clear HRn HR HBk HWh HM H3 HSum HWc HC
   generalize ((x.cs.take i).map (·.2)).sum = s1
   go_upto_region 13 with fail
   go_cut [0] from 75 (fun v W => ∃ a c, v = .slice a T5.length c ∧ Hid (Gv u w w.heap.size x (.slice ao x.d.labels.length cap) (.slice co x.cs.length ccap) v T5 W))
   case first =>
    go_region_held3 (fun W => cB w.heap.size x (.slice ao x.d.labels.length cap) (.slice co x.cs.length ccap) W)
     (first | (with_reducible exact HKq.out _ _ _ hPz) | (with_reducible exact HKq.out _ _ _ hP9) | (with_reducible refine HKq.out _ _ _ (HI.out.below ?_); repeat (first | with_reducible exact Below.refl _ _ | with_reducible refine belD ?_ | with_reducible refine belN _ ?_)))
     (first
      | (go_at_call 10; (with_reducible refine Calls.mono (HDn.out _) ?_); rintro e w9 ⟨rfl, hb9⟩; have hP9 := HI.out.below (bt (by repeat (first | with_reducible exact Below.refl _ _ | with_reducible refine belD ?_ | with_reducible refine belN _ ?_)) hb9))
      | (go_at_call 24; (with_reducible refine Calls.mono (HIn.out _ _ hP9) ?_); rintro e wz ⟨bz, rfl, hPz⟩))
    all_goals
     obtain ⟨az, cz, rfl⟩ := HFm.out _ _ _ hPz
     go_wp2_with fail
     go_meet
     exact ⟨_, _, rfl, hPz⟩
   case rest =>
    obtain ⟨a16, c16, rfl, HI16⟩ := hcut
    clear HI HIn
    go_upto_region 17 with fail
    obtain ⟨c0, c1, c2, c3, -, -, -, -, -, -, -⟩ := HKq.out _ _ _ HI16.out
    have D17 : La.HidC _ _ _ _ _ := HSu.out _ _ _ HI16.out
    go_wp2_with fail
    refine (D17.out).mono ?_
    rintro e w17 ⟨b17, rfl, h17⟩
    obtain ⟨a17, e17, rfl⟩ := HFm.out _ _ _ h17
    have HI17 := hid_of h17
    clear D17 h17 c0 c1 c2 c3
    go_upto_region 18 with fail
    go_region_held3 (fun W => cB w.heap.size x (.slice ao x.d.labels.length cap) (.slice co x.cs.length ccap) W)
     (first | (with_reducible exact HKq.out _ _ _ hPz) | (with_reducible exact HKq.out _ _ _ hP9) | (with_reducible refine HKq.out _ _ _ (HI17.out.below ?_); repeat (first | with_reducible exact Below.refl _ _ | with_reducible refine belD ?_ | with_reducible refine belN _ ?_)))
     (first
      | (go_at_call 10; (with_reducible refine Calls.mono (HDn.out _) ?_); rintro e w9 ⟨rfl, hb9⟩; have hP9 := HI17.out.below (bt (by repeat (first | with_reducible exact Below.refl _ _ | with_reducible refine belD ?_ | with_reducible refine belN _ ?_)) hb9))
      | (go_at_call 24; (with_reducible refine Calls.mono (HCo.out _ _ _ hP9) ?_); rintro e wz ⟨bz, rfl, hPz⟩))
    all_goals
     go_wp2_with fail
     go_ret
     exact ⟨_, rfl, hPz.gr⟩
end Go.Proofs.YtlgfgeacphkhnaaGreatDoor
