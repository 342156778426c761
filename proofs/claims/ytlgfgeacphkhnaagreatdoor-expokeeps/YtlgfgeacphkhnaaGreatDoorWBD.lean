/- WHICH SNAPSHOTS MAY BE, the document's: Check. Own work of the verifier. -/
import Derived.Test.YtlgfgeacphkhnaaGreatDoorWBC
import Derived.Test.YtlgfgeacphkhnaaGreatDoorWBB
namespace Go.Proofs.YtlgfgeacphkhnaaGreatDoor
open Go.RowKit Me

structure D4 (b : Nat) (d : La.Ds) (lv : Value) (W : World) : Prop where
 c0 : W.cell? ⟨b, 0, none⟩ = some (.int .i64 d.kind)
 c1 : W.cell? ⟨b, 1, none⟩ = some (.string ⟨d.name.toArray⟩)
 c2 : W.cell? ⟨b, 2, none⟩ = some (.string ⟨d.help.toArray⟩)
 c3 : W.cell? ⟨b, 3, none⟩ = some lv
theorem D4.below {b : Nat} {d : La.Ds} {lv : Value} {W W1 : World} (h : D4 b d lv W) (hb : Below W.heap.size W W1) : D4 b d lv W1 := ⟨cellB hb h.c0, cellB hb h.c1, cellB hb h.c2, cellB hb h.c3⟩
theorem D4.new (w : World) (d : La.Ds) (lv : Value) (t : TypeId) : D4 w.heap.size d lv (w.alloc (.cells #[.int .i64 d.kind, .string ⟨d.name.toArray⟩, .string ⟨d.help.toArray⟩, lv] t)) := by
 constructor <;> simp [go_sem]
theorem chk1_one {p : Int} {q : Option Vl} {x : Vl} (h : La.chkD x.d ≠ 0) : chk1 p q x = La.chkD x.d := by
 unfold chk1
 rw [if_pos h]
theorem chk1_two {p : Int} {q : Option Vl} {x : Vl} (h : La.chkD x.d = 0) (k : holdB p x = false) : chk1 p q x = 2 := by
 unfold chk1
 rw [if_neg (by simpa using h), if_pos k]
theorem chk1_none {p : Int} {x : Vl} (h : La.chkD x.d = 0) (k : holdB p x = true) : chk1 p none x = 0 := by
 unfold chk1
 rw [if_neg (by simpa using h), if_neg (by rw [k]; decide)]
theorem chk1_some {p : Int} {x y : Vl} (h : La.chkD x.d = 0) (k : holdB p x = true) : chk1 p (some y) x = plV y x := by
 unfold chk1
 rw [if_neg (by simpa using h), if_neg (by rw [k]; decide)]
theorem step_bad {s : Sn} {i : Nat} (h : i < s.vs.length) {R : Int × Nat} {z : Int} (hR : R = chkV s.p (prvV s.vs i) (s.vs.drop i) i) (hz : chk1 s.p (prvV s.vs i) s.vs[i] = z) (h0 : z ≠ 0) : R = (z, i) := by
 rw [hR, chkV_drop s.p s.vs i h, hz, if_pos h0]
theorem step_good {s : Sn} {i : Nat} (h : i < s.vs.length) {R : Int × Nat} (hR : R = chkV s.p (prvV s.vs i) (s.vs.drop i) i) (hz : chk1 s.p (prvV s.vs i) s.vs[i] = 0) : R = chkV s.p (prvV s.vs (i + 1)) (s.vs.drop (i + 1)) (i + 1) := by
 rw [hR, chkV_drop s.p s.vs i h, if_neg (by simpa using hz)]
theorem unl_beq (x y : Vl) : unlB x y = (x.d.name == y.d.name && ((x.d.kind != y.d.kind) || !(x.d.help == y.d.help))) := by
 unfold unlB
 congr 1
 ·by_cases h : x.d.name = y.d.name
  ·rw [decide_eq_true h, h]; simp
  ·rw [decide_eq_false h]; simp [h]
 ·congr 1
  ·by_cases h : x.d.kind = y.d.kind
   ·rw [h]; simp
   ·simp [h]
  ·by_cases h : x.d.help = y.d.help
   ·rw [h]; simp
   ·simp [h]
abbrev S9f (w : World) (ao : Option Addr) (b o cap : Nat) (s : Sn) (c : Nat) (y : Vl) (lw cw : Value) (wr W : World) : Prop := W.cell? ⟨w.heap.size, 0, none⟩ = some (.int .i64 s.p) ∧ W.cell? ⟨w.heap.size, 1, none⟩ = some (.slice ao s.vs.length cap) ∧ cC b c y lw cw W ∧ KS w ao b o cap s W ∧ KR b c y lw cw W ∧ D4 wr.heap.size y.d lw W ∧ Below wr.heap.size wr W
theorem keepF {w W W1 : World} {ao : Option Addr} {b o cap : Nat} {s : Sn} {c : Nat} {y : Vl} {lw cw : Value} {wr : World} (hb : Below W.heap.size W W1) (h : S9f w ao b o cap s c y lw cw wr W) : S9f w ao b o cap s c y lw cw wr W1 := by
 have h1 := h.2.2.2.1.below hb
 have h2 := h.2.2.2.2.1.below hb
 exact ⟨h1.c0, h1.c1, h2.c.cC, h1, h2, h.2.2.2.2.2.1.below hb, bt h.2.2.2.2.2.2 hb⟩
set_option maxRecDepth 100000 in
set_option maxHeartbeats 8000000 in
theorem rcheck_any (s : Sn) (v : Value) (h : SnW s) (w : World) (hv : SnAt w s v) :
  Calls Tryz.prog 9 #[v] w fun e w' => e = two (chkS s).1 ((chkS s).2 : Nat) ∧ Below w.heap.size w w' := by
 obtain ⟨u, rfl, hu⟩ := hv
 obtain ⟨ao, b, o, cap, rfl, hao, hcap, hcap2, hr⟩ := hu.open
 have HK : Hid (∀ T, KS w ao b o cap s (w.alloc (.cells #[.int .i64 s.p, .slice ao s.vs.length cap, .int .u64 (s.r : Int)] T))) := fun T => ⟨by simp [go_sem], by simp [go_sem], hr.below (bel1 _ _), bel1 _ _⟩
 have HW := hid_of h.vs
 clear hu hr h
 unfold chkS
 by_cases h1 : s.p < 1
 ·rw [if_pos (Or.inl h1)]
  clear HK HW
  as_aux_lemma =>
   go_enter Tryz.func9, Tryz.ntmps9
   go_wp2_with fail
   go_ret2
   exact ⟨rfl, bel1 w _⟩
 by_cases h2 : 14 < s.p
 ·rw [if_pos (Or.inr h2)]
  clear HK HW
  as_aux_lemma =>
   go_enter Tryz.func9, Tryz.ntmps9
   go_wp2_with fail
   go_ret2
   exact ⟨rfl, bel1 w _⟩
 rw [if_neg (by omega)]
 by_cases h3 : 256 < s.vs.length
 ·rw [if_pos h3]
  have h3' : (256 : Int) < (s.vs.length : Int) := by omega
  clear HK HW
  as_aux_lemma =>
   go_enter Tryz.func9, Tryz.ntmps9
   go_wp2_with fail
   go_ret2
   exact ⟨rfl, bel1 w _⟩
 rw [if_neg h3]
 have h3' : ¬ (256 : Int) < (s.vs.length : Int) := by omega
 obtain ⟨R, hR⟩ : ∃ R, R = chkV s.p none s.vs 0 := ⟨_, rfl⟩
 rw [← hR]
 have HR0 : Hid (R = chkV s.p (prvV s.vs 0) (s.vs.drop 0) 0) := hR
 clear hR
 go_enter Tryz.func9, Tryz.ntmps9
 go_upto_region 6 with fail
 go_loopw [4] (fun x W => ∃ i : Nat, i ≤ s.vs.length ∧ x = .int .i64 (i : Int) ∧ Hid (R = chkV s.p (prvV s.vs i) (s.vs.drop i) i) ∧ Hid (KS w ao b o cap s W)) (fun x _ => s.vs.length - (intOf x).toNat)
 case atStart => exact ⟨0, by omega, rfl, HR0, HK.out _⟩
 case round =>
  clear HK HR0
  obtain ⟨i, hi, rfl, HR, HK⟩ := hrel
  have k0 := HK.out.c0
  have k1 := HK.out.c1
  by_cases hlt : i < s.vs.length
  ·have hlt' : (i : Int) < (s.vs.length : Int) := by omega
   obtain rfl := hao (by intro e; rw [e] at hlt; simp at hlt)
   obtain ⟨lw, cw, g1, g2, g3⟩ := HK.out.r i hlt
   obtain ⟨la, lc, rfl⟩ := g2.form
   have hvw := HW.out _ (List.getElem_mem hlt)
   have hix := index_val b o s.vs.length cap i (i : Int) rfl hlt
   have HRow := hid_of HK.out.r
   have HKr := hid_of (⟨g1, g2, g3⟩ : KR b (o + i * 11) s.vs[i] (.slice la s.vs[i].d.labels.length lc) cw wr)
   have HC : Hid (∀ W, Below wr.heap.size wr W → Calls Tryz.prog 18 #[.agg #[.int .i64 s.vs[i].d.kind, .string ⟨s.vs[i].d.name.toArray⟩, .string ⟨s.vs[i].d.help.toArray⟩, .slice la s.vs[i].d.labels.length lc]] W fun e w' => e = .returned (.int .i64 (La.chkD s.vs[i].d)) ∧ Below W.heap.size W w') := fun W hb => La.dcheck_any s.vs[i].d _ W (g2.below hb).dsc.at hvw.d
   have HH : Hid (∀ W, S9f w (some ⟨b, o, none⟩) b o cap s (o + i * 11) s.vs[i] (.slice la s.vs[i].d.labels.length lc) cw wr W → Calls Tryz.prog 19 #[.int .i64 s.p, vx s.vs[i] (.slice la s.vs[i].d.labels.length lc) cw] W fun e w' => e = .returned (.bool (holdB s.p s.vs[i])) ∧ Below W.heap.size W w') := fun W k => rholds_any s.p s.vs[i] _ hvw W k.2.2.2.2.1.at
   have HP : Hid (∀ (m : Nat) (hm : m < s.vs.length) (lm : Option Addr) (mc : Nat) (W : World), SLb W (.slice lm s.vs[m].d.labels.length mc) s.vs[m].d.labels → Below wr.heap.size wr W → Calls Tryz.prog 20 #[.agg #[.int .i64 s.vs[m].d.kind, .string ⟨s.vs[m].d.name.toArray⟩, .string ⟨s.vs[m].d.help.toArray⟩, .slice lm s.vs[m].d.labels.length mc], .agg #[.int .i64 s.vs[i].d.kind, .string ⟨s.vs[i].d.name.toArray⟩, .string ⟨s.vs[i].d.help.toArray⟩, .slice la s.vs[i].d.labels.length lc]] W fun e w' => e = .returned (.int .i64 (La.ordD s.vs[m].d s.vs[i].d)) ∧ Below W.heap.size W w') := fun m hm lm mc W k hb => La.dcompare_any s.vs[m].d s.vs[i].d _ _ W k.dsc.at (g2.below hb).dsc.at
   have HN : Hid (∀ T, D4 wr.heap.size s.vs[i].d (.slice la s.vs[i].d.labels.length lc) (wr.alloc (.cells #[.int .i64 s.vs[i].d.kind, .string ⟨s.vs[i].d.name.toArray⟩, .string ⟨s.vs[i].d.help.toArray⟩, .slice la s.vs[i].d.labels.length lc] T))) := fun T => D4.new wr _ _ T
   obtain ⟨r0, r1, r2, r3, -⟩ := g1.cC
   clear g1 g2 g3 hvw hao
   go_upto_region 9 with fail
   have HD9 := hid_of (HN.out 30)
   have HB9 := hid_of (bel1 wr (.cells #[.int .i64 s.vs[i].d.kind, .string ⟨s.vs[i].d.name.toArray⟩, .string ⟨s.vs[i].d.help.toArray⟩, .slice la s.vs[i].d.labels.length lc] 30))
   clear HN
   obtain ⟨z, hz⟩ : ∃ z, La.chkD s.vs[i].d = z := ⟨_, rfl⟩
   obtain ⟨q, hq⟩ : ∃ q, holdB s.p s.vs[i] = q := ⟨_, rfl⟩
   rw [hz] at HC
   rw [hq] at HH
   have HZ := hid_of hz
   have HQ := hid_of hq
   clear hz hq
   go_upto_region 10 with (go_at_call 18; (with_reducible refine (HC.out _ HB9.out).mono ?_); rintro e w10 ⟨rfl, hb10⟩)
   have HB10 := hid_of (bt HB9.out hb10)
   have HD10 := hid_of (HD9.out.below hb10)
   have HK10 := hid_of (HK.out.below HB10.out)
   have HKr10 := hid_of (HKr.out.below HB10.out)
   have HSL := hid_of (HKr.out.l)
   clear HD9 HB9 hb10 HC r0 r1 r2 r3 k0 k1 HKr
   by_cases hz0 : z = 0
   ·have hz' : (z != 0) = false := by simpa using hz0
    have HZ0 : Hid (La.chkD s.vs[i].d = 0) := by unfold Hid; rw [HZ.out]; exact hz0
    have hS0 := (⟨HK10.out.c0, HK10.out.c1, HKr10.out.c.cC, HK10.out, HKr10.out, HD10.out, HB10.out⟩ : S9f w (some ⟨b, o, none⟩) b o cap s (o + i * 11) s.vs[i] (.slice la s.vs[i].d.labels.length lc) cw wr w10)
    clear hz0 HZ HK10 HKr10 HD10 HB10 HRow
    go_upto_region 12 with fail
    go_cut [7] from 41 to 48 (fun x W => x = .bool q ∧ Hid (S9f w (some ⟨b, o, none⟩) b o cap s (o + i * 11) s.vs[i] (.slice la s.vs[i].d.labels.length lc) cw wr W))
    case first =>
     clear HR HP HZ0 HQ HSL HK
     as_aux_lemma =>
      go_region_held3 (fun W => S9f w (some ⟨b, o, none⟩) b o cap s (o + i * 11) s.vs[i] (.slice la s.vs[i].d.labels.length lc) cw wr W)
       (first | assumption | exact keepF (by assumption) (by assumption) | exact keepF (drew_bel _) hS0)
       (first
        | (go_at_call 19; with_reducible refine (HH.out _ (by first | assumption | exact keepF (by assumption) (by assumption) | exact keepF (drew_bel _) hS0)).mono ?_; rintro e w3 ⟨rfl, hb3⟩))
      rename_i hS3
      go_wp2_with fail
      go_meet
      exact ⟨rfl, hS3⟩
    case rest =>
    rename_i wc
    obtain ⟨rfl, HSc⟩ := hcut
    clear hS0 HH
    cases q
    ·have HS := hid_of (step_bad hlt HR.out (chk1_two HZ0.out HQ.out) (by decide))
     clear HR HP HZ0 HQ HSL HK
     as_aux_lemma =>
      go_wp2_with fail
      go_ret2
      exact ⟨by rw [HS.out]; rfl, HSc.out.2.2.2.1.bl⟩
    ·rcases Nat.eq_zero_or_pos i with h0 | h0
     ·subst h0
      have HS := hid_of (step_good hlt HR.out (chk1_none HZ0.out HQ.out))
      clear HR HP HZ0 HQ HSL HK
      as_aux_lemma =>
       go_wp2_with fail
       exact ⟨⟨1, by omega, by first | rfl | go_num, HS, HSc.out.2.2.2.1⟩, by simp [intOf]; omega⟩
     ·obtain ⟨m, hm1⟩ : ∃ m, m + 1 = i := ⟨i - 1, by omega⟩
      have hm : m < s.vs.length := by omega
      have hi0 : ((i : Int) == 0) = false := by rw [beq_eq_false_iff_ne]; omega
      have hwm : IntKind.i64.wrap ((i : Int) - 1) = (m : Int) := by rw [IntKind.wrap_i64]; omega
      have hixm := index_val b o s.vs.length cap m (m : Int) rfl hm
      have HPr : Hid (prvV s.vs i = some s.vs[m]) := by unfold Hid; rw [← hm1]; exact prvV_succ s.vs m hm
      have HC1 : Hid (∀ z2, plV s.vs[m] s.vs[i] = z2 → chk1 s.p (prvV s.vs i) s.vs[i] = z2) := fun z2 h => by rw [HPr.out, chk1_some HZ0.out HQ.out, h]
      have HPm := hid_of (HP.out m hm)
      obtain ⟨lm, cm, g1, g2, g3⟩ := HSc.out.2.2.2.1.r m hm
      obtain ⟨ma, mc, rfl⟩ := g2.form
      have HLm := hid_of g2
      obtain ⟨r0, r1, r2, r3, -⟩ := g1.cC
      have k1 := HSc.out.2.2.2.1.c1
      obtain ⟨e0, e1, e2, e3⟩ := HSc.out.2.2.2.2.2.1
      have HN := hid_of (D4.new wc s.vs[m].d (.slice ma s.vs[m].d.labels.length mc) 30)
      have HBn := hid_of (bel1 wc (.cells #[.int .i64 s.vs[m].d.kind, .string ⟨s.vs[m].d.name.toArray⟩, .string ⟨s.vs[m].d.help.toArray⟩, .slice ma s.vs[m].d.labels.length mc] 30))
      have HRi := HR
      clear hm1 h0 g1 g2 g3 HZ0 HQ HP HPr HSL HK HR
      go_upto_region 17 with fail
      have HDi := hid_of (HSc.out.2.2.2.2.2.1.below HBn.out)
      have HKn := hid_of (HSc.out.2.2.2.1.below HBn.out)
      have HWn := hid_of (bt HSc.out.2.2.2.2.2.2 HBn.out)
      have HLn := hid_of (HLm.out.below HBn.out)
      clear HSc HLm HBn r0 r1 r2 r3 k1 e0 e1 e2 e3 hixm hwm
      generalize wc.alloc (.cells #[.int .i64 s.vs[m].d.kind, .string ⟨s.vs[m].d.name.toArray⟩, .string ⟨s.vs[m].d.help.toArray⟩, .slice ma s.vs[m].d.labels.length mc] 30) = w17 at *
      obtain ⟨f0, f1, f2, f3⟩ := HN.out
      obtain ⟨e0, e1, e2, e3⟩ := HDi.out
      obtain ⟨z2, hz2⟩ : ∃ z2, La.ordD s.vs[m].d s.vs[i].d = z2 := ⟨_, rfl⟩
      have HO := hid_of hz2
      rw [hz2] at HPm
      clear hz2
      go_upto_region 18 with (go_at_call 20; (with_reducible refine (HPm.out ma mc _ HLn.out HWn.out).mono ?_); rintro e w18 ⟨rfl, hb18⟩)
      have HK18 := hid_of (HKn.out.below hb18)
      obtain ⟨f0, f1, f2, f3⟩ := HN.out.below hb18
      obtain ⟨e0, e1, e2, e3⟩ := HDi.out.below hb18
      clear HN HDi HKn HWn HLn HPm hb18
      by_cases o0 : z2 = 0
      ·have o0' : (z2 == 0) = true := by simpa using o0
       have HS := hid_of (step_bad hlt HRi.out (HC1.out 10 (by unfold plV; rw [HO.out, if_pos o0])) (by decide))
       clear HRi HC1 HO o0
       as_aux_lemma =>
        go_wp2_with fail
        go_ret2
        exact ⟨by rw [HS.out]; rfl, HK18.out.bl⟩
      ·have o0' : (z2 == 0) = false := by simpa using o0
       by_cases o1 : 0 < z2
       ·have HS := hid_of (step_bad hlt HRi.out (HC1.out 15 (by unfold plV; rw [HO.out, if_neg o0, if_pos o1])) (by decide))
        clear HRi HC1 HO o0
        as_aux_lemma =>
         go_wp2_with fail
         go_ret2
         exact ⟨by rw [HS.out]; rfl, HK18.out.bl⟩
       ·obtain ⟨ba, hba⟩ : ∃ ba, (s.vs[m].d.name == s.vs[i].d.name) = ba := ⟨_, rfl⟩
        obtain ⟨bb, hbb⟩ : ∃ bb, (s.vs[m].d.kind == s.vs[i].d.kind) = bb := ⟨_, rfl⟩
        obtain ⟨bc, hbc⟩ : ∃ bc, (s.vs[m].d.help == s.vs[i].d.help) = bc := ⟨_, rfl⟩
        have hbb' : (s.vs[m].d.kind != s.vs[i].d.kind) = !bb := by rw [← hbb]; rfl
        have HU : Hid (plV s.vs[m] s.vs[i] = if (ba && (!bb || !bc)) = true then 12 else 0) := by
         unfold Hid plV
         rw [HO.out, if_neg o0, if_neg o1, unl_beq, hba, hbb', hbc]
        have HSb := hid_of (fun h0 => step_bad hlt HRi.out (HC1.out _ HU.out) h0)
        have HSg := hid_of (fun h0 => step_good hlt HRi.out ((HC1.out _ HU.out).trans h0))
        clear HRi HC1 HO o0 HU hbb
        cases ba <;> cases bb <;> cases bc
        all_goals as_aux_lemma =>
         go_wp2_with fail
         first
          | (go_ret2; exact ⟨by rw [HSb.out (by decide)]; rfl, HK18.out.bl⟩)
          | exact ⟨⟨i + 1, by omega, by go_num, HSg.out (by decide), HK18⟩, by simp [intOf]; omega⟩
   ·have hz' : (z != 0) = true := by simpa using hz0
    have HS := hid_of (step_bad hlt HR.out (chk1_one (by rw [HZ.out]; exact hz0)) (by rw [HZ.out]; exact hz0))
    rw [HZ.out] at HS
    clear hz0 HR HP HQ HSL HK HH HZ HKr10 HRow
    as_aux_lemma =>
     go_wp2_with fail
     go_ret2
     exact ⟨by rw [HS.out]; rfl, HK10.out.bl⟩
  ·have hlt' : ¬ (i : Int) < (s.vs.length : Int) := by omega
   have hS := HR.out
   rw [List.drop_eq_nil_of_le (by omega)] at hS
   have HS : Hid (R = (0, 0)) := by unfold Hid; rw [hS]; cases prvV s.vs i <;> rfl
   clear HR hS HW
   as_aux_lemma =>
    go_wp2_with fail
    go_ret2
    exact ⟨by rw [HS.out]; rfl, HK.out.bl⟩
end Go.Proofs.YtlgfgeacphkhnaaGreatDoor
