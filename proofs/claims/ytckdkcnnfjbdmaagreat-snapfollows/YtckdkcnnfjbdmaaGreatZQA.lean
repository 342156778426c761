/- WHAT STANDS IN A SNAPSHOT: the document's Find, and both Quantiles. Own work of the verifier. -/
import Derived.Test.YtckdkcnnfjbdmaaGreatZP5
import Derived.Test.YtckdkcnnfjbdmaaGreatZD3
namespace Go.Proofs.YtckdkcnnfjbdmaaGreat
open Go.RowKit Me

/-- A quantile of counts, or why there is none. -/
noncomputable def qtL (p : Int) (L : List Cn) (num den : Int) : Int × Int := if mayE p L ≠ 0 then (0, mayE p L) else qF p.toNat L num den
theorem cqt_any (w : World) (v : Value) (p : Int) (L : List Cn) (hS : SN w v L) (hW : Wc L) (hl : L.length ≤ 8796093022208) (num den : Int) (hd : den < 9223372036854775808) :
    Calls Tryz.prog 38 #[.int .i64 p, v, .int .i64 num, .int .i64 den] w fun e w' => e = two (qtL p L num den).1 (qtL p L num den).2 ∧ Below w.heap.size w w' := by
  have hm := mayE_is p L
  unfold qtL
  by_cases h0 : mayE p L = 0
  · rw [if_neg (by simpa using h0)]
    rw [h0] at hm
    obtain ⟨P, rfl⟩ := Int.eq_ofNat_of_zero_le (by have := (may_ok hm).1; omega : 0 ≤ p)
    exact cquant_ok w v P L hS hW hl hm num den hd
  · rw [if_pos h0]
    exact cquant_not w v p L hS hW hl hm h0 num den
theorem rqt_any (w : World) (v : Value) (p : Int) (L : List Cn) (hS : SN w v L) (hW : Wc L) (hl : L.length ≤ 8796093022208) (num den : Int) (hd : den < 9223372036854775808) :
    Calls Tryz.prog 39 #[.int .i64 p, v, .int .i64 num, .int .i64 den] w fun e w' => e = two (qtL p L num den).1 (qtL p L num den).2 ∧ Below w.heap.size w w' := by
  have hm := mayE_is p L
  obtain ⟨ao, b, o, cap, rfl, hao, hr⟩ := hS.sc
  unfold qtL
  by_cases h0 : mayE p L = 0
  · rw [if_neg (by simpa using h0)]
    rw [h0] at hm
    obtain ⟨P, rfl⟩ := Int.eq_ofNat_of_zero_le (by have := (may_ok hm).1; omega : 0 ≤ p)
    exact rquant_ok ao b o cap P L hao hW (by omega) hm num den hd w hr
  · rw [if_pos h0]
    exact rquant_not ao b o cap p L hao hW (by omega) hm h0 num den w hr
/-- What Quantile tells. -/
noncomputable def qtS (s : Sn) (n : List UInt8) (lb : List La.Lb) (num den : Int) : Int × Int := if (fndS s n lb).2 ≠ 0 then (0, (fndS s n lb).2) else if (fndS s n lb).1.d.kind ≠ 2 then (0, 7) else qtL s.p (fndS s n lb).1.cs num den
theorem fnd_none {s : Sn} {n : List UInt8} {lb : List La.Lb} (h : fdI (qV n lb) s.vs 0 = -1) : fndS s n lb = (zV, 6) := by
  unfold fndS
  rw [h, if_pos (by decide)]
theorem fnd_at {s : Sn} {n : List UInt8} {lb : List La.Lb} {j : Nat} (hj : j < s.vs.length) (h : fdI (qV n lb) s.vs 0 = (j : Int)) : fndS s n lb = (s.vs[j], 0) := by
  unfold fndS
  rw [h, if_neg (by omega), Int.toNat_natCast, List.getD_eq_getElem?_getD, List.getElem?_eq_getElem hj]
  rfl
/-- What the region of ranks.Quantile holds on to. -/
abbrev S6q (w : World) (s : Sn) (ao : Option Addr) (cap b o : Nat) (y : Vl) (lw cw : Value) (W : World) : Prop := W.cell? ⟨w.heap.size, 0, none⟩ = some (.int .i64 s.p) ∧ W.cell? ⟨w.heap.size, 1, none⟩ = some (.slice ao s.vs.length cap) ∧ cC b o y lw cw W ∧ KR b o y lw cw W ∧ Below w.heap.size w W
theorem keep6q {w W W1 : World} {s : Sn} {ao : Option Addr} {cap b o : Nat} {y : Vl} {lw cw : Value} (hb : Below W.heap.size W W1) (h : S6q w s ao cap b o y lw cw W) : S6q w s ao cap b o y lw cw W1 := ⟨cellB hb h.1, cellB hb h.2.1, (h.2.2.2.1.below hb).c.cC, h.2.2.2.1.below hb, bt h.2.2.2.2 hb⟩
set_option maxRecDepth 100000 in
set_option maxHeartbeats 4000000 in
theorem cquantile_any (s : Sn) (v : Value) (n : List UInt8) (lv : Value) (lb : List La.Lb) (num den : Int) (hd : den < 9223372036854775808) (hs : SnW s) (w : World) (hv : SnAt w s v) (hl : SLb w lv lb) :
    Calls Tryz.prog 18 #[v, .string ⟨n.toArray⟩, lv, .int .i64 num, .int .i64 den] w fun e w' => e = two (qtS s n lb num den).1 (qtS s n lb num den).2 ∧ Below w.heap.size w w' := by
  obtain ⟨u, rfl, hu⟩ := hv
  obtain ⟨ao, b, o, cap, rfl, hao, hcap, hcap2, hr⟩ := hu.open
  have HP : Hid (∀ W, Below w.heap.size w W → Calls Tryz.prog 35 #[.agg #[.int .i64 s.p, .slice ao s.vs.length cap, .int .u64 (s.r : Int)], .string ⟨n.toArray⟩, lv] W fun e w' => e = .returned (.int .i64 (fdI (qV n lb) s.vs 0)) ∧ Below W.heap.size W w') := fun W h => splace_any s _ n lv lb W ⟨_, rfl, hu.below h⟩ (hl.below h)
  have hcs := fdI_cases (qV n lb) s.vs 0
  obtain ⟨z, hz⟩ : ∃ z, fdI (qV n lb) s.vs 0 = z := ⟨_, rfl⟩
  rw [hz] at HP hcs
  obtain ⟨R, hR⟩ : ∃ R, R = qtS s n lb num den := ⟨_, rfl⟩
  rw [← hR]
  have HR := hid_of hR
  have HZ := hid_of hz
  have HRr := hid_of hr
  have HW := hid_of hs.vs
  have HX := hid_of (fun T => (⟨by simp [go_sem], by simp [go_sem], by simp [go_sem]⟩ : ((w.alloc (.cells #[.int .i64 s.p, .slice ao s.vs.length cap, .int .u64 (s.r : Int)] T)).cell? ⟨w.heap.size, 0, none⟩ = some (.int .i64 s.p) ∧ (w.alloc (.cells #[.int .i64 s.p, .slice ao s.vs.length cap, .int .u64 (s.r : Int)] T)).cell? ⟨w.heap.size, 1, none⟩ = some (.slice ao s.vs.length cap) ∧ (w.alloc (.cells #[.int .i64 s.p, .slice ao s.vs.length cap, .int .u64 (s.r : Int)] T)).cell? ⟨w.heap.size, 2, none⟩ = some (.int .u64 (s.r : Int)))))
  clear hu hr hl hR hz hs
  go_enter Tryz.func18, Tryz.ntmps18
  go_upto_region 1 with fail
  obtain ⟨a0, a1, a2⟩ := HX.out 26
  have B0 := hid_of (bel1 w (.cells #[.int .i64 s.p, .slice ao s.vs.length cap, .int .u64 (s.r : Int)] 26))
  clear HX
  generalize w.alloc (.cells #[.int .i64 s.p, .slice ao s.vs.length cap, .int .u64 (s.r : Int)] 26) = w0 at *
  go_upto_region 2 with (go_at_call 35; (with_reducible refine (HP.out _ B0.out).mono ?_); rintro e w1 ⟨rfl, hb1⟩)
  have k0 := cellB hb1 a0
  have k1 := cellB hb1 a1
  have B1 := hid_of (bt B0.out hb1)
  clear a0 a1 a2 hb1 B0 HP
  rcases hcs with rfl | ⟨j, hj, hzj⟩
  · have HE : Hid (R = (0, 6)) := by
      unfold Hid
      rw [HR.out]
      unfold qtS
      rw [fnd_none HZ.out, if_pos (by decide)]
    clear HR HZ
    as_aux_lemma =>
      go_wp2_with fail
      go_ret2
      exact ⟨by rw [HE.out]; rfl, B1.out⟩
  · rw [Nat.zero_add] at hzj
    subst hzj
    have hnl : ¬ ((j : Nat) : Int) < 0 := by omega
    obtain rfl := hao (by intro e; rw [e] at hj; simp at hj)
    obtain ⟨lw, cw, g1, g2, g3⟩ := HRr.out.below B1.out j hj
    have hix := index_val b o s.vs.length cap j (j : Int) rfl hj
    have hvw := HW.out _ (List.getElem_mem hj)
    have HEq : Hid (R = if s.vs[j].d.kind ≠ 2 then (0, 7) else qtL s.p s.vs[j].cs num den) := by
      unfold Hid
      rw [HR.out]
      unfold qtS
      rw [fnd_at hj HZ.out, if_neg (by simp)]
    have HQ : Hid (∀ W, S6q w s (some ⟨b, o, none⟩) cap b (o + j * 11) s.vs[j] lw cw W → Calls Tryz.prog 38 #[.int .i64 s.p, cw, .int .i64 num, .int .i64 den] W fun e w' => e = two (qtL s.p s.vs[j].cs num den).1 (qtL s.p s.vs[j].cs num den).2 ∧ Below W.heap.size W w') := fun W k => cqt_any W cw s.p s.vs[j].cs k.2.2.2.1.n hvw.cs hvw.cl num den hd
    have hS0 := (⟨k0, k1, g1.cC, ⟨g1, g2, g3⟩, B1.out⟩ : S6q w s (some ⟨b, o, none⟩) cap b (o + j * 11) s.vs[j] lw cw w1)
    obtain ⟨r0, r1, r2, r3, r4, r5, r6, r7, r8, r9, r10⟩ := g1.cC
    clear g1 g2 g3 HR HZ HRr HW hvw hd
    generalize s.vs[j] = y at *
    by_cases hk : y.d.kind = 2
    · have hk' : (y.d.kind != 2) = false := by simpa using hk
      rw [if_neg (by simpa using hk)] at HEq
      clear hk
      go_upto_region 6 with fail
      clear r0 r1 r2 r3 r4 r5 r6 r7 r8 r9 r10 k0 k1
      go_region_held3 (fun W => S6q w s (some ⟨b, o, none⟩) cap b (o + j * 11) y lw cw W)
        (first | assumption | exact keep6q (by assumption) (by assumption) | exact keep6q (drew_bel _) hS0)
        (first
          | (go_at_call 38; with_reducible refine Calls.mono (HQ.out _ (by first | assumption | exact keep6q (drew_bel _) hS0)) ?_; rintro e w3 ⟨rfl, hb3⟩))
      rename_i hS3
      go_wp2_with fail
      go_ret2
      exact ⟨two_iff (by rw [HEq.out]) (by rw [HEq.out]), hS3.2.2.2.2⟩
    · have hk' : (y.d.kind != 2) = true := by simpa using hk
      rw [if_pos hk] at HEq
      clear hk HQ hS0
      as_aux_lemma =>
        go_wp2_with fail
        go_ret2
        exact ⟨by rw [HEq.out]; rfl, B1.out⟩
end Go.Proofs.YtckdkcnnfjbdmaaGreat
/- WHAT STANDS IN A SNAPSHOT, the document's: Find, Quantile. Own work of the verifier. -/
namespace Go.Proofs.YtckdkcnnfjbdmaaGreat
open Go.RowKit Me

theorem SLb.open {W : World} {v : Value} {L : List La.Lb} (h : SLb W v L) : ∃ ao b o cap, v = .slice ao L.length cap ∧ (L ≠ [] → ao = some ⟨b, o, none⟩) ∧ L.length ≤ 9223372036854775807 ∧ La.RowL W b o L := by
  rcases h with ⟨rfl, rfl⟩ | ⟨b, o, cap, rfl, h2, h3, hr⟩ | ⟨a, cap, rfl, h3, h2⟩
  · exact ⟨none, 0, 0, 0, rfl, fun k => absurd rfl k, by simp, fun i hi => by simp at hi⟩
  · exact ⟨_, b, o, cap, rfl, fun _ => rfl, by omega, hr⟩
  · exact ⟨_, 0, 0, cap, rfl, fun k => absurd h2 k, by rw [h2]; simp, by rw [h2]; exact fun i hi => by simp at hi⟩
theorem rsl_any (A C : List La.Lb) (v u : Value) (w : World) (hA : SLb w v A) (hC : SLb w u C) : Calls Tryz.prog 37 #[v, u] w fun e w' => e = .returned (.bool (decide (A = C))) ∧ Below w.heap.size w w' := by
  obtain ⟨ao, b, o, cap, rfl, h1, h2, h3⟩ := hA.open
  obtain ⟨ao', b', o', cap', rfl, k1, k2, k3⟩ := hC.open
  refine (La.samel_any ao b o cap A h1 ao' b' o' cap' C k1 h2 w h3 k3).mono ?_
  rintro e w' ⟨rfl, n, rfl⟩
  exact ⟨rfl, bel_drewNB (Below.refl _ _) n⟩
theorem hit_eq (n : List UInt8) (lb : List La.Lb) (x : Vl) : hitB (qV n lb) x = (x.d.name == n && decide (x.d.labels = lb)) := by
  unfold hitB
  have h := La.ordD_zero x.d (qV n lb).d
  have h' : La.ordD x.d (qV n lb).d = 0 ↔ x.d.name = n ∧ x.d.labels = lb := h
  by_cases h1 : x.d.name = n
  · by_cases h2 : x.d.labels = lb
    · rw [h'.2 ⟨h1, h2⟩, decide_eq_true h2, h1]; simp
    · have : La.ordD x.d (qV n lb).d ≠ 0 := fun e => h2 (h'.1 e).2
      rw [beq_eq_false_iff_ne.2 this, decide_eq_false h2, Bool.and_false]
  · have : La.ordD x.d (qV n lb).d ≠ 0 := fun e => h1 (h'.1 e).1
    rw [beq_eq_false_iff_ne.2 this, beq_eq_false_iff_ne.2 h1, Bool.false_and]
/-- What the document's Find tells: the value as it lies. -/
def RfQ (w : World) (s : Sn) (n : List UInt8) (lb : List La.Lb) (e : Ending) (w' : World) : Prop := ∃ la lc ca cc, e = .returned (.tuple #[vx (fndS s n lb).1 (.slice la (fndS s n lb).1.d.labels.length lc) (.slice ca (fndS s n lb).1.cs.length cc), .int .i64 (fndS s n lb).2]) ∧ SLb w (.slice la (fndS s n lb).1.d.labels.length lc) (fndS s n lb).1.d.labels ∧ SN w (.slice ca (fndS s n lb).1.cs.length cc) (fndS s n lb).1.cs ∧ Below w.heap.size w w'
set_option maxRecDepth 100000 in
set_option maxHeartbeats 8000000 in
theorem rfind_any (s : Sn) (v : Value) (n : List UInt8) (lv : Value) (lb : List La.Lb) (w : World) (hv : SnAt w s v) (hl : SLb w lv lb) :
    Calls Tryz.prog 17 #[v, .string ⟨n.toArray⟩, lv] w fun e w' => RfQ w s n lb e w' := by
  obtain ⟨u, rfl, hu⟩ := hv
  obtain ⟨ao, b, o, cap, rfl, hao, hcap, hcap2, hr⟩ := hu.open
  have HN := hid_of (Fb.new w s (.slice ao s.vs.length cap))
  obtain ⟨z, hz⟩ : ∃ z, z = fdI (qV n lb) s.vs 0 := ⟨_, rfl⟩
  have HZ0 : Hid (z = fdI (qV n lb) (s.vs.drop 0) 0) := hz
  have HZ := hid_of hz.symm
  have HRr := hid_of hr
  have HSl : Hid (∀ (x : Vl) (lx : Value) (W : World), SLb W lx x.d.labels → Below w.heap.size w W → Calls Tryz.prog 37 #[lx, lv] W fun e w' => e = .returned (.bool (decide (x.d.labels = lb))) ∧ Below W.heap.size W w') := fun x lx W h hb => rsl_any x.d.labels lb lx lv W h (hl.below hb)
  obtain ⟨lva, lvc, rfl⟩ := hl.form
  have sF := store_f
  clear hu hr hl hz
  go_enter Tryz.func17, Tryz.ntmps17
  go_upto_region 2 with fail
  generalize (w.alloc (.cells #[.int .i64 s.p, .slice ao s.vs.length cap, .int .u64 (s.r : Int)] 26)).alloc (.cells #[.int .i64 0, .string ⟨#[]⟩, .string ⟨#[]⟩, .slice none 0 0, .int .i64 0, .int .u64 0, .slice none 0 0, .int .u64 0, .float .f64 0, .float .f64 0, .float .f64 0] 45) = w0 at HN ⊢
  go_loopw [8] (fun x W => ∃ i : Nat, i ≤ s.vs.length ∧ x = .int .i64 (i : Int) ∧ Hid (z = fdI (qV n lb) (s.vs.drop i) i) ∧ Hid (Fb w s (.slice ao s.vs.length cap) W)) (fun x _ => s.vs.length - (intOf x).toNat)
  case atStart => exact ⟨0, by omega, rfl, HZ0, HN⟩
  case round =>
    clear HZ0 HN
    obtain ⟨i, hi, rfl, HF, HB⟩ := hrel
    obtain ⟨c0, c1, c2, _, _, _⟩ := three_cells HB.out.g1
    by_cases hlt : i < s.vs.length
    · have hlt' : (i : Int) < (s.vs.length : Int) := by omega
      obtain rfl := hao (by intro e; rw [e] at hlt; simp at hlt)
      have hix := index_val b o s.vs.length cap i (i : Int) rfl hlt
      obtain ⟨lx, cx, g1, g2, g3⟩ := HRr.out i hlt
      obtain ⟨xa, xc, rfl⟩ := g2.form
      obtain ⟨ya, yc, rfl⟩ := g3.form
      have HG := hid_of (⟨g1, g2, g3⟩ : KR b (o + i * 11) s.vs[i] (.slice xa s.vs[i].d.labels.length xc) (.slice ya s.vs[i].cs.length yc) w)
      have hS := HF.out
      rw [fdI_drop (qV n lb) s.vs i hlt, hit_eq] at hS
      have HS := hid_of hS
      have HSi := hid_of (HSl.out s.vs[i] (.slice xa s.vs[i].d.labels.length xc))
      have HND := hid_of (D4.new wr s.vs[i].d (.slice xa s.vs[i].d.labels.length xc) 39)
      have HNB := hid_of (bel1 wr (.cells #[.int .i64 s.vs[i].d.kind, .string ⟨s.vs[i].d.name.toArray⟩, .string ⟨s.vs[i].d.help.toArray⟩, .slice xa s.vs[i].d.labels.length xc] 39))
      have hgw := g1.below HB.out.bl
      obtain ⟨r0, r1, r2, r3, -⟩ := hgw.cC
      have hFa : Hid (s.vs[i].d.name == n → s.vs[i].d.labels = lb → fndS s n lb = (s.vs[i], 0)) := fun h1 h2 => fnd_at hlt (by
        rw [HZ.out, hS, if_pos (by rw [h1, decide_eq_true h2]; rfl)])
      clear hS HF g1 g2 g3 hgw
      go_upto_region 5 with fail
      have HF5 := hid_of (HB.out.below HNB.out)
      have HSL5 := hid_of (HG.out.l.below HF5.out.bl)
      have HGw := hid_of (HG.out.below HF5.out.bl)
      clear HB r0 r1 r2 r3 c0 c1 c2
      generalize wr.alloc (.cells #[.int .i64 s.vs[i].d.kind, .string ⟨s.vs[i].d.name.toArray⟩, .string ⟨s.vs[i].d.help.toArray⟩, .slice xa s.vs[i].d.labels.length xc] 39) = w5 at *
      obtain ⟨e0, e1, e2, e3⟩ := HND.out
      obtain ⟨q, hq⟩ : ∃ q, decide (s.vs[i].d.labels = lb) = q := ⟨_, rfl⟩
      obtain ⟨p, hp⟩ : ∃ p, (s.vs[i].d.name == n) = p := ⟨_, rfl⟩
      rw [hq, hp] at HS
      rw [hq] at HSi
      have HFa2 : Hid (p = true → q = true → fndS s n lb = (s.vs[i], 0)) := fun h1 h2 => hFa.out (by rw [hp]; exact h1) (of_decide_eq_true (hq.trans h2))
      clear hq hFa
      go_upto_region 6 with (go_at_call 37; (with_reducible refine (HSi.out _ HSL5.out HF5.out.bl).mono ?_); rintro e w6 ⟨rfl, hb6⟩)
      have HF6 := hid_of (HF5.out.below hb6)
      have HG6 := hid_of (HGw.out.below hb6)
      obtain ⟨e0, e1, e2, e3⟩ := HND.out.below hb6
      clear HF5 HND HSL5 HGw hb6 HSi HNB
      obtain ⟨c0, c1, c2, _, _, _⟩ := three_cells HF6.out.g1
      cases p
      case false =>
        rw [Bool.false_and, if_neg (by decide)] at HS
        as_aux_lemma =>
          go_wp2_with fail
          exact ⟨⟨i + 1, by omega, by go_num, HS, HF6⟩, by simp [intOf]; omega⟩
      case true =>
      rw [Bool.true_and] at HS
      cases q
      case false =>
        rw [if_neg (by decide)] at HS
        as_aux_lemma =>
          go_wp2_with fail
          exact ⟨⟨i + 1, by omega, by go_num, HS, HF6⟩, by simp [intOf]; omega⟩
      case true =>
      have HE := hid_of (HFa2.out rfl rfl)
      clear HS HFa2 HZ
      obtain ⟨r0, r1, r2, r3, r4, r5, r6, r7, r8, r9, r10⟩ := HG6.out.c.cC
      obtain ⟨z0, z1, z2, z3, z4, z5, z6, z7, z8, z9, z10⟩ := eleven_cells (hid_of HF6.out.g2)
      obtain ⟨f0, f1, f2, f3, f4, f5, f6, f7, f8, f9, f10⟩ := eleven_fr (hid_of HF6.out.g2)
      go_wp2_with fail
      rw [put11_eq]
      have HS2 := hid_of (set_eleven (v0 := .int .i64 s.vs[i].d.kind) (v1 := .string ⟨s.vs[i].d.name.toArray⟩) (v2 := .string ⟨s.vs[i].d.help.toArray⟩) (v3 := .slice xa s.vs[i].d.labels.length xc) (v4 := .int .i64 (hiOf s.vs[i].t)) (v5 := .int .u64 (loOf s.vs[i].t)) (v6 := .slice ya s.vs[i].cs.length yc) (v7 := .int .u64 (s.vs[i].n : Int)) (v8 := .float .f64 s.vs[i].sum) (v9 := .float .f64 s.vs[i].mn) (v10 := .float .f64 s.vs[i].mx) HF6.out.g2)
      obtain ⟨y0, y1, y2, y3, y4, y5, y6, y7, y8, y9, y10⟩ := eleven_cells HS2
      simp [bodyPost, results, go_sem, y0, y1, y2, y3, y4, y5, y6, y7, y8, y9, y10]
      exact ⟨xa, xc, ya, yc, by rw [HE.out], by rw [HE.out]; exact HG.out.l, by rw [HE.out]; exact HG.out.n, put11_bel HF6.out.bl (by omega) _ _ _ _ _ _ _ _ _ _ _⟩
    · have hlt' : ¬ (i : Int) < (s.vs.length : Int) := by omega
      have hS := HF.out
      rw [List.drop_eq_nil_of_le (by omega)] at hS
      have HE := hid_of (fnd_none (s := s) (n := n) (lb := lb) (HZ.out.trans hS))
      clear HF hS HZ
      obtain ⟨z0, z1, z2, z3, z4, z5, z6, z7, z8, z9, z10⟩ := eleven_cells (hid_of HB.out.g2)
      obtain ⟨f0, f1, f2, f3, f4, f5, f6, f7, f8, f9, f10⟩ := eleven_fr (hid_of HB.out.g2)
      go_wp2_with fail
      rw [put11_eq]
      have HS2 := hid_of (set_eleven (v0 := .int .i64 0) (v1 := .string ⟨#[]⟩) (v2 := .string ⟨#[]⟩) (v3 := .slice none 0 0) (v4 := .int .i64 0) (v5 := .int .u64 0) (v6 := .slice none 0 0) (v7 := .int .u64 0) (v8 := .float .f64 0) (v9 := .float .f64 0) (v10 := .float .f64 0) HB.out.g2)
      obtain ⟨y0, y1, y2, y3, y4, y5, y6, y7, y8, y9, y10⟩ := eleven_cells HS2
      simp [bodyPost, results, go_sem, y0, y1, y2, y3, y4, y5, y6, y7, y8, y9, y10]
      exact ⟨none, 0, none, 0, by rw [HE.out]; exact congrArg (fun q => Ending.returned (.tuple #[q, .int .i64 6])) vx_zero.symm, by rw [HE.out]; exact Or.inl ⟨rfl, rfl⟩, by rw [HE.out]; exact Or.inl ⟨rfl, rfl⟩, put11_bel HB.out.bl (by omega) _ _ _ _ _ _ _ _ _ _ _⟩
end Go.Proofs.YtckdkcnnfjbdmaaGreat
/- WHAT STANDS IN A SNAPSHOT, the document's: Quantile. Own work of the verifier. -/
namespace Go.Proofs.YtckdkcnnfjbdmaaGreat
open Go.RowKit Me

theorem fnd_w {s : Sn} (hs : SnW s) (n : List UInt8) (lb : List La.Lb) : VW (fndS s n lb).1 := by
  rcases fdI_cases (qV n lb) s.vs 0 with h | ⟨j, hj, h⟩
  · rw [fnd_none h]
    exact ⟨⟨by show _ ≤ (0 : Int); omega, by show (0 : Int) < _; omega⟩, (fun c hc => by cases hc), by show 0 ≤ _; omega, by show 0 < _; omega, by show 0 < _; omega, by show 0 < _; omega, by show 0 < _; omega, ⟨by show 0 ≤ _; omega, by show 0 ≤ _; omega, fun a ha => by cases ha⟩⟩
  · rw [Nat.zero_add] at h
    rw [fnd_at hj h]
    exact hs.vs _ (List.getElem_mem hj)
set_option maxRecDepth 100000 in
set_option maxHeartbeats 4000000 in
theorem rquantile_any (s : Sn) (v : Value) (n : List UInt8) (lv : Value) (lb : List La.Lb) (num den : Int) (hd : den < 9223372036854775808) (hs : SnW s) (w : World) (hv : SnAt w s v) (hl : SLb w lv lb) :
    Calls Tryz.prog 19 #[v, .string ⟨n.toArray⟩, lv, .int .i64 num, .int .i64 den] w fun e w' => e = two (qtS s n lb num den).1 (qtS s n lb num den).2 ∧ Below w.heap.size w w' := by
  obtain ⟨u, rfl, hu⟩ := hv
  have HF : Hid (∀ W, Below w.heap.size w W → Calls Tryz.prog 17 #[.agg #[.int .i64 s.p, u, .int .u64 (s.r : Int)], .string ⟨n.toArray⟩, lv] W fun e w' => RfQ W s n lb e w') := fun W h => rfind_any s _ n lv lb W ⟨_, rfl, hu.below h⟩ (hl.below h)
  obtain ⟨ao, b, o, cap, rfl, -⟩ := hu.open
  have HVw := hid_of (fnd_w hs n lb)
  obtain ⟨R, hR⟩ : ∃ R, R = qtS s n lb num den := ⟨_, rfl⟩
  rw [← hR]
  unfold qtS at hR
  have HR := hid_of hR
  have HX := hid_of (fun T => (⟨by simp [go_sem], by simp [go_sem], by simp [go_sem]⟩ : ((w.alloc (.cells #[.int .i64 s.p, .slice ao s.vs.length cap, .int .u64 (s.r : Int)] T)).cell? ⟨w.heap.size, 0, none⟩ = some (.int .i64 s.p) ∧ (w.alloc (.cells #[.int .i64 s.p, .slice ao s.vs.length cap, .int .u64 (s.r : Int)] T)).cell? ⟨w.heap.size, 1, none⟩ = some (.slice ao s.vs.length cap) ∧ (w.alloc (.cells #[.int .i64 s.p, .slice ao s.vs.length cap, .int .u64 (s.r : Int)] T)).cell? ⟨w.heap.size, 2, none⟩ = some (.int .u64 (s.r : Int)))))
  clear hu hl hs hR
  unfold RfQ at HF
  generalize fndS s n lb = fv at *
  obtain ⟨y, er⟩ := fv
  simp only at HF HVw HR
  have HQ : Hid (∀ (W : World) (cw : Value), SN W cw y.cs → Calls Tryz.prog 39 #[.int .i64 s.p, cw, .int .i64 num, .int .i64 den] W fun e w' => e = two (qtL s.p y.cs num den).1 (qtL s.p y.cs num den).2 ∧ Below W.heap.size W w') := fun W cw k => rqt_any W cw s.p y.cs k HVw.out.cs HVw.out.cl num den hd
  clear HVw hd
  have sF := store_f
  go_enter Tryz.func19, Tryz.ntmps19
  go_upto_region 1 with fail
  obtain ⟨a0, a1, a2⟩ := HX.out 26
  have B0 := hid_of (bel1 w (.cells #[.int .i64 s.p, .slice ao s.vs.length cap, .int .u64 (s.r : Int)] 26))
  clear HX
  generalize w.alloc (.cells #[.int .i64 s.p, .slice ao s.vs.length cap, .int .u64 (s.r : Int)] 26) = w0 at *
  go_upto_region 2 with (go_at_call 17; (with_reducible refine (HF.out _ B0.out).mono ?_); rintro e w1 ⟨la, lc, ca, cc, rfl, hl1, hc1, hb1⟩)
  have hbn := bel1 w1 (.cells (vc y (.slice la y.d.labels.length lc) (.slice ca y.cs.length cc)) 45)
  have hB2 := newB11 w1 y (.slice la y.d.labels.length lc) (.slice ca y.cs.length cc) 45
  have k0 := cellB hbn (cellB hb1 a0)
  have HSN := hid_of ((hc1.below hb1).below hbn)
  have B2 := hid_of (bt (bt B0.out hb1) hbn)
  obtain ⟨w2, hw2⟩ : ∃ w2, w1.alloc (.cells (vc y (.slice la y.d.labels.length lc) (.slice ca y.cs.length cc)) 45) = w2 := ⟨_, rfl⟩
  rw [hw2] at hB2 k0 HSN B2
  simp only [vc] at hw2
  rw [hw2]
  clear a0 a1 a2 hb1 B0 HF hl1 hc1 hbn hw2
  obtain ⟨r0, r1, r2, r3, r4, r5, r6, r7, r8, r9, r10⟩ := hB2
  by_cases he : er = 0
  · have he' : (er != 0) = false := by simpa using he
    rw [if_neg (by simpa using he)] at HR
    clear he
    by_cases hk : y.d.kind = 2
    · have hk' : (y.d.kind != 2) = false := by simpa using hk
      rw [if_neg (by simpa using hk)] at HR
      clear hk
      go_wp2_with (go_at_call 39; (with_reducible refine (HQ.out _ _ HSN.out).mono ?_); rintro e w3 ⟨rfl, hb3⟩)
      go_ret2
      exact ⟨two_iff (by rw [HR.out]) (by rw [HR.out]), bt B2.out hb3⟩
    · have hk' : (y.d.kind != 2) = true := by simpa using hk
      rw [if_pos hk] at HR
      clear hk HQ
      go_wp2_with fail
      go_ret2
      exact ⟨by rw [HR.out]; rfl, B2.out⟩
  · have he' : (er != 0) = true := by simpa using he
    rw [if_pos he] at HR
    clear he HQ
    go_wp2_with fail
    go_ret2
    exact ⟨by rw [HR.out]; rfl, B2.out⟩
end Go.Proofs.YtckdkcnnfjbdmaaGreat
