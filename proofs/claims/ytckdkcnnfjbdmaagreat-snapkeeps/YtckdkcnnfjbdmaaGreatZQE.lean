/- WHAT STANDS IN A SNAPSHOT: the document's Find, and both Quantiles. Own work of the verifier. -/
import Derived.Test.YtckdkcnnfjbdmaaGreatZP5
import Derived.Test.YtckdkcnnfjbdmaaGreatZD3
import Derived.Test.YtckdkcnnfjbdmaaGreatZD
import Derived.Test.YtckdkcnnfjbdmaaGreatZD7
import Derived.Test.YtckdkcnnfjbdmaaGreatZP7
namespace Go.Proofs.YtckdkcnnfjbdmaaGreat
open Go.RowKit Me

theorem fnd_none {s : Sn} {n : List UInt8} {lb : List La.Lb} (h : fdI (qV n lb) s.vs 0 = -1) : fndS s n lb = (zV, 6) := by
  unfold fndS
  rw [h, if_pos (by decide)]
theorem fnd_at {s : Sn} {n : List UInt8} {lb : List La.Lb} {j : Nat} (hj : j < s.vs.length) (h : fdI (qV n lb) s.vs 0 = (j : Int)) : fndS s n lb = (s.vs[j], 0) := by
  unfold fndS
  rw [h, if_neg (by omega), Int.toNat_natCast, List.getD_eq_getElem?_getD, List.getElem?_eq_getElem hj]
  rfl
end Go.Proofs.YtckdkcnnfjbdmaaGreat
/- WHAT STANDS IN A SNAPSHOT, the document's: Find, Quantile. Own work of the verifier. -/
namespace Go.Proofs.YtckdkcnnfjbdmaaGreat
open Go.RowKit Me

theorem SLb.open {W : World} {v : Value} {L : List La.Lb} (h : SLb W v L) : ∃ ao b o cap, v = .slice ao L.length cap ∧ (L ≠ [] → ao = some ⟨b, o, none⟩) ∧ L.length ≤ 9223372036854775807 ∧ La.RowL W b o L := by
  rcases h with ⟨rfl, rfl⟩ | ⟨b, o, cap, rfl, h2, h3, hr⟩ | ⟨a, cap, rfl, h3, h2⟩
  · exact ⟨none, 0, 0, 0, rfl, fun k => absurd rfl k, by simp, fun i hi => by simp at hi⟩
  · exact ⟨_, b, o, cap, rfl, fun _ => rfl, by omega, hr⟩
  · exact ⟨_, 0, 0, cap, rfl, fun k => absurd h2 k, by rw [h2]; simp, by rw [h2]; exact fun i hi => by simp at hi⟩
theorem rsl_any (A C : List La.Lb) (v u : Value) (w : World) (hA : SLb w v A) (hC : SLb w u C) : Calls Tryz.prog 37 #[v, u] w fun e w' => e = .returned (.bool (decide (A = C))) ∧ Below w.heap.size w w' := by
  obtain ⟨ao, b, o, cap, rfl, h1, h2, h3⟩ := hA.open
  obtain ⟨ao', b', o', cap', rfl, k1, k2, k3⟩ := hC.open
  refine (La.samel_any ao b o cap A h1 ao' b' o' cap' C k1 h2 w h3 k3).mono ?_
  rintro e w' ⟨rfl, n, rfl⟩
  exact ⟨rfl, bel_drewNB (Below.refl _ _) n⟩
theorem hit_eq (n : List UInt8) (lb : List La.Lb) (x : Vl) : hitB (qV n lb) x = (x.d.name == n && decide (x.d.labels = lb)) := by
  unfold hitB
  have h := La.ordD_zero x.d (qV n lb).d
  have h' : La.ordD x.d (qV n lb).d = 0 ↔ x.d.name = n ∧ x.d.labels = lb := h
  by_cases h1 : x.d.name = n
  · by_cases h2 : x.d.labels = lb
    · rw [h'.2 ⟨h1, h2⟩, decide_eq_true h2, h1]; simp
    · have : La.ordD x.d (qV n lb).d ≠ 0 := fun e => h2 (h'.1 e).2
      rw [beq_eq_false_iff_ne.2 this, decide_eq_false h2, Bool.and_false]
  · have : La.ordD x.d (qV n lb).d ≠ 0 := fun e => h1 (h'.1 e).1
    rw [beq_eq_false_iff_ne.2 this, beq_eq_false_iff_ne.2 h1, Bool.false_and]
/-- What the document's Find tells: the value as it lies. -/
def RfQ (w : World) (s : Sn) (n : List UInt8) (lb : List La.Lb) (e : Ending) (w' : World) : Prop := ∃ la lc ca cc, e = .returned (.tuple #[vx (fndS s n lb).1 (.slice la (fndS s n lb).1.d.labels.length lc) (.slice ca (fndS s n lb).1.cs.length cc), .int .i64 (fndS s n lb).2]) ∧ SLb w (.slice la (fndS s n lb).1.d.labels.length lc) (fndS s n lb).1.d.labels ∧ SN w (.slice ca (fndS s n lb).1.cs.length cc) (fndS s n lb).1.cs ∧ Below w.heap.size w w'
set_option maxRecDepth 100000 in
set_option maxHeartbeats 8000000 in
theorem rfind_any (s : Sn) (v : Value) (n : List UInt8) (lv : Value) (lb : List La.Lb) (w : World) (hv : SnAt w s v) (hl : SLb w lv lb) :
    Calls Tryz.prog 17 #[v, .string ⟨n.toArray⟩, lv] w fun e w' => RfQ w s n lb e w' := by
  obtain ⟨u, rfl, hu⟩ := hv
  obtain ⟨ao, b, o, cap, rfl, hao, hcap, hcap2, hr⟩ := hu.open
  have HN := hid_of (Fb.new w s (.slice ao s.vs.length cap))
  obtain ⟨z, hz⟩ : ∃ z, z = fdI (qV n lb) s.vs 0 := ⟨_, rfl⟩
  have HZ0 : Hid (z = fdI (qV n lb) (s.vs.drop 0) 0) := hz
  have HZ := hid_of hz.symm
  have HRr := hid_of hr
  have HSl : Hid (∀ (x : Vl) (lx : Value) (W : World), SLb W lx x.d.labels → Below w.heap.size w W → Calls Tryz.prog 37 #[lx, lv] W fun e w' => e = .returned (.bool (decide (x.d.labels = lb))) ∧ Below W.heap.size W w') := fun x lx W h hb => rsl_any x.d.labels lb lx lv W h (hl.below hb)
  obtain ⟨lva, lvc, rfl⟩ := hl.form
  have sF := store_f
  clear hu hr hl hz
  go_enter Tryz.func17, Tryz.ntmps17
  go_upto_region 2 with fail
  generalize (w.alloc (.cells #[.int .i64 s.p, .slice ao s.vs.length cap, .int .u64 (s.r : Int)] 26)).alloc (.cells #[.int .i64 0, .string ⟨#[]⟩, .string ⟨#[]⟩, .slice none 0 0, .int .i64 0, .int .u64 0, .slice none 0 0, .int .u64 0, .float .f64 0, .float .f64 0, .float .f64 0] 45) = w0 at HN ⊢
  go_loopw [8] (fun x W => ∃ i : Nat, i ≤ s.vs.length ∧ x = .int .i64 (i : Int) ∧ Hid (z = fdI (qV n lb) (s.vs.drop i) i) ∧ Hid (Fb w s (.slice ao s.vs.length cap) W)) (fun x _ => s.vs.length - (intOf x).toNat)
  case atStart => exact ⟨0, by omega, rfl, HZ0, HN⟩
  case round =>
    clear HZ0 HN
    obtain ⟨i, hi, rfl, HF, HB⟩ := hrel
    obtain ⟨c0, c1, c2, _, _, _⟩ := three_cells HB.out.g1
    by_cases hlt : i < s.vs.length
    · have hlt' : (i : Int) < (s.vs.length : Int) := by omega
      obtain rfl := hao (by intro e; rw [e] at hlt; simp at hlt)
      have hix := index_val b o s.vs.length cap i (i : Int) rfl hlt
      obtain ⟨lx, cx, g1, g2, g3⟩ := HRr.out i hlt
      obtain ⟨xa, xc, rfl⟩ := g2.form
      obtain ⟨ya, yc, rfl⟩ := g3.form
      have HG := hid_of (⟨g1, g2, g3⟩ : KR b (o + i * 11) s.vs[i] (.slice xa s.vs[i].d.labels.length xc) (.slice ya s.vs[i].cs.length yc) w)
      have hS := HF.out
      rw [fdI_drop (qV n lb) s.vs i hlt, hit_eq] at hS
      have HS := hid_of hS
      have HSi := hid_of (HSl.out s.vs[i] (.slice xa s.vs[i].d.labels.length xc))
      have HND := hid_of (D4.new wr s.vs[i].d (.slice xa s.vs[i].d.labels.length xc) 39)
      have HNB := hid_of (bel1 wr (.cells #[.int .i64 s.vs[i].d.kind, .string ⟨s.vs[i].d.name.toArray⟩, .string ⟨s.vs[i].d.help.toArray⟩, .slice xa s.vs[i].d.labels.length xc] 39))
      have hgw := g1.below HB.out.bl
      obtain ⟨r0, r1, r2, r3, -⟩ := hgw.cC
      have hFa : Hid (s.vs[i].d.name == n → s.vs[i].d.labels = lb → fndS s n lb = (s.vs[i], 0)) := fun h1 h2 => fnd_at hlt (by
        rw [HZ.out, hS, if_pos (by rw [h1, decide_eq_true h2]; rfl)])
      clear hS HF g1 g2 g3 hgw
      go_upto_region 5 with fail
      have HF5 := hid_of (HB.out.below HNB.out)
      have HSL5 := hid_of (HG.out.l.below HF5.out.bl)
      have HGw := hid_of (HG.out.below HF5.out.bl)
      clear HB r0 r1 r2 r3 c0 c1 c2
      generalize wr.alloc (.cells #[.int .i64 s.vs[i].d.kind, .string ⟨s.vs[i].d.name.toArray⟩, .string ⟨s.vs[i].d.help.toArray⟩, .slice xa s.vs[i].d.labels.length xc] 39) = w5 at *
      obtain ⟨e0, e1, e2, e3⟩ := HND.out
      obtain ⟨q, hq⟩ : ∃ q, decide (s.vs[i].d.labels = lb) = q := ⟨_, rfl⟩
      obtain ⟨p, hp⟩ : ∃ p, (s.vs[i].d.name == n) = p := ⟨_, rfl⟩
      rw [hq, hp] at HS
      rw [hq] at HSi
      have HFa2 : Hid (p = true → q = true → fndS s n lb = (s.vs[i], 0)) := fun h1 h2 => hFa.out (by rw [hp]; exact h1) (of_decide_eq_true (hq.trans h2))
      clear hq hFa
      go_upto_region 6 with (go_at_call 37; (with_reducible refine (HSi.out _ HSL5.out HF5.out.bl).mono ?_); rintro e w6 ⟨rfl, hb6⟩)
      have HF6 := hid_of (HF5.out.below hb6)
      have HG6 := hid_of (HGw.out.below hb6)
      obtain ⟨e0, e1, e2, e3⟩ := HND.out.below hb6
      clear HF5 HND HSL5 HGw hb6 HSi HNB
      obtain ⟨c0, c1, c2, _, _, _⟩ := three_cells HF6.out.g1
      cases p
      case false =>
        rw [Bool.false_and, if_neg (by decide)] at HS
        as_aux_lemma =>
          go_wp2_with fail
          exact ⟨⟨i + 1, by omega, by go_num, HS, HF6⟩, by simp [intOf]; omega⟩
      case true =>
      rw [Bool.true_and] at HS
      cases q
      case false =>
        rw [if_neg (by decide)] at HS
        as_aux_lemma =>
          go_wp2_with fail
          exact ⟨⟨i + 1, by omega, by go_num, HS, HF6⟩, by simp [intOf]; omega⟩
      case true =>
      have HE := hid_of (HFa2.out rfl rfl)
      clear HS HFa2 HZ
      obtain ⟨r0, r1, r2, r3, r4, r5, r6, r7, r8, r9, r10⟩ := HG6.out.c.cC
      obtain ⟨z0, z1, z2, z3, z4, z5, z6, z7, z8, z9, z10⟩ := eleven_cells (hid_of HF6.out.g2)
      obtain ⟨f0, f1, f2, f3, f4, f5, f6, f7, f8, f9, f10⟩ := eleven_fr (hid_of HF6.out.g2)
      go_wp2_with fail
      rw [put11_eq]
      have HS2 := hid_of (set_eleven (v0 := .int .i64 s.vs[i].d.kind) (v1 := .string ⟨s.vs[i].d.name.toArray⟩) (v2 := .string ⟨s.vs[i].d.help.toArray⟩) (v3 := .slice xa s.vs[i].d.labels.length xc) (v4 := .int .i64 (hiOf s.vs[i].t)) (v5 := .int .u64 (loOf s.vs[i].t)) (v6 := .slice ya s.vs[i].cs.length yc) (v7 := .int .u64 (s.vs[i].n : Int)) (v8 := .float .f64 s.vs[i].sum) (v9 := .float .f64 s.vs[i].mn) (v10 := .float .f64 s.vs[i].mx) HF6.out.g2)
      obtain ⟨y0, y1, y2, y3, y4, y5, y6, y7, y8, y9, y10⟩ := eleven_cells HS2
      simp [bodyPost, results, go_sem, y0, y1, y2, y3, y4, y5, y6, y7, y8, y9, y10]
      exact ⟨xa, xc, ya, yc, by rw [HE.out], by rw [HE.out]; exact HG.out.l, by rw [HE.out]; exact HG.out.n, put11_bel HF6.out.bl (by omega) _ _ _ _ _ _ _ _ _ _ _⟩
    · have hlt' : ¬ (i : Int) < (s.vs.length : Int) := by omega
      have hS := HF.out
      rw [List.drop_eq_nil_of_le (by omega)] at hS
      have HE := hid_of (fnd_none (s := s) (n := n) (lb := lb) (HZ.out.trans hS))
      clear HF hS HZ
      obtain ⟨z0, z1, z2, z3, z4, z5, z6, z7, z8, z9, z10⟩ := eleven_cells (hid_of HB.out.g2)
      obtain ⟨f0, f1, f2, f3, f4, f5, f6, f7, f8, f9, f10⟩ := eleven_fr (hid_of HB.out.g2)
      go_wp2_with fail
      rw [put11_eq]
      have HS2 := hid_of (set_eleven (v0 := .int .i64 0) (v1 := .string ⟨#[]⟩) (v2 := .string ⟨#[]⟩) (v3 := .slice none 0 0) (v4 := .int .i64 0) (v5 := .int .u64 0) (v6 := .slice none 0 0) (v7 := .int .u64 0) (v8 := .float .f64 0) (v9 := .float .f64 0) (v10 := .float .f64 0) HB.out.g2)
      obtain ⟨y0, y1, y2, y3, y4, y5, y6, y7, y8, y9, y10⟩ := eleven_cells HS2
      simp [bodyPost, results, go_sem, y0, y1, y2, y3, y4, y5, y6, y7, y8, y9, y10]
      exact ⟨none, 0, none, 0, by rw [HE.out]; exact congrArg (fun q => Ending.returned (.tuple #[q, .int .i64 6])) vx_zero.symm, by rw [HE.out]; exact Or.inl ⟨rfl, rfl⟩, by rw [HE.out]; exact Or.inl ⟨rfl, rfl⟩, put11_bel HB.out.bl (by omega) _ _ _ _ _ _ _ _ _ _ _⟩
end Go.Proofs.YtckdkcnnfjbdmaaGreat
/- WHAT STANDS IN A SNAPSHOT, the document's: Quantile. Own work of the verifier. -/
namespace Go.Proofs.YtckdkcnnfjbdmaaGreat
open Go.RowKit Me

theorem fnd_w {s : Sn} (hs : SnW s) (n : List UInt8) (lb : List La.Lb) : VW (fndS s n lb).1 := by
  rcases fdI_cases (qV n lb) s.vs 0 with h | ⟨j, hj, h⟩
  · rw [fnd_none h]
    exact ⟨⟨by show _ ≤ (0 : Int); omega, by show (0 : Int) < _; omega⟩, (fun c hc => by cases hc), by show 0 ≤ _; omega, by show 0 < _; omega, by show 0 < _; omega, by show 0 < _; omega, by show 0 < _; omega, ⟨by show 0 ≤ _; omega, by show 0 ≤ _; omega, fun a ha => by cases ha⟩⟩
  · rw [Nat.zero_add] at h
    rw [fnd_at hj h]
    exact hs.vs _ (List.getElem_mem hj)
end Go.Proofs.YtckdkcnnfjbdmaaGreat
/- THE LAW'S few. Own work of the verifier. -/
namespace Go.Proofs.YtckdkcnnfjbdmaaGreat
open Go.RowKit Me

/-- What a value weighs. -/
def wgtV (x : Vl) : Nat := 1 + x.cs.length + x.d.labels.length
def wgtL (L : List Vl) : Nat := (L.map wgtV).sum
def wgtS (l : List Sn) : Nat := (l.map (fun s => wgtL s.vs)).sum
theorem wgt_mem {L : List Vl} {x : Vl} (h : x ∈ L) : x.cs.length + x.d.labels.length + 1 ≤ wgtL L := by
  induction L with
  | nil => cases h
  | cons a L ih =>
    unfold wgtL at *
    rw [List.map_cons, List.sum_cons]
    rcases List.mem_cons.1 h with rfl | k
    · unfold wgtV; omega
    · have := ih k; omega
theorem wgtL_len (L : List Vl) : L.length ≤ wgtL L := by
  induction L with
  | nil => simp [wgtL]
  | cons a L ih =>
    have e : wgtL (a :: L) = wgtV a + wgtL L := by unfold wgtL; rw [List.map_cons, List.sum_cons]
    have e2 : 1 ≤ wgtV a := by unfold wgtV; omega
    rw [e, List.length_cons]
    omega
theorem wgtL_take (L : List Vl) (k : Nat) (h : k < L.length) : wgtL (L.take (k + 1)) = wgtL (L.take k) + wgtV L[k] := by
  unfold wgtL
  rw [List.take_succ_eq_append_getElem h, List.map_append, List.sum_append]
  simp
theorem wgtL_takes (L : List Vl) (k : Nat) : wgtL (L.take k) ≤ wgtL L := by
  unfold wgtL
  conv => rhs; rw [← List.take_append_drop k L]
  rw [List.map_append, List.sum_append]
  omega
theorem wgtS_take (l : List Sn) (i : Nat) (h : i < l.length) : wgtS (l.take (i + 1)) = wgtS (l.take i) + wgtL l[i].vs := by
  unfold wgtS
  rw [List.take_succ_eq_append_getElem h, List.map_append, List.sum_append]
  simp
theorem wgtS_takes (l : List Sn) (i : Nat) : wgtS (l.take i) ≤ wgtS l := by
  unfold wgtS
  conv => rhs; rw [← List.take_append_drop i l]
  rw [List.map_append, List.sum_append]
  omega
/-- A row of snapshots. -/
def RowS (W : World) (b : Nat) (l : List Sn) : Prop := ∀ i (h : i < l.length), ∃ u, W.cell? ⟨b, i * 3, none⟩ = some (.int .i64 l[i].p) ∧ W.cell? ⟨b, i * 3 + 1, none⟩ = some u ∧ W.cell? ⟨b, i * 3 + 2, none⟩ = some (.int .u64 (l[i].r : Int)) ∧ SV W u l[i].vs
theorem sizeSn (W : World) : (sizeOf 26).run Tryz.prog W = .ok 3 W := by simp [sizeOf]; rfl
theorem index_sn (b len cap j : Nat) (z : Int) (hz : z = (j : Int)) (hj : j < len) (W : World) :
    (Instr.indexAt 67 (.slice (some ⟨b, 0, none⟩) len cap) (.int .i64 z)).run Tryz.prog W = .ok (.pointer (some ⟨b, j * 3, none⟩)) W := by
  subst hz
  have he : Tryz.prog.elem 67 = 26 := by simp [Program.elem, Tryz.underlying67]
  rw [run_indexAt_slice W 67 ⟨b, 0, none⟩ len cap .i64 (j : Int) (by rw [he]; exact Tryz.underlying67), if_pos (by omega), he, sizeSn]
  simp [Addr.add]
  omega
set_option maxRecDepth 100000 in
set_option maxHeartbeats 8000000 in
theorem few_any (b cap : Nat) (l : List Sn) (hl : l.length ≤ 3) (w : World) (hr : RowS w b l) (hw : ∀ s ∈ l, ∀ x ∈ s.vs, x.cs.length ≤ 8796093022208 ∧ x.d.labels.length ≤ 4398046511104) :
    Calls Tryz.prog 15 #[.slice (some ⟨b, 0, none⟩) l.length cap] w fun e w' => e = .returned (.bool (decide (wgtS l ≤ 1048576))) ∧ Below w.heap.size w w' := by
  have HR := hid_of hr
  have HW := hid_of hw
  obtain ⟨Q, hQ⟩ : ∃ Q, Q = decide (wgtS l ≤ 1048576) := ⟨_, rfl⟩
  rw [← hQ]
  have HQ := hid_of hQ
  have H0 : Hid ((1048576 : Int) = 1048576 - (wgtS (l.take 0) : Int) ∧ (0 : Int) ≤ 1048576 ∨ (1048576 : Int) < 0 ∧ 1048576 < wgtS l) := Or.inl ⟨rfl, by decide⟩
  clear hr hw hQ
  go_enter Tryz.func15, Tryz.ntmps15
  go_upto_region 3 with fail
  go_loopw [3, 4] (fun x y W => ∃ (acc : Int) (i n : Nat), i ≤ l.length ∧ -281474976710656 ≤ acc ∧ acc ≤ 1048576 ∧ x = .int .i64 acc ∧ y = .int .i64 (i : Int) ∧ W = w.drewN n ∧ Hid (acc = 1048576 - (wgtS (l.take i) : Int) ∧ 0 ≤ acc ∨ acc < 0 ∧ 1048576 < wgtS l)) (fun _ y _ => l.length - (intOf y).toNat)
  case atStart => exact ⟨1048576, 0, 0, by omega, by omega, by omega, rfl, rfl, rfl, H0⟩
  case round =>
    clear H0
    obtain ⟨acc, i, n, hi, ha1, ha2, rfl, rfl, rfl, HI⟩ := hrel
    by_cases hlt : i < l.length
    · have hlt' : (i : Int) < (l.length : Int) := by omega
      have hix := index_sn b l.length cap i (i : Int) rfl hlt
      obtain ⟨u, c0, c1, c2, hs⟩ := HR.out i hlt
      obtain ⟨ao, vb, vo, vcap, rfl, hao, hvc, hvc2, hv⟩ := hs.open
      have HV := hid_of hv
      have HWi := hid_of (HW.out _ (List.getElem_mem hlt))
      have HI0 : Hid (acc = 1048576 - ((wgtS (l.take i) + wgtL (l[i].vs.take 0) : Nat) : Int) ∧ 0 ≤ acc ∨ acc < 0 ∧ 1048576 < wgtS l) := HI.out
      have HTk := hid_of (wgtS_take l i hlt)
      have HTs := hid_of (wgtS_takes l (i + 1))
      clear HI hs hv HW
      go_upto_region 6 with fail
      go_loopw [3, 5] (fun x y W => ∃ (acc : Int) (k m : Nat), k ≤ l[i].vs.length ∧ -281474976710656 ≤ acc ∧ acc ≤ 1048576 ∧ x = .int .i64 acc ∧ y = .int .i64 (k : Int) ∧ W = w.drewN m ∧ Hid (acc = 1048576 - ((wgtS (l.take i) + wgtL (l[i].vs.take k) : Nat) : Int) ∧ 0 ≤ acc ∨ acc < 0 ∧ 1048576 < wgtS l)) (fun _ y _ => l[i].vs.length - (intOf y).toNat)
      case atStart => exact ⟨acc, 0, n, by omega, ha1, ha2, rfl, rfl, rfl, HI0⟩
      case round =>
        clear HI0
        obtain ⟨acc, k, m, hk, hb1, hb2, rfl, rfl, rfl, HI⟩ := hrel
        by_cases hkt : k < l[i].vs.length
        · have hkt' : (k : Int) < (l[i].vs.length : Int) := by omega
          by_cases hac : 0 ≤ acc
          · obtain rfl := hao (by intro e; rw [e] at hkt; simp at hkt)
            have hiy := index_val vb vo l[i].vs.length vcap k (k : Int) rfl hkt
            obtain ⟨lx, cx, g1, g2, g3⟩ := HV.out k hkt
            obtain ⟨xa, xc, rfl⟩ := g2.form
            obtain ⟨ya, yc, rfl⟩ := g3.form
            obtain ⟨q1, q2⟩ := HWi.out _ (List.getElem_mem hkt)
            have hr3 := g1.c3
            have hr6 := g1.c6
            have HTv := hid_of (wgtL_take l[i].vs k hkt)
            have HTl := hid_of (wgtL_takes l[i].vs (k + 1))
            obtain ⟨C, hC⟩ : ∃ C, l[i].vs[k].cs.length = C := ⟨_, rfl⟩
            obtain ⟨D, hD⟩ : ∃ D, l[i].vs[k].d.labels.length = D := ⟨_, rfl⟩
            have HI2 : Hid (acc - (1 + (C : Int) + (D : Int)) = 1048576 - ((wgtS (l.take i) + wgtL (l[i].vs.take (k + 1)) : Nat) : Int) ∧ 0 ≤ acc - (1 + (C : Int) + (D : Int)) ∨ acc - (1 + (C : Int) + (D : Int)) < 0 ∧ 1048576 < wgtS l) := by
              have e1 := HTv.out
              have e2 := HTk.out
              have e3 := HTs.out
              have e4 := HTl.out
              unfold wgtV at e1
              rw [hC, hD] at e1
              unfold Hid
              rcases HI.out with q | q <;> omega
            rw [hC] at hr6 q1
            rw [hD] at hr3 q2
            clear g1 g2 g3 hC hD HI HTv HTl HTk HTs
            obtain ⟨acc2, hacc2⟩ : ∃ acc2, acc - (1 + (C : Int) + (D : Int)) = acc2 := ⟨_, rfl⟩
            have w1 : IntKind.i64.wrap (1 + (C : Int)) = 1 + (C : Int) := by rw [IntKind.wrap_i64]; omega
            have w2 : IntKind.i64.wrap (1 + (C : Int) + (D : Int)) = 1 + (C : Int) + (D : Int) := by rw [IntKind.wrap_i64]; omega
            have w3 : IntKind.i64.wrap (acc - (1 + (C : Int) + (D : Int))) = acc2 := by rw [IntKind.wrap_i64]; omega
            have hb3 : Hid (-281474976710656 ≤ acc2 ∧ acc2 ≤ 1048576) := by unfold Hid; omega
            rw [hacc2] at HI2
            clear hacc2
            go_upto_region 8 with fail
            go_region
            go_wp2_with fail
            exact ⟨⟨acc2, k + 1, m + 1, by omega, hb3.out.1, hb3.out.2, rfl, by go_num, rfl, HI2⟩, by simp [intOf]; omega⟩
          · have hac' : ¬ 0 ≤ acc := hac
            as_aux_lemma =>
              go_wp2_with fail
              exact ⟨⟨acc, i + 1, m, by omega, hb1, hb2, rfl, by go_num, rfl, by
                rcases HI.out with q | q
                · omega
                · exact Or.inr q⟩, by simp [intOf]; omega⟩
        · have hkt' : ¬ (k : Int) < (l[i].vs.length : Int) := by omega
          have HI2 : Hid (acc = 1048576 - (wgtS (l.take (i + 1)) : Int) ∧ 0 ≤ acc ∨ acc < 0 ∧ 1048576 < wgtS l) := by
            have := HI.out
            rw [show l[i].vs.take k = l[i].vs from List.take_of_length_le (by omega), ← HTk.out] at this
            exact this
          clear HI
          as_aux_lemma =>
            go_wp2_with fail
            exact ⟨⟨acc, i + 1, m, by omega, hb1, hb2, rfl, by go_num, rfl, HI2⟩, by simp [intOf]; omega⟩
    · have hlt' : ¬ (i : Int) < (l.length : Int) := by omega
      have HE : Hid (Q = decide (0 ≤ acc)) := by
        unfold Hid
        rw [HQ.out]
        apply decide_eq_decide.2
        have := HI.out
        rw [List.take_of_length_le (by omega)] at this
        rcases this with q | q <;> omega
      clear HI
      as_aux_lemma =>
        go_wp2_with fail
        go_ret
        exact ⟨retB HE.out.symm, bel_drewNB (Below.refl _ _) n⟩
end Go.Proofs.YtckdkcnnfjbdmaaGreat
/- THE DOOR of layer 13: what is asked, opened; how many labels there may be. Own work of the verifier. -/
namespace Go.Proofs.YtckdkcnnfjbdmaaGreat
open Go.ChangeShapes Go.WideShapes Go.ChangeAt Go.RowKit Go.Joins

theorem bytesLb : Tryz.prog.bytesOf 79 = 32 := by kernel_rfl
theorem cellsAsk : Tryz.prog.cellsOf 36 = 10 := by kernel_rfl
theorem typesAsk : Tryz.prog.cellTypes Tryz.prog.depth 36 = some [3, 23, 24, 3, 23, 24, 9, 34, 2, 2] := by kernel_rfl
/-- No value has more labels than memory bears. -/
def SnL (s : Sn) : Prop := ∀ x ∈ s.vs, x.d.labels.length ≤ 4398046511104 ∧ x.d.help.length ≤ 140737488351232
section
variable {H : Type} {enc : TypeId × Value → H}
set_option maxRecDepth 100000 in
/-- Labels, opened. -/
theorem open_labels2 {W : World} {fuel : Nat} {v : Value} {x : DataW H × List MemPlace} (h : DataW.trod enc Tryz.prog W 0 (fun _ => true) true fuel 34 [v] = some x) (hw : (x.1.weights Tryz.prog 34).all (· ≤ reachBytes) = true) :
    ∃ L, SLb W v L ∧ (∀ a ∈ L, a.1.length ≤ 140737488351232 ∧ a.2.length ≤ 140737488351232) ∧ L.length ≤ 4398046511104 := by
  rcases Deep.open_slice_pairs Tryz.underlying34 Tryz.underlying79 cellsLb rfl rfl cellsS cellsS h with ⟨hcs, _⟩ | ⟨a, len, cap, m, n, V0, V1, D0, D1, P0, P1, hcs, _, hl, hm, hmm, rfl, hx⟩
  · simp at hcs
    subst hcs
    exact ⟨[], Or.inl ⟨rfl, rfl⟩, (fun a ha => by cases ha), Nat.zero_le _⟩
  · simp at hcs
    subst hcs
    simp only [if_true] at hmm
    subst hmm
    have hcap : m ≤ 9223372036854775807 := by unfold maxLen at hm; omega
    have key : ∀ i, i < m → ∃ (s t : List UInt8), V0 i = .string ⟨s.toArray⟩ ∧ V1 i = .string ⟨t.toArray⟩ ∧ D0 i = .lit (.string s) ∧ D1 i = .lit (.string t) := fun i hi => by
      obtain ⟨_, _, h0, h1⟩ := hx i hi
      obtain ⟨s, e0, f0, _⟩ := DataW.trod_string Tryz.underlying9 h0
      obtain ⟨t, e1, f1, _⟩ := DataW.trod_string Tryz.underlying9 h1
      simp at e0 e1
      exact ⟨s.data.toList, t.data.toList, e0, e1, (Prod.mk.inj f0).1, (Prod.mk.inj f1).1⟩
    have hLlen : ((List.range len).map fun i => ((strV (V0 i), strV (V1 i)) : La.Lb)).length = len := by simp
    have hnum : len ≤ 4398046511104 := by
      simp only [DataW.weights, Tryz.underlying34, bytesLb, List.all_cons, Bool.and_eq_true, decide_eq_true_eq, List.length_map, List.length_range] at hw
      have := hw.1
      unfold reachBytes at this
      omega
    have hbnd : ∀ c ∈ ((List.range len).map fun i => ((strV (V0 i), strV (V1 i)) : La.Lb)), c.1.length ≤ 140737488351232 ∧ c.2.length ≤ 140737488351232 := fun c hc => by
      obtain ⟨i, hi, rfl⟩ := List.mem_map.1 hc
      have hi' := List.mem_range.1 hi
      obtain ⟨s, t, e0, e1, e2, e3⟩ := key i (by omega)
      simp only [DataW.weights, Tryz.underlying34] at hw
      have hin : ∀ k, k ∈ (DataW.agg [D0 i, D1 i] : DataW H).weights Tryz.prog 79 → k ≤ reachBytes := fun k hk => all_mem hw (List.mem_cons_of_mem _ (List.mem_append_left _ (w_aggs Tryz.prog 79 (fun i => DataW.agg [D0 i, D1 i]) len i hi' k hk)))
      rw [e2, e3] at hin
      simp only [DataW.weights, Tryz.underlying79, DataW.weightsEach, List.map_cons, List.map_nil] at hin
      unfold reachBytes at hin
      simp only [e0, e1]
      have es : s.length ≤ 140737488351232 := hin s.length (by simp)
      have et : t.length ≤ 140737488351232 := hin t.length (by simp)
      exact ⟨es, et⟩
    refine ⟨_, ?_, hbnd, by rw [hLlen]; exact hnum⟩
    rcases Nat.eq_zero_or_pos len with k0 | k0
    · subst k0
      exact Or.inr (Or.inr ⟨a, m, rfl, hcap, rfl⟩)
    · obtain ⟨b, off, spot⟩ := a
      have hspot : spot = none := by
        have := World.cell?_spot (hx 0 (by omega)).1
        simpa [Addr.add] using this
      subst hspot
      refine Or.inr (Or.inl ⟨b, off, m, by rw [hLlen], by rw [hLlen]; exact hl, hcap, fun i hi => ?_⟩)
      rw [hLlen] at hi
      obtain ⟨c0, c1, _, _⟩ := hx i (by omega)
      obtain ⟨s, t, e0, e1, _⟩ := key i (by omega)
      rw [Addr.add_lit] at c0 c1
      simp only [List.getElem_map, List.getElem_range]
      rw [e0] at c0 ⊢
      rw [e1] at c1 ⊢
      exact ⟨c0, by rw [← Nat.add_assoc] at c1; exact c1⟩
set_option maxRecDepth 100000 in
/-- A value, opened. -/
theorem open_value2 {W : World} {fuel : Nat} {cs : List Value} {x : DataW H × List MemPlace} (h : DataW.trod enc Tryz.prog W 0 (fun _ => true) true fuel 45 cs = some x) (hw : (x.1.weights Tryz.prog 45).all (· ≤ reachBytes) = true) :
    ∃ (y : Vl) (lv cv : Value), cs = (vc y lv cv).toList ∧ SLb W lv y.d.labels ∧ SN W cv y.cs ∧ VW y ∧ (y.d.labels.length ≤ 4398046511104 ∧ y.d.help.length ≤ 140737488351232) := by
  obtain ⟨xs, n, _, hx, hl, hlen, hfs⟩ := DataW.trod_struct Tryz.underlying45 h
  rw [cellsV] at hl
  match cs, hl, xs, hlen with
  | [c0, c1, c2, c3, c4, c5, c6, c7, c8, c9, c10], _, [y0, y1, y2, y3, y4, y5, y6], _ =>
    have g0 := hfs 0 _ rfl
    have g1 := hfs 1 _ rfl
    have g2 := hfs 2 _ rfl
    have g3 := hfs 3 _ rfl
    have g4 := hfs 4 _ rfl
    have g5 := hfs 5 _ rfl
    have g6 := hfs 6 _ rfl
    simp [cellsD, cellsBI, cellsSC, cellsU64, cellsF] at g0 g1 g2 g3 g4 g5 g6
    have hxx := Prod.ext_iff.1 hx
    rw [hxx.1] at hw
    simp only [List.map_cons, List.map_nil, DataW.weights, Tryz.underlying45, DataW.weightsEach, List.all_append, Bool.and_eq_true] at hw
    obtain ⟨k0, k1, k2, k3, k4, k5, k6, _⟩ := hw
    obtain ⟨zs, n0, _, hz, _, hzl, hzf⟩ := DataW.trod_struct Tryz.underlying39 g0
    match zs, hzl with
    | [z0, z1, z2, z3], _ =>
      have f0 := hzf 0 _ rfl
      have f1 := hzf 1 _ rfl
      have f2 := hzf 2 _ rfl
      have f3 := hzf 3 _ rfl
      simp [cellsInt, cellsS, cellsSL] at f0 f1 f2 f3
      have hzz := Prod.ext_iff.1 hz
      rw [hzz.1] at k0
      simp only [List.map_cons, List.map_nil, DataW.weights, Tryz.underlying39, DataW.weightsEach, List.all_append, Bool.and_eq_true] at k0
      obtain ⟨_, q1, q2, q3, _⟩ := k0
      obtain ⟨kd, e0, _, _⟩ := DataW.trod_int Tryz.underlying3 f0
      obtain ⟨s1, e1, r1, _⟩ := DataW.trod_string Tryz.underlying9 f1
      obtain ⟨s2, e2, r2, _⟩ := DataW.trod_string Tryz.underlying9 f2
      obtain ⟨L, sL, bL, nL⟩ := open_labels2 f3 q3
      obtain ⟨us, n1, _, _, _, hul, huf⟩ := DataW.trod_struct Tryz.underlying41 g1
      match us, hul with
      | [u0, u1], _ =>
        have t0 := huf 0 _ rfl
        have t1 := huf 1 _ rfl
        simp [cellsI64, cellsU64] at t0 t1
        obtain ⟨hi, e4, _, w4⟩ := DataW.trod_int Tryz.underlying2 t0
        obtain ⟨lo', e5, _, w5⟩ := DataW.trod_int Tryz.underlying24 t1
        obtain ⟨C, sC, wC, lC⟩ := open_counts g2 k2
        obtain ⟨nn, e7, _, w7⟩ := DataW.trod_int Tryz.underlying24 g3
        obtain ⟨a8, e8, w8⟩ := trod_f64 Tryz.underlying43 g4
        obtain ⟨a9, e9, w9⟩ := trod_f64 Tryz.underlying43 g5
        obtain ⟨a10, e10, w10⟩ := trod_f64 Tryz.underlying43 g6
        simp at e0 e1 e2 e4 e5 e7 e8 e9 e10
        subst e0 e1 e2 e4 e5 e7 e8 e9 e10
        obtain ⟨l5, rfl, hl5⟩ := nat_u64 w5
        obtain ⟨n7, rfl, hn7⟩ := nat_u64 w7
        have hwf : Wf hi (l5 : Int) := ⟨(range_i64 w4).1, by have := (range_i64 w4).2; omega, by omega, by omega⟩
        rw [r1] at q1
        rw [r2] at q2
        unfold reachBytes at q1 q2
        simp [DataW.weights] at q1 q2
        refine ⟨⟨⟨kd, s1.data.toList, s2.data.toList, L⟩, val hi (l5 : Int), C, n7, a8, a9, a10⟩, c3, c6, ?_, sL, sC, ?_, nL, by show s2.data.toList.length ≤ _; have e : s2.data.toList.length = s2.size := rfl; omega⟩
        · show _ = [_, _, _, _, Value.int .i64 (hiOf (val hi (l5 : Int))), Value.int .u64 (loOf (val hi (l5 : Int))), _, _, _, _, _]
          rw [hiOf_val hwf, loOf_val hwf]
        · have hr := range_i64 w4
          refine ⟨⟨?_, ?_⟩, wC, lC, hn7, w8, w9, w10, ⟨?_, ?_, fun a ha => ?_⟩⟩
          · show _ ≤ val hi (l5 : Int)
            unfold val
            omega
          · show val hi (l5 : Int) < _
            unfold val
            omega
          · show s1.data.toList.length ≤ _
            have e : s1.data.toList.length = s1.size := rfl
            omega
          · show s2.data.toList.length ≤ _
            have e : s2.data.toList.length = s2.size := rfl
            omega
          · have := bL a ha
            omega
set_option maxRecDepth 100000 in
/-- Values, opened. -/
theorem open_values2 {W : World} {fuel : Nat} {v : Value} {x : DataW H × List MemPlace} (hsp : ∀ a len cap, v = .slice (some a) len cap → a.spot = none) (h : DataW.trod enc Tryz.prog W 0 (fun _ => true) true fuel 23 [v] = some x) (hw : (x.1.weights Tryz.prog 23).all (· ≤ reachBytes) = true) :
    ∃ L, SV W v L ∧ ∀ y ∈ L, VW y ∧ (y.d.labels.length ≤ 4398046511104 ∧ y.d.help.length ≤ 140737488351232) := by
  rcases Deep.open_slice Tryz.underlying23 h with ⟨hcs, _⟩ | ⟨a, len, cap, m, n, D, Pl, hcs, _, hl, hm, hmm, rfl, hx⟩
  · simp at hcs
    subst hcs
    exact ⟨[], Or.inl ⟨rfl, rfl⟩, fun y hy => by cases hy⟩
  · simp at hcs
    subst hcs
    simp only [if_true] at hmm
    subst hmm
    have hspot := hsp _ _ _ rfl
    obtain ⟨b, off, spot⟩ := a
    simp at hspot
    subst hspot
    simp only [DataW.weights, Tryz.underlying23] at hw
    have each : ∀ i, i < len → ∃ y : Vl, (∃ lv cv, C11 W b (off + i * 11) y lv cv ∧ SLb W lv y.d.labels ∧ SN W cv y.cs) ∧ VW y ∧ (y.d.labels.length ≤ 4398046511104 ∧ y.d.help.length ≤ 140737488351232) := fun i hi => by
      obtain ⟨cs', h1, h2⟩ := hx i (by omega)
      obtain ⟨y, lv, cv, rfl, k1, k2, k3⟩ := open_value2 h2 (List.all_eq_true.2 fun k hk => List.all_eq_true.1 hw k (List.mem_cons_of_mem _ (List.mem_append_left _ (w_aggs Tryz.prog 45 D len i hi k hk))))
      obtain ⟨_, _, h3⟩ := World.cells?_some h1
      rw [cellsV] at h3
      have hc : ∀ j, j < 11 → W.cell? ⟨b, off + i * 11 + j, none⟩ = (vc y lv cv).toList[j]? := fun j hj => by
        have := h3 j hj
        rw [Addr.add_lit, Addr.add_lit] at this
        exact this
      exact ⟨y, ⟨lv, cv, ⟨hc 0 (by decide), hc 1 (by decide), hc 2 (by decide), hc 3 (by decide), hc 4 (by decide), hc 5 (by decide), hc 6 (by decide), hc 7 (by decide), hc 8 (by decide), hc 9 (by decide), hc 10 (by decide)⟩, k1, k2⟩, k3⟩
    obtain ⟨f, hf⟩ : ∃ f : Nat → Vl, ∀ i, i < len → (∃ lv cv, C11 W b (off + i * 11) (f i) lv cv ∧ SLb W lv (f i).d.labels ∧ SN W cv (f i).cs) ∧ VW (f i) ∧ ((f i).d.labels.length ≤ 4398046511104 ∧ (f i).d.help.length ≤ 140737488351232) := by
      refine ⟨fun i => if hi : i < len then Classical.choose (each i hi) else zV0, fun i hi => ?_⟩
      simp only [hi, dif_pos]
      exact Classical.choose_spec (each i hi)
    have hlen : ((List.range len).map f).length = len := by simp
    refine ⟨(List.range len).map f, Or.inr ⟨b, off, m, by rw [hlen], by rw [hlen]; exact hl, by unfold maxLen at hm; omega, fun i hi => ?_⟩, fun y hy => ?_⟩
    · rw [hlen] at hi
      simp only [List.getElem_map, List.getElem_range]
      exact (hf i hi).1
    · obtain ⟨i, hi, rfl⟩ := List.mem_map.1 hy
      exact (hf i (List.mem_range.1 hi)).2
set_option maxRecDepth 100000 in
/-- The cells of a snapshot, opened. -/
theorem open_snapc2 {W : World} {fuel : Nat} {cs : List Value} {x : DataW H × List MemPlace} (hsp : ∀ a len cap, cs[1]? = some (.slice (some a) len cap) → a.spot = none) (h : DataW.trod enc Tryz.prog W 0 (fun _ => true) true fuel 26 cs = some x) (hw : (x.1.weights Tryz.prog 26).all (· ≤ reachBytes) = true) :
    ∃ (s : Sn) (u : Value), cs = [.int .i64 s.p, u, .int .u64 (s.r : Int)] ∧ SV W u s.vs ∧ SnW s ∧ SnL s := by
  obtain ⟨xs, n, _, hx, hl, hlen, hfs⟩ := DataW.trod_struct Tryz.underlying26 h
  rw [cellsSn] at hl
  match cs, hl, xs, hlen with
  | [c0, c1, c2], _, [y0, y1, y2], _ =>
    have g0 := hfs 0 _ rfl
    have g1 := hfs 1 _ rfl
    have g2 := hfs 2 _ rfl
    simp [cellsInt, cellsSV, cellsU64] at g0 g1 g2
    have hxx := Prod.ext_iff.1 hx
    rw [hxx.1] at hw
    simp only [List.map_cons, List.map_nil, DataW.weights, Tryz.underlying26, DataW.weightsEach, List.all_append, Bool.and_eq_true] at hw
    obtain ⟨k0, k1, k2, _⟩ := hw
    obtain ⟨p, e0, _, _⟩ := DataW.trod_int Tryz.underlying3 g0
    obtain ⟨r, e2, _, w2⟩ := DataW.trod_int Tryz.underlying24 g2
    obtain ⟨L, sL, wL⟩ := open_values2 (fun a len cap e => hsp a len cap (by rw [e]; rfl)) g1 k1
    simp at e0 e2
    subst e0 e2
    obtain ⟨r, rfl, hr⟩ := nat_u64 w2
    exact ⟨⟨p, L, r⟩, c1, rfl, sL, ⟨fun y hy => (wL y hy).1, hr⟩, fun y hy => (wL y hy).2⟩
set_option maxRecDepth 100000 in
/-- What is asked, opened. -/
theorem open_asked {W : World} {base : Nat} {v : Value} {d : DataW H} {pl : List MemPlace} (hv : Value.okWide Tryz.prog W .any base 36 v) (h : DataW.Trod enc Tryz.prog W 0 (fun _ => true) true 36 v d pl) (hw : (d.weights Tryz.prog 36).all (· ≤ reachBytes) = true) :
    ∃ (A B : Sn) (ua ub lv : Value) (n : List UInt8) (lb : List La.Lb) (num den : Int), v = .agg #[.int .i64 A.p, ua, .int .u64 (A.r : Int), .int .i64 B.p, ub, .int .u64 (B.r : Int), .string ⟨n.toArray⟩, lv, .int .i64 num, .int .i64 den] ∧ SV W ua A.vs ∧ SnW A ∧ SnL A ∧ SV W ub B.vs ∧ SnW B ∧ SnL B ∧ SLb W lv lb ∧ den < 9223372036854775808 := by
  obtain ⟨cs, rfl, hsz⟩ := okWide_struct Tryz.underlying36 hv
  obtain ⟨fuel, hf⟩ := h
  obtain ⟨xs, m, _, hx, _, hlen, hfs⟩ := DataW.trod_struct Tryz.underlying36 hf
  rw [cellsAsk] at hsz
  obtain ⟨l⟩ := cs
  match l, hsz, xs, hlen with
  | [c0, c1, c2, c3, c4, c5, c6, c7, c8, c9], _, [y0, y1, y2, y3, y4, y5], _ =>
    have g0 := hfs 0 _ rfl
    have g1 := hfs 1 _ rfl
    have g2 := hfs 2 _ rfl
    have g3 := hfs 3 _ rfl
    have g4 := hfs 4 _ rfl
    have g5 := hfs 5 _ rfl
    simp [Value.cells, cellsSn, cellsS, cellsSL, cellsI64] at g0 g1 g2 g3 g4 g5
    have hdd := (Prod.mk.inj hx).1
    rw [hdd] at hw
    simp only [List.map_cons, List.map_nil, DataW.weights, Tryz.underlying36, DataW.weightsEach, List.all_append, Bool.and_eq_true] at hw
    obtain ⟨k0, k1, _, k3, _⟩ := hw
    obtain ⟨A, ua, eA, sA, wA, lA⟩ := open_snapc2 (fun a len cap e => spot_field Tryz.underlying36 hv typesAsk (i := 1) rfl Tryz.underlying23 (by simpa using e)) g0 k0
    obtain ⟨B, ub, eB, sB, wB, lB⟩ := open_snapc2 (fun a len cap e => spot_field Tryz.underlying36 hv typesAsk (i := 4) rfl Tryz.underlying23 (by simpa using e)) g1 k1
    obtain ⟨s, e6, _, _⟩ := DataW.trod_string Tryz.underlying9 g2
    obtain ⟨L, sL, _, _⟩ := open_labels2 g3 k3
    obtain ⟨num, e8, _, _⟩ := DataW.trod_int Tryz.underlying2 g4
    obtain ⟨den, e9, _, w9⟩ := DataW.trod_int Tryz.underlying2 g5
    simp at eA eB e6 e8 e9
    obtain ⟨a0, a1, a2⟩ := eA
    obtain ⟨b0, b1, b2⟩ := eB
    subst a0 a1 a2 b0 b1 b2 e6 e8 e9
    exact ⟨A, B, c1, c4, c7, s.data.toList, L, num, den, rfl, sA, wA, lA, sB, wB, lB, sL, (range_i64 w9).2⟩
end
end Go.Proofs.YtckdkcnnfjbdmaaGreat
/- SnapFinds: the walk. Own work of the verifier. -/
namespace Go.Proofs.YtckdkcnnfjbdmaaGreat
open Go.RowKit Me

theorem sF_refl (x : Nat) : Re.sF x x = true := by rw [Re.sF_eq]; simp
theorem smV_refl (x : Vl) : smV x x = true := by
  unfold smV
  simp [sF_refl]
theorem smL_refl (L : List Vl) : smL L L = true := by
  induction L with
  | nil => rfl
  | cons x L ih => rw [smL, smV_refl, ih]; rfl
theorem smS_refl (s : Sn) : smS s s = true := by
  unfold smS
  simp [smL_refl]
theorem ten_cells {W : World} {b : Nat} {a0 a1 a2 a3 a4 a5 a6 a7 a8 a9 : Value} {t : TypeId} (h : W.heap[b]? = some (.cells #[a0, a1, a2, a3, a4, a5, a6, a7, a8, a9] t (0, 0))) : W.cell? ⟨b, 0, none⟩ = some a0 ∧ W.cell? ⟨b, 1, none⟩ = some a1 ∧ W.cell? ⟨b, 2, none⟩ = some a2 ∧ W.cell? ⟨b, 3, none⟩ = some a3 ∧ W.cell? ⟨b, 4, none⟩ = some a4 ∧ W.cell? ⟨b, 5, none⟩ = some a5 ∧ W.cell? ⟨b, 6, none⟩ = some a6 ∧ W.cell? ⟨b, 7, none⟩ = some a7 ∧ W.cell? ⟨b, 8, none⟩ = some a8 ∧ W.cell? ⟨b, 9, none⟩ = some a9 := by
  refine ⟨?_, ?_, ?_, ?_, ?_, ?_, ?_, ?_, ?_, ?_⟩ <;> simp [World.cell?, h]
/-- What is asked, in a block of its own. -/
structure Ak (w : World) (A B : Sn) (ua ub lv : Value) (n : List UInt8) (num den : Int) (W : World) : Prop where
  h : W.heap[w.heap.size]? = some (.cells #[.int .i64 A.p, ua, .int .u64 (A.r : Int), .int .i64 B.p, ub, .int .u64 (B.r : Int), .string ⟨n.toArray⟩, lv, .int .i64 num, .int .i64 den] 36 (0, 0))
  bl : Below w.heap.size w W
theorem Ak.below {w W W1 : World} {A B : Sn} {ua ub lv : Value} {n : List UInt8} {num den : Int} (h : Ak w A B ua ub lv n num den W) (hb : Below W.heap.size W W1) : Ak w A B ua ub lv n num den W1 := ⟨hkN h.h hb, bt h.bl hb⟩
/-- A value that was told, in a block of its own. -/
structure Vb (b : Nat) (V : Vl) (lv cv : Value) (W : World) : Prop where
  x : B11 W b V lv cv
  l : SLb W lv V.d.labels
  c : SN W cv V.cs
theorem Vb.below {b : Nat} {V : Vl} {lv cv : Value} {W W1 : World} (h : Vb b V lv cv W) (hb : Below W.heap.size W W1) : Vb b V lv cv W1 := ⟨h.x.below hb, h.l.below hb, h.c.below hb⟩
theorem RowS.two {W : World} {A B : Sn} {ua ub : Value} (hA : SV W ua A.vs) (hB : SV W ub B.vs) (t : TypeId) : RowS (W.alloc (.cells #[.int .i64 A.p, ua, .int .u64 (A.r : Int), .int .i64 B.p, ub, .int .u64 (B.r : Int)] t)) W.heap.size [A, B] := by
  have hb := bel1 W (.cells #[.int .i64 A.p, ua, .int .u64 (A.r : Int), .int .i64 B.p, ub, .int .u64 (B.r : Int)] t)
  intro i hi
  match i, hi with
  | 0, _ => exact ⟨ua, by simp [go_sem], by simp [go_sem], by simp [go_sem], hA.below hb⟩
  | 1, _ => exact ⟨ub, by simp [go_sem], by simp [go_sem], by simp [go_sem], hB.below hb⟩
end Go.Proofs.YtckdkcnnfjbdmaaGreat
