/- WHICH SNAPSHOTS MAY BE: checkValue, the code's. Own work of the verifier. -/
import Derived.Test.YtgkdggcpplmnaaaGreatZAP
namespace Go.Proofs.YtgkdggcpplmnaaaGreat
open Go.RowKit Me

/-- What is wrong with a value, behind the one ahead of it. -/
noncomputable def chk1 (p : Int) (q : Option Vl) (x : Vl) : Int :=
  if La.chkD x.d ≠ 0 then La.chkD x.d else if holdB p x = false then 2 else match q with | none => 0 | some y => plV y x
noncomputable def chkV (p : Int) : Option Vl → List Vl → Nat → Int × Nat
  | _, [], _ => (0, 0)
  | q, x :: r, i => if chk1 p q x ≠ 0 then (chk1 p q x, i) else chkV p (some x) r (i + 1)
/-- A snapshot's error, and at which value. -/
noncomputable def chkS (s : Sn) : Int × Nat := if s.p < 1 ∨ 14 < s.p then (1, 0) else if 256 < s.vs.length then (3, 256) else chkV s.p none s.vs 0
def prvV (L : List Vl) (i : Nat) : Option Vl := (L.take i).getLast?
theorem prvV_succ (L : List Vl) (i : Nat) (h : i < L.length) : prvV L (i + 1) = some L[i] := by
  unfold prvV
  rw [List.take_succ_eq_append_getElem h, List.getLast?_append]
  simp
theorem chkV_drop (p : Int) (L : List Vl) (i : Nat) (h : i < L.length) : chkV p (prvV L i) (L.drop i) i = if chk1 p (prvV L i) L[i] ≠ 0 then (chk1 p (prvV L i) L[i], i) else chkV p (prvV L (i + 1)) (L.drop (i + 1)) (i + 1) := by
  rw [List.drop_eq_getElem_cons h, chkV, prvV_succ L i h]
theorem infoV : (Tryz.prog.info? 45).map (fun i => (i.zero, i.size, i.bytes)) = some (some (.agg #[.int .i64 0, .string ⟨#[]⟩, .string ⟨#[]⟩, .slice none 0 0, .int .i64 0, .int .u64 0, .slice none 0 0, .int .u64 0, .float .f64 0, .float .f64 0, .float .f64 0]), 11, 136) := by kernel_rfl
theorem sizeV (W : World) : (sizeOf 45).run Tryz.prog W = .ok 11 W := by simp [sizeOf]; rfl
theorem index_val (b o len cap j : Nat) (z : Int) (hz : z = (j : Int)) (hj : j < len) (W : World) :
    (Instr.indexAt 28 (.slice (some ⟨b, o, none⟩) len cap) (.int .i64 z)).run Tryz.prog W = .ok (.pointer (some ⟨b, o + j * 11, none⟩)) W := by
  subst hz
  have he : Tryz.prog.elem 28 = 45 := by simp [Program.elem, Tryz.underlying28]
  rw [run_indexAt_slice W 28 ⟨b, o, none⟩ len cap .i64 (j : Int) (by rw [he]; exact Tryz.underlying28), if_pos (by omega), he, sizeV]
  simp [Addr.add]
/-- The cells of a value of a row, one by one. -/
abbrev cC (b o : Nat) (y : Vl) (lw cw : Value) (W : World) : Prop := W.cell? ⟨b, o, none⟩ = some (.int .i64 y.d.kind) ∧ W.cell? ⟨b, o + 1, none⟩ = some (.string ⟨y.d.name.toArray⟩) ∧ W.cell? ⟨b, o + 2, none⟩ = some (.string ⟨y.d.help.toArray⟩) ∧ W.cell? ⟨b, o + 3, none⟩ = some lw ∧ W.cell? ⟨b, o + 4, none⟩ = some (.int .i64 (hiOf y.t)) ∧ W.cell? ⟨b, o + 5, none⟩ = some (.int .u64 (loOf y.t)) ∧ W.cell? ⟨b, o + 6, none⟩ = some cw ∧ W.cell? ⟨b, o + 7, none⟩ = some (.int .u64 (y.n : Int)) ∧ W.cell? ⟨b, o + 8, none⟩ = some (.float .f64 y.sum) ∧ W.cell? ⟨b, o + 9, none⟩ = some (.float .f64 y.mn) ∧ W.cell? ⟨b, o + 10, none⟩ = some (.float .f64 y.mx)
/-- .. of a value in a block of its own. -/
abbrev cB (b : Nat) (y : Vl) (lw cw : Value) (W : World) : Prop := W.cell? ⟨b, 0, none⟩ = some (.int .i64 y.d.kind) ∧ W.cell? ⟨b, 1, none⟩ = some (.string ⟨y.d.name.toArray⟩) ∧ W.cell? ⟨b, 2, none⟩ = some (.string ⟨y.d.help.toArray⟩) ∧ W.cell? ⟨b, 3, none⟩ = some lw ∧ W.cell? ⟨b, 4, none⟩ = some (.int .i64 (hiOf y.t)) ∧ W.cell? ⟨b, 5, none⟩ = some (.int .u64 (loOf y.t)) ∧ W.cell? ⟨b, 6, none⟩ = some cw ∧ W.cell? ⟨b, 7, none⟩ = some (.int .u64 (y.n : Int)) ∧ W.cell? ⟨b, 8, none⟩ = some (.float .f64 y.sum) ∧ W.cell? ⟨b, 9, none⟩ = some (.float .f64 y.mn) ∧ W.cell? ⟨b, 10, none⟩ = some (.float .f64 y.mx)
theorem C11.cC {W : World} {b o : Nat} {y : Vl} {lw cw : Value} (h : C11 W b o y lw cw) : cC b o y lw cw W := ⟨h.c0, h.c1, h.c2, h.c3, h.c4, h.c5, h.c6, h.c7, h.c8, h.c9, h.c10⟩
theorem B11.cB {W : World} {b : Nat} {y : Vl} {lw cw : Value} (h : B11 W b y lw cw) : cB b y lw cw W := ⟨h.c0, h.c1, h.c2, h.c3, h.c4, h.c5, h.c6, h.c7, h.c8, h.c9, h.c10⟩
/-- A value of a row, with its lists. -/
structure KR (b o : Nat) (y : Vl) (lw cw : Value) (W : World) : Prop where
  c : C11 W b o y lw cw
  l : SLb W lw y.d.labels
  n : SN W cw y.cs
theorem KR.below {b o : Nat} {y : Vl} {lw cw : Value} {W W1 : World} (h : KR b o y lw cw W) (hb : Below W.heap.size W W1) : KR b o y lw cw W1 := ⟨h.c.below hb, h.l.below hb, h.n.below hb⟩
theorem KR.at {b o : Nat} {y : Vl} {lw cw : Value} {W : World} (h : KR b o y lw cw W) : VAt W y (vx y lw cw) := ⟨lw, cw, rfl, h.l, h.n⟩
theorem KV.at {w W : World} {b : Nat} {y : Vl} {lw cw : Value} (h : KV w b y lw cw W) : VAt W y (vx y lw cw) := ⟨lw, cw, rfl, h.l, h.c⟩
/-- What a region holds on to that reads a value of a row and one of a block. -/
abbrev S8h (w : World) (b o c : Nat) (x y : Vl) (lv cv lw cw : Value) (W : World) : Prop := cC b o y lw cw W ∧ cB c x lv cv W ∧ KV w c x lv cv W ∧ KR b o y lw cw W
theorem s8_of {w W : World} {b o c : Nat} {x y : Vl} {lv cv lw cw : Value} (h : KV w c x lv cv W) (k : KR b o y lw cw W) : S8h w b o c x y lv cv lw cw W := ⟨k.c.cC, h.box.cB, h, k⟩
theorem keep8 {w W W1 : World} {b o c : Nat} {x y : Vl} {lv cv lw cw : Value} (hb : Below W.heap.size W W1) (h : S8h w b o c x y lv cv lw cw W) : S8h w b o c x y lv cv lw cw W1 := s8_of (h.2.2.1.below hb) (h.2.2.2.below hb)
set_option maxRecDepth 100000 in
set_option maxHeartbeats 8000000 in
theorem cvalue_any (p : Int) (ao : Option Addr) (b o cap : Nat) (A : List Vl) (hao : A ≠ [] → ao = some ⟨b, o, none⟩) (hA : A.length ≤ 256) (x : Vl) (v : Value) (h : VW x) (w : World) (hr : RowV w b o A) (hv : VAt w x v) :
    Calls Tryz.prog 22 #[.int .i64 p, .slice ao A.length cap, v] w fun e w' => e = .returned (.int .i64 (chk1 p A.getLast? x)) ∧ Below w.heap.size w w' := by
  have hv0 := hv
  obtain ⟨lv, cv, rfl, hl, hc⟩ := hv
  have HC : Hid (∀ W, Below w.heap.size w W → Calls Tryz.prog 35 #[.agg #[.int .i64 x.d.kind, .string ⟨x.d.name.toArray⟩, .string ⟨x.d.help.toArray⟩, lv]] W fun e w' => e = .returned (.int .i64 (La.chkD x.d)) ∧ Below W.heap.size W w') := fun W hb => La.ccheck_any x.d _ W (hl.below hb).dsc h.d
  have HH : Hid (∀ W, Below w.heap.size w W → Calls Tryz.prog 36 #[.int .i64 p, vx x lv cv] W fun e w' => e = .returned (.bool (holdB p x)) ∧ Below W.heap.size W w') := fun W hb => holds_any p x _ h W (hv0.below hb)
  have HK : Hid (∀ T, KV w w.heap.size x lv cv (w.alloc (.cells (vc x lv cv) T))) := fun T => KV.new hl hc T
  have HR := hid_of hr
  have HV := hid_of hv0
  clear hl hc h hr hv0
  unfold chk1
  generalize La.chkD x.d = z at *
  by_cases hz : z = 0
  · rw [if_neg (by simpa using hz)]
    have hz' : (z != 0) = false := by simpa using hz
    clear hz
    generalize holdB p x = q at *
    cases q
    · rw [if_pos rfl]
      as_aux_lemma =>
        go_enter Tryz.func22, Tryz.ntmps22
        go_wp2_with (first
          | (go_at_call 35; with_reducible refine (HC.out _ (bel1 w _)).mono ?_; rintro e w1 ⟨rfl, hb1⟩; obtain ⟨c0, c1, c2, c3, c4, c5, c6, c7, c8, c9, c10⟩ := ((HK.out 45).below hb1).box)
          | (go_at_call 36; with_reducible refine (HH.out _ (bt (bel1 w _) hb1)).mono ?_; rintro e w2 ⟨rfl, hb2⟩))
        go_ret
        exact ⟨rfl, bt (bt (bel1 w _) hb1) hb2⟩
    · rw [if_neg (by decide)]
      by_cases hA0 : A.length = 0
      · have e : A = [] := List.length_eq_zero_iff.1 hA0
        subst e
        clear HR hA0 hao
        as_aux_lemma =>
          go_enter Tryz.func22, Tryz.ntmps22
          go_wp2_with (first
            | (go_at_call 35; with_reducible refine (HC.out _ (bel1 w _)).mono ?_; rintro e w1 ⟨rfl, hb1⟩; obtain ⟨c0, c1, c2, c3, c4, c5, c6, c7, c8, c9, c10⟩ := ((HK.out 45).below hb1).box)
            | (go_at_call 36; with_reducible refine (HH.out _ (bt (bel1 w _) hb1)).mono ?_; rintro e w2 ⟨rfl, hb2⟩))
          go_ret
          exact ⟨rfl, bt (bt (bel1 w _) hb1) hb2⟩
      · obtain ⟨m, hm⟩ : ∃ m, m + 1 = A.length := ⟨A.length - 1, by omega⟩
        have hml : m < A.length := by omega
        obtain rfl := hao (fun e => hA0 (by rw [e]; rfl))
        have hlast : A.getLast? = some A[m] := by
          rw [List.getLast?_eq_getElem?, show A.length - 1 = m by omega, List.getElem?_eq_getElem hml]
        rw [hlast]
        obtain ⟨lw, cw, g1, g2, g3⟩ := HR.out m hml
        have HP : Hid (∀ W, S8h w b (o + m * 11) w.heap.size x A[m] lv cv lw cw W → Calls Tryz.prog 37 #[vx A[m] lw cw, vx x lv cv] W fun e w' => e = .returned (.int .i64 (plV A[m] x)) ∧ Below W.heap.size W w') := fun W k => place_any A[m] x _ _ W k.2.2.2.at k.2.2.1.at
        have hA0' : ((A.length : Int) == 0) = false := by rw [beq_eq_false_iff_ne]; omega
        have hw : IntKind.i64.wrap ((A.length : Int) - 1) = (m : Int) := by rw [IntKind.wrap_i64]; omega
        have hix := index_val b o A.length cap m (m : Int) rfl hml
        have HG := hid_of (⟨g1, g2, g3⟩ : KR b (o + m * 11) A[m] lw cw w)
        clear hlast hA0 hao HR g1 g2 g3 HV
        generalize A[m] = y at *
        as_aux_lemma =>
          go_enter Tryz.func22, Tryz.ntmps22
          go_upto_region 8 with (first
            | (go_at_call 35; with_reducible refine (HC.out _ (bel1 w _)).mono ?_; rintro e w1 ⟨rfl, hb1⟩; obtain ⟨c0, c1, c2, c3, c4, c5, c6, c7, c8, c9, c10⟩ := ((HK.out 45).below hb1).box)
            | (go_at_call 36; with_reducible refine (HH.out _ (bt (bel1 w _) hb1)).mono ?_; rintro e w2 ⟨rfl, hb2⟩; have hK2 := ((HK.out 45).below hb1).below hb2))
          have hS2 := s8_of hK2 (HG.out.below hK2.bl)
          clear HC HH HK HG c0 c1 c2 c3 c4 c5 c6 c7 c8 c9 c10
          go_region_held3 (fun W => S8h w b (o + m * 11) w.heap.size x y lv cv lw cw W)
            (first | assumption | exact keep8 (by assumption) (by assumption) | exact keep8 (drew_bel _) hS2)
            (first
              | (go_at_call 37; with_reducible refine (HP.out _ (by first | assumption | exact keep8 (by assumption) (by assumption) | exact keep8 (drew_bel _) hS2)).mono ?_; rintro e w3 ⟨rfl, hb3⟩))
          rename_i hS3
          go_wp2_with fail
          go_ret
          exact ⟨rfl, hS3.2.2.1.bl⟩
  · rw [if_pos hz]
    have hz' : (z != 0) = true := by simpa using hz
    clear hz HH HK HR HV
    as_aux_lemma =>
      go_enter Tryz.func22, Tryz.ntmps22
      go_wp2_with (first
        | (go_at_call 35; with_reducible refine (HC.out _ (bel1 w _)).mono ?_; rintro e w1 ⟨rfl, hb1⟩))
      go_ret
      exact ⟨rfl, bt (bel1 w _) hb1⟩
end Go.Proofs.YtgkdggcpplmnaaaGreat
/- WHICH SNAPSHOTS MAY BE: Check, the code's. Own work of the verifier. -/
namespace Go.Proofs.YtgkdggcpplmnaaaGreat
open Go.RowKit Me

theorem RowV.take {W : World} {b o : Nat} {L : List Vl} (h : RowV W b o L) (i : Nat) : RowV W b o (L.take i) := fun j hj => by
  rw [List.length_take] at hj
  have := h j (by omega)
  rw [List.getElem_take]
  exact this
/-- What the loop holds on to. -/
structure KS (w : World) (ao : Option Addr) (b o cap : Nat) (s : Sn) (W : World) : Prop where
  c0 : W.cell? ⟨w.heap.size, 0, none⟩ = some (.int .i64 s.p)
  c1 : W.cell? ⟨w.heap.size, 1, none⟩ = some (.slice ao s.vs.length cap)
  r : RowV W b o s.vs
  bl : Below w.heap.size w W
theorem KS.below {w W W1 : World} {ao : Option Addr} {b o cap : Nat} {s : Sn} (h : KS w ao b o cap s W) (hb : Below W.heap.size W W1) : KS w ao b o cap s W1 := ⟨cellB hb h.c0, cellB hb h.c1, h.r.below hb, bt h.bl hb⟩
abbrev S9c (w : World) (ao : Option Addr) (b o cap : Nat) (s : Sn) (c : Nat) (y : Vl) (lw cw : Value) (W : World) : Prop := W.cell? ⟨w.heap.size, 0, none⟩ = some (.int .i64 s.p) ∧ W.cell? ⟨w.heap.size, 1, none⟩ = some (.slice ao s.vs.length cap) ∧ cC b c y lw cw W ∧ KS w ao b o cap s W ∧ KR b c y lw cw W
theorem keep9 {w W W1 : World} {ao : Option Addr} {b o cap : Nat} {s : Sn} {c : Nat} {y : Vl} {lw cw : Value} (hb : Below W.heap.size W W1) (h : S9c w ao b o cap s c y lw cw W) : S9c w ao b o cap s c y lw cw W1 := by
  have h1 := h.2.2.2.1.below hb
  have h2 := h.2.2.2.2.below hb
  exact ⟨h1.c0, h1.c1, h2.c.cC, h1, h2⟩
set_option maxRecDepth 100000 in
set_option maxHeartbeats 8000000 in
theorem check_any (s : Sn) (v : Value) (h : SnW s) (w : World) (hv : SnAt w s v) :
    Calls Tryz.prog 11 #[v] w fun e w' => e = two (chkS s).1 ((chkS s).2 : Nat) ∧ Below w.heap.size w w' := by
  obtain ⟨u, rfl, hu⟩ := hv
  obtain ⟨ao, b, o, cap, rfl, hao, hcap, hcap2, hr⟩ := hu.open
  have HK : Hid (∀ T, KS w ao b o cap s (w.alloc (.cells #[.int .i64 s.p, .slice ao s.vs.length cap, .int .u64 (s.r : Int)] T))) := fun T => ⟨by simp [go_sem], by simp [go_sem], hr.below (bel1 _ _), bel1 _ _⟩
  have HW := hid_of h.vs
  clear hu hr h
  unfold chkS
  by_cases h1 : s.p < 1
  · rw [if_pos (Or.inl h1)]
    clear HK HW
    as_aux_lemma =>
      go_enter Tryz.func11, Tryz.ntmps11
      go_wp2_with fail
      go_ret2
      exact ⟨rfl, bel1 w _⟩
  by_cases h2 : 14 < s.p
  · rw [if_pos (Or.inr h2)]
    clear HK HW
    as_aux_lemma =>
      go_enter Tryz.func11, Tryz.ntmps11
      go_wp2_with fail
      go_ret2
      exact ⟨rfl, bel1 w _⟩
  rw [if_neg (by omega)]
  by_cases h3 : 256 < s.vs.length
  · rw [if_pos h3]
    have h3' : (256 : Int) < (s.vs.length : Int) := by omega
    clear HK HW
    as_aux_lemma =>
      go_enter Tryz.func11, Tryz.ntmps11
      go_wp2_with fail
      go_ret2
      exact ⟨rfl, bel1 w _⟩
  rw [if_neg h3]
  have h3' : ¬ (256 : Int) < (s.vs.length : Int) := by omega
  obtain ⟨R, hR⟩ : ∃ R, R = chkV s.p none s.vs 0 := ⟨_, rfl⟩
  rw [← hR]
  have HR0 : Hid (R = chkV s.p (prvV s.vs 0) (s.vs.drop 0) 0) := hR
  clear hR
  go_enter Tryz.func11, Tryz.ntmps11
  go_upto_region 6 with fail
  go_loopw [21] (fun x W => ∃ i : Nat, i ≤ s.vs.length ∧ x = .int .i64 (i : Int) ∧ Hid (R = chkV s.p (prvV s.vs i) (s.vs.drop i) i) ∧ Hid (KS w ao b o cap s W)) (fun x _ => s.vs.length - (intOf x).toNat)
  case atStart => exact ⟨0, by omega, rfl, HR0, HK.out _⟩
  case round =>
    clear HK HR0
    obtain ⟨i, hi, rfl, HR, HK⟩ := hrel
    by_cases hlt : i < s.vs.length
    · have hlt' : (i : Int) < (s.vs.length : Int) := by omega
      obtain rfl := hao (by intro e; rw [e] at hlt; simp at hlt)
      obtain ⟨lw, cw, g1, g2, g3⟩ := HK.out.r i hlt
      have hS0 := (⟨HK.out.c0, HK.out.c1, g1.cC, HK.out, ⟨g1, g2, g3⟩⟩ : S9c w (some ⟨b, o, none⟩) b o cap s (o + i * 11) s.vs[i] lw cw wr)
      have hlen : (s.vs.take i).length = i := by rw [List.length_take]; omega
      have HC : Hid (∀ W, S9c w (some ⟨b, o, none⟩) b o cap s (o + i * 11) s.vs[i] lw cw W → Calls Tryz.prog 22 #[.int .i64 s.p, .slice (some ⟨b, o, none⟩) i cap, vx s.vs[i] lw cw] W fun e w' => e = .returned (.int .i64 (chk1 s.p (prvV s.vs i) s.vs[i])) ∧ Below W.heap.size W w') := fun W k => by
        have := cvalue_any s.p (some ⟨b, o, none⟩) b o cap (s.vs.take i) (fun _ => rfl) (by omega) s.vs[i] (vx s.vs[i] lw cw) (HW.out _ (List.getElem_mem hlt)) W (k.2.2.2.1.r.take i) k.2.2.2.2.at
        rw [hlen] at this
        exact this
      have hS := HR.out
      rw [chkV_drop s.p s.vs i hlt] at hS
      have hix := index_val b o s.vs.length cap i (i : Int) rfl hlt
      have hic : (i : Int) ≤ (cap : Int) := by omega
      clear HR HK g1 g2 g3 hlen HW hao
      generalize chk1 s.p (prvV s.vs i) s.vs[i] = z at *
      generalize s.vs[i] = y at *
      as_aux_lemma =>
      go_upto_region 8 with fail
      go_cut [5] from 24 to 35 (fun x W => x = .int .i64 z ∧ Hid (KS w (some ⟨b, o, none⟩) b o cap s W))
      case first =>
        clear hS
        as_aux_lemma =>
          go_region_held3 (fun W => S9c w (some ⟨b, o, none⟩) b o cap s (o + i * 11) y lw cw W)
            (first | assumption | exact keep9 (by assumption) (by assumption) | exact keep9 (drew_bel _) hS0)
            (first
              | (go_at_call 22; with_reducible refine (HC.out _ (by first | assumption | exact keep9 (by assumption) (by assumption) | exact keep9 (drew_bel _) hS0)).mono ?_; rintro e w3 ⟨rfl, hb3⟩))
          rename_i hS3
          go_wp2_with fail
          go_meet
          exact ⟨rfl, hS3.2.2.2.1⟩
      case rest =>
      obtain ⟨rfl, HK⟩ := hcut
      clear hS0 HC
      by_cases hz : z = 0
      · rw [if_neg (by simpa using hz)] at hS
        have hz' : (z != 0) = false := by simpa using hz
        have HS := hid_of hS
        clear hS hz
        as_aux_lemma =>
          go_wp2_with fail
          exact ⟨⟨i + 1, by omega, by go_num, HS, HK⟩, by simp [intOf]; omega⟩
      · rw [if_pos hz] at hS
        have hz' : (z != 0) = true := by simpa using hz
        have HS := hid_of hS
        clear hS hz
        as_aux_lemma =>
          go_wp2_with fail
          go_ret2
          exact ⟨by rw [HS.out]; rfl, HK.out.bl⟩
    · have hlt' : ¬ (i : Int) < (s.vs.length : Int) := by omega
      have hS := HR.out
      rw [List.drop_eq_nil_of_le (by omega)] at hS
      have HS : Hid (R = (0, 0)) := by unfold Hid; rw [hS]; cases prvV s.vs i <;> rfl
      clear HR hS HW
      as_aux_lemma =>
        go_wp2_with fail
        go_ret2
        exact ⟨by rw [HS.out]; rfl, HK.out.bl⟩
end Go.Proofs.YtgkdggcpplmnaaaGreat
