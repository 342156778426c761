/- SnapFollows: the walk. Own work of the verifier. -/
import Derived.Test.YtckdkcnnfjbdmaaGreatZFA
import Derived.Test.YtckdkcnnfjbdmaaGreatZDE
namespace Go.Proofs.YtckdkcnnfjbdmaaGreat
open Go.RowKit Me

/-- A snapshot in a block of its own. -/
structure Sk (b : Nat) (s : Sn) (u : Value) (W : World) : Prop where
  g : W.heap[b]? = some (.cells #[.int .i64 s.p, u, .int .u64 (s.r : Int)] 26 (0, 0))
  v : SV W u s.vs
theorem Sk.below {b : Nat} {s : Sn} {u : Value} {W W1 : World} (h : Sk b s u W) (hb : Below W.heap.size W W1) : Sk b s u W1 := ⟨hkN h.g hb, h.v.below hb⟩
theorem RowS.three {W : World} {A B C : Sn} {ua ub uc : Value} (hA : SV W ua A.vs) (hB : SV W ub B.vs) (hC : SV W uc C.vs) (t : TypeId) : RowS (W.alloc (.cells #[.int .i64 A.p, ua, .int .u64 (A.r : Int), .int .i64 B.p, ub, .int .u64 (B.r : Int), .int .i64 C.p, uc, .int .u64 (C.r : Int)] t)) W.heap.size [A, B, C] := by
  have hb := bel1 W (.cells #[.int .i64 A.p, ua, .int .u64 (A.r : Int), .int .i64 B.p, ub, .int .u64 (B.r : Int), .int .i64 C.p, uc, .int .u64 (C.r : Int)] t)
  intro i hi
  match i, hi with
  | 0, _ => exact ⟨ua, by simp [go_sem], by simp [go_sem], by simp [go_sem], hA.below hb⟩
  | 1, _ => exact ⟨ub, by simp [go_sem], by simp [go_sem], by simp [go_sem], hB.below hb⟩
  | 2, _ => exact ⟨uc, by simp [go_sem], by simp [go_sem], by simp [go_sem], hC.below hb⟩
theorem smS_id (s : Sn) : smS s s = true := by
  have h1 : ∀ x : Vl, smV x x = true := fun x => by
    unfold smV
    have : ∀ n, Re.sF n n = true := fun n => by rw [Re.sF_eq]; simp
    simp [this]
  have h2 : ∀ L : List Vl, smL L L = true := fun L => by
    induction L with
    | nil => rfl
    | cons x L ih => rw [smL, h1, ih]; rfl
  unfold smS
  simp [h2]
/-- What the law's calls tell, each where its snapshots lie. -/
theorem merge_sk (a b : Sn) (ha : SnW a) (hb : SnW b) (W : World) (ua ub : Value) (h1 : SV W ua a.vs) (h2 : SV W ub b.vs) : Calls Tryz.prog 12 #[.agg #[.int .i64 a.p, ua, .int .u64 (a.r : Int)], .agg #[.int .i64 b.p, ub, .int .u64 (b.r : Int)]] W fun e w' => RmQ W a b e w' := smerge_any a b _ _ ha hb W ⟨ua, rfl, h1⟩ ⟨ub, rfl, h2⟩
theorem same_sk (a : Sn) (ha : SnW a) (W : World) (ua ub : Value) (h1 : SV W ua a.vs) (h2 : SV W ub a.vs) : Calls Tryz.prog 14 #[.agg #[.int .i64 a.p, ua, .int .u64 (a.r : Int)], .agg #[.int .i64 a.p, ub, .int .u64 (a.r : Int)]] W fun e w' => e = .returned (.bool true) ∧ Below W.heap.size W w' := by
  have := rsames_any a a _ _ ha ha W ⟨ua, rfl, h1⟩ ⟨ub, rfl, h2⟩
  rw [smS_id] at this
  exact this
set_option maxRecDepth 100000 in
set_option maxHeartbeats 16000000 in
theorem follows_walk (a b c : Sn) (ua ub uc : Value) (w : World) (sA : SV w ua a.vs) (wA : SnW a) (lA : ∀ x ∈ a.vs, x.d.labels.length ≤ 4398046511104) (sB : SV w ub b.vs) (wB : SnW b) (lB : ∀ x ∈ b.vs, x.d.labels.length ≤ 4398046511104) (sC : SV w uc c.vs) (wC : SnW c) (lC : ∀ x ∈ c.vs, x.d.labels.length ≤ 4398046511104) :
    Calls Tryz.prog 7 #[.agg #[.int .i64 a.p, ua, .int .u64 (a.r : Int)], .agg #[.int .i64 b.p, ub, .int .u64 (b.r : Int)], .agg #[.int .i64 c.p, uc, .int .u64 (c.r : Int)]] w fun e w' => e = .returned (.bool true) ∧ Below w.heap.size w w' := by
  have HX : Hid (∀ W, Calls Tryz.prog 9 #[] W fun r w' => r = .returned (.bool true) ∧ Below W.heap.size W w') := fun W => fixed_any W
  have HFe : Hid (∀ W, Below w.heap.size w W → Calls Tryz.prog 15 #[.slice (some ⟨W.heap.size, 0, none⟩) 3 3] (W.alloc (.cells #[.int .i64 a.p, ua, .int .u64 (a.r : Int), .int .i64 b.p, ub, .int .u64 (b.r : Int), .int .i64 c.p, uc, .int .u64 (c.r : Int)] 26)) fun e w' => e = .returned (.bool (decide (wgtS [a, b, c] ≤ 1048576))) ∧ Below (W.alloc (.cells #[.int .i64 a.p, ua, .int .u64 (a.r : Int), .int .i64 b.p, ub, .int .u64 (b.r : Int), .int .i64 c.p, uc, .int .u64 (c.r : Int)] 26)).heap.size (W.alloc (.cells #[.int .i64 a.p, ua, .int .u64 (a.r : Int), .int .i64 b.p, ub, .int .u64 (b.r : Int), .int .i64 c.p, uc, .int .u64 (c.r : Int)] 26)) w') := fun W hb => few_any W.heap.size 3 [a, b, c] (by simp) _ (RowS.three (sA.below hb) (sB.below hb) (sC.below hb) _) (fun s hs x hx => by
    rcases List.mem_cons.1 hs with rfl | hs
    · exact ⟨(wA.vs x hx).cl, lA x hx⟩
    · rcases List.mem_cons.1 hs with rfl | hs
      · exact ⟨(wB.vs x hx).cl, lB x hx⟩
      · rw [List.mem_singleton] at hs
        subst hs
        exact ⟨(wC.vs x hx).cl, lC x hx⟩)
  have wM : SnW (mgS a b).1 := mg_w wA wB
  have wE : SnW ⟨a.p, [], 0⟩ := ⟨(fun x hx => by cases hx), by show 0 < 18446744073709551616; omega⟩
  have wZ : SnW zS := ⟨(fun x hx => by cases hx), by show 0 < 18446744073709551616; omega⟩
  have HM1 : Hid (∀ W, Below w.heap.size w W → Calls Tryz.prog 12 #[.agg #[.int .i64 a.p, ua, .int .u64 (a.r : Int)], .agg #[.int .i64 b.p, ub, .int .u64 (b.r : Int)]] W fun e w' => RmQ W a b e w') := fun W h => merge_sk a b wA wB W ua ub (sA.below h) (sB.below h)
  have HM2 : Hid (∀ W, Below w.heap.size w W → Calls Tryz.prog 12 #[.agg #[.int .i64 b.p, ub, .int .u64 (b.r : Int)], .agg #[.int .i64 a.p, ua, .int .u64 (a.r : Int)]] W fun e w' => ∃ x, e = .returned (.tuple #[.agg #[.int .i64 (mgS a b).1.p, x, .int .u64 ((mgS a b).1.r : Int)], .int .i64 (mgS b a).2]) ∧ SV w' x (mgS a b).1.vs ∧ Below W.heap.size W w') := fun W h => by
    have := merge_sk b a wB wA W ub ua (sB.below h) (sA.below h)
    unfold RmQ at this
    rw [mg_swap1 wA wB] at this
    exact this
  have HC1 : Hid (∀ W, Below w.heap.size w W → Calls Tryz.prog 10 #[.agg #[.int .i64 a.p, ua, .int .u64 (a.r : Int)]] W fun e w' => e = two (chkS a).1 ((chkS a).2 : Nat) ∧ Below W.heap.size W w') := fun W h => check_any a _ wA W ⟨ua, rfl, sA.below h⟩
  have HC2 : Hid (∀ W, Below w.heap.size w W → Calls Tryz.prog 10 #[.agg #[.int .i64 b.p, ub, .int .u64 (b.r : Int)]] W fun e w' => e = two (chkS b).1 ((chkS b).2 : Nat) ∧ Below W.heap.size W w') := fun W h => check_any b _ wB W ⟨ub, rfl, sB.below h⟩
  have HD1 : Hid (∀ W, Below w.heap.size w W → Calls Tryz.prog 11 #[.agg #[.int .i64 a.p, ua, .int .u64 (a.r : Int)]] W fun e w' => e = two (chkS a).1 ((chkS a).2 : Nat) ∧ Below W.heap.size W w') := fun W h => rcheck_any a _ wA W ⟨ua, rfl, sA.below h⟩
  have HD2 : Hid (∀ W, Below w.heap.size w W → Calls Tryz.prog 11 #[.agg #[.int .i64 b.p, ub, .int .u64 (b.r : Int)]] W fun e w' => e = two (chkS b).1 ((chkS b).2 : Nat) ∧ Below W.heap.size W w') := fun W h => rcheck_any b _ wB W ⟨ub, rfl, sB.below h⟩
  have HM3 : Hid ((chkS a).1 = 0 → ∀ W, Below w.heap.size w W → Calls Tryz.prog 12 #[.agg #[.int .i64 a.p, .slice none 0 0, .int .u64 0], .agg #[.int .i64 a.p, ua, .int .u64 (a.r : Int)]] W fun e w' => ∃ x, e = .returned (.tuple #[.agg #[.int .i64 a.p, x, .int .u64 (a.r : Int)], .int .i64 0]) ∧ SV w' x a.vs ∧ Below W.heap.size W w') := fun k W h => by
    have := merge_sk ⟨a.p, [], 0⟩ a wE wA W (.slice none 0 0) ua (Or.inl ⟨rfl, rfl⟩) (sA.below h)
    unfold RmQ at this
    rw [mg_left wA k] at this
    exact this
  have HM4 : Hid ((chkS a).1 = 0 → ∀ W, Below w.heap.size w W → Calls Tryz.prog 12 #[.agg #[.int .i64 a.p, ua, .int .u64 (a.r : Int)], .agg #[.int .i64 a.p, .slice none 0 0, .int .u64 0]] W fun e w' => ∃ x, e = .returned (.tuple #[.agg #[.int .i64 a.p, x, .int .u64 (a.r : Int)], .int .i64 0]) ∧ SV w' x a.vs ∧ Below W.heap.size W w') := fun k W h => by
    have := merge_sk a ⟨a.p, [], 0⟩ wA wE W ua (.slice none 0 0) (sA.below h) (Or.inl ⟨rfl, rfl⟩)
    unfold RmQ at this
    rw [mg_right wA k] at this
    exact this
  have HS1 : Hid (∀ W x, Below w.heap.size w W → SV W x a.vs → Calls Tryz.prog 14 #[.agg #[.int .i64 a.p, x, .int .u64 (a.r : Int)], .agg #[.int .i64 a.p, ua, .int .u64 (a.r : Int)]] W fun e w' => e = .returned (.bool true) ∧ Below W.heap.size W w') := fun W x h k => same_sk a wA W x ua k (sA.below h)
  have HS2 : Hid (∀ W x y, SV W x (mgS a b).1.vs → SV W y (mgS a b).1.vs → Calls Tryz.prog 14 #[.agg #[.int .i64 (mgS a b).1.p, x, .int .u64 ((mgS a b).1.r : Int)], .agg #[.int .i64 (mgS a b).1.p, y, .int .u64 ((mgS a b).1.r : Int)]] W fun e w' => e = .returned (.bool true) ∧ Below W.heap.size W w') := fun W x y h k => same_sk _ wM W x y h k
  have HS3 : Hid ((mgS a b).2 ≠ 0 → ∀ W x, SV W x (mgS a b).1.vs → Calls Tryz.prog 14 #[.agg #[.int .i64 (mgS a b).1.p, x, .int .u64 ((mgS a b).1.r : Int)], .agg #[.int .i64 0, .slice none 0 0, .int .u64 0]] W fun e w' => e = .returned (.bool true) ∧ Below W.heap.size W w') := fun hne W x h => by
    rw [mg_not hne] at h ⊢
    exact same_sk zS wZ W x (.slice none 0 0) h (Or.inl ⟨rfl, rfl⟩)
  have HC3 : Hid ((mgS a b).2 = 0 → ∀ W x, SV W x (mgS a b).1.vs → Calls Tryz.prog 10 #[.agg #[.int .i64 (mgS a b).1.p, x, .int .u64 ((mgS a b).1.r : Int)]] W fun e w' => e = two 0 0 ∧ Below W.heap.size W w') := fun h W x k => by
    have := check_any (mgS a b).1 _ wM W ⟨x, rfl, k⟩
    rw [mg_chk wA wB h] at this
    exact this
  have hfl : wgtS [a, b, c] ≤ 1048576 → (∀ x ∈ a.vs, x.d.labels.length ≤ 1048576 ∧ x.cs.length ≤ 1048576) ∧ (∀ x ∈ b.vs, x.d.labels.length ≤ 1048576 ∧ x.cs.length ≤ 1048576) := fun h => by
    have e : wgtS [a, b, c] = wgtL a.vs + (wgtL b.vs + (wgtL c.vs + 0)) := rfl
    refine ⟨fun x hx => ?_, fun x hx => ?_⟩
    · have := wgt_mem hx
      omega
    · have := wgt_mem hx
      omega
  have HAd : Hid (wgtS [a, b, c] ≤ 1048576 → (mgS a b).2 = 0 → ∀ W x, Below w.heap.size w W → SV W x (mgS a b).1.vs → Calls Tryz.prog 22 #[.agg #[.int .i64 a.p, ua, .int .u64 (a.r : Int)], .agg #[.int .i64 b.p, ub, .int .u64 (b.r : Int)], .agg #[.int .i64 (mgS a b).1.p, x, .int .u64 ((mgS a b).1.r : Int)]] W fun e w' => e = .returned (.bool true) ∧ Below W.heap.size W w') := fun hf h W x k1 k2 => adds_any a b _ _ _ wA wB W ⟨ua, rfl, sA.below k1⟩ ⟨ub, rfl, sB.below k1⟩ ⟨x, rfl, k2⟩ h (hfl hf).1 (hfl hf).2
  have HM5 : Hid (∀ W x, Below w.heap.size w W → SV W x (mgS a b).1.vs → Calls Tryz.prog 12 #[.agg #[.int .i64 (mgS a b).1.p, x, .int .u64 ((mgS a b).1.r : Int)], .agg #[.int .i64 c.p, uc, .int .u64 (c.r : Int)]] W fun e w' => RmQ W (mgS a b).1 c e w') := fun W x h k => merge_sk _ c wM wC W x uc k (sC.below h)
  have HM6 : Hid (∀ W, Below w.heap.size w W → Calls Tryz.prog 12 #[.agg #[.int .i64 b.p, ub, .int .u64 (b.r : Int)], .agg #[.int .i64 c.p, uc, .int .u64 (c.r : Int)]] W fun e w' => RmQ W b c e w') := fun W h => merge_sk b c wB wC W ub uc (sB.below h) (sC.below h)
  have HM7 : Hid (∀ W x, Below w.heap.size w W → SV W x (mgS b c).1.vs → Calls Tryz.prog 12 #[.agg #[.int .i64 a.p, ua, .int .u64 (a.r : Int)], .agg #[.int .i64 (mgS b c).1.p, x, .int .u64 ((mgS b c).1.r : Int)]] W fun e w' => RmQ W a (mgS b c).1 e w') := fun W x h k => merge_sk a _ wA (mg_w wB wC) W ua x (sA.below h) k
  have HAl : Hid ((mgS a b).2 = 0 → (mgS (mgS a b).1 c).2 = 0 → (mgS b c).2 = 0 → (mgS a (mgS b c).1).2 = 0 → ∀ W x y, SV W x (mgS (mgS a b).1 c).1.vs → SV W y (mgS a (mgS b c).1).1.vs → Calls Tryz.prog 23 #[.agg #[.int .i64 (mgS (mgS a b).1 c).1.p, x, .int .u64 ((mgS (mgS a b).1 c).1.r : Int)], .agg #[.int .i64 (mgS a (mgS b c).1).1.p, y, .int .u64 ((mgS a (mgS b c).1).1.r : Int)]] W fun e w' => e = .returned (.bool true) ∧ Below W.heap.size W w') := fun h1 h2 h3 h4 W x y k1 k2 => by
    have w1 := mg_w wM wC
    have w2 := mg_w wA (mg_w wB wC)
    obtain ⟨l1, f1⟩ := chk_len w1 (by rw [mg_chk wM wC h2])
    obtain ⟨l2, f2⟩ := chk_len w2 (by rw [mg_chk wA (mg_w wB wC) h4])
    have := alike_any _ _ _ _ w1 w2 W ⟨x, rfl, k1⟩ ⟨y, rfl, k2⟩ (by omega) (by omega) f1 f2
    rw [z0_same h1 h2 h3 h4, smS_id] at this
    exact this
  have HBad : Hid (¬ ((chkS a).1 = 0 ∧ (chkS b).1 = 0) → (mgS a b).2 ≠ 0 ∧ (mgS b a).2 ≠ 0) := fun h => by
    have : (chkS a).1 ≠ 0 ∨ (chkS b).1 ≠ 0 := by
      by_cases k : (chkS a).1 = 0
      · exact Or.inr (fun k2 => h ⟨k, k2⟩)
      · exact Or.inl k
    exact ⟨mg_bad this, mg_bad this.symm⟩
  have HSw : Hid (((mgS a b).2 = 0 → (mgS b a).2 = 0) ∧ ((mgS a b).2 ≠ 0 → (mgS b a).2 ≠ 0)) := ⟨fun h => by rw [mg_sym wA wB h]; exact h, fun h => mg_swap wA wB h⟩
  obtain ⟨ao, a1, a2, ca, rfl, -⟩ := sA.open
  obtain ⟨bo, b1, b2, cb, rfl, -⟩ := sB.open
  obtain ⟨co, c1, c2, cc, rfl, -⟩ := sC.open
  have HN := hid_of (B3.new w a b c (.slice ao a.vs.length ca) (.slice bo b.vs.length cb) (.slice co c.vs.length cc))
  clear sA wA lA sB wB lB sC wC lC wM wE wZ hfl
  unfold RmQ at HM1 HM5 HM6 HM7
  generalize hBC : mgS b c = BC at *
  generalize hAB : mgS a b = AB at *
  generalize hBA : mgS b a = BA at *
  obtain ⟨M, em⟩ := AB
  obtain ⟨M', en⟩ := BA
  obtain ⟨BC, ebc⟩ := BC
  simp only at HM1 HM2 HM5 HM6 HM7 HS2 HS3 HC3 HAd HAl HBad HSw
  clear hBC hAB hBA M'
  generalize hXS : mgS M c = XS at *
  generalize hYS : mgS a BC = YS at *
  obtain ⟨X, ex⟩ := XS
  obtain ⟨Y, ey⟩ := YS
  simp only at HM5 HM7 HAl
  clear hXS hYS
  generalize hk1 : chkS a = k1 at *
  generalize hk2 : chkS b = k2 at *
  obtain ⟨ea, ia⟩ := k1
  obtain ⟨eb, ib⟩ := k2
  simp only at HC1 HC2 HD1 HD2 HM3 HM4 HBad
  clear hk1 hk2
  have sF := store_f
  go_enter Tryz.func7, Tryz.ntmps7
  go_upto_region 1 with fail
  generalize ((w.alloc (.cells #[.int .i64 a.p, .slice ao a.vs.length ca, .int .u64 (a.r : Int)] 26)).alloc (.cells #[.int .i64 b.p, .slice bo b.vs.length cb, .int .u64 (b.r : Int)] 26)).alloc (.cells #[.int .i64 c.p, .slice co c.vs.length cc, .int .u64 (c.r : Int)] 26) = w0 at HN ⊢
  obtain ⟨p0, p1, p2, _, _, _⟩ := three_cells HN.out.g1
  obtain ⟨q0, q1, q2, _, _, _⟩ := three_cells HN.out.g2
  obtain ⟨r0, r1, r2, _, _, _⟩ := three_cells HN.out.g3
  by_cases hfew : wgtS [a, b, c] ≤ 1048576
  · rw [decide_eq_true hfew] at HFe
    have HAd' := hid_of (HAd.out hfew)
    clear HAd hfew
    go_upto_region 3 with (go_at_call 15; (with_reducible refine (HFe.out _ HN.out.bl).mono ?_); rintro e w1 ⟨rfl, hb1⟩)
    have HB1 := hid_of (HN.out.below (bt (bel1 _ _) hb1))
    clear p0 p1 p2 q0 q1 q2 r0 r1 r2 HN HFe hb1
    obtain ⟨p0, p1, p2, _, _, _⟩ := three_cells HB1.out.g1
    obtain ⟨q0, q1, q2, _, _, _⟩ := three_cells HB1.out.g2
    go_upto_region 4 with (go_at_call 12; (with_reducible refine (HM1.out _ HB1.out.bl).mono ?_); rintro e w2 ⟨u2, rfl, hv2, hb2⟩; obtain ⟨o2, s2, t2, n2, rfl, -⟩ := hv2.open)
    have hbn := bel1 w2 (.cells #[.int .i64 M.p, .slice o2 M.vs.length n2, .int .u64 (M.r : Int)] 26)
    have HMk : Hid (Sk w2.heap.size M (.slice o2 M.vs.length n2) (w2.alloc (.cells #[.int .i64 M.p, .slice o2 M.vs.length n2, .int .u64 (M.r : Int)] 26))) := ⟨new_1 _ _, hv2.below hbn⟩
    have HB2 := hid_of (HB1.out.below (bt hb2 hbn))
    generalize w2.alloc (.cells #[.int .i64 M.p, .slice o2 M.vs.length n2, .int .u64 (M.r : Int)] 26) = w3 at HMk HB2 ⊢
    generalize w2.heap.size = bm at HMk ⊢
    clear p0 p1 p2 q0 q1 q2 HB1 hv2 hb2 hbn HM1
    obtain ⟨p0, p1, p2, _, _, _⟩ := three_cells HB2.out.g1
    obtain ⟨q0, q1, q2, _, _, _⟩ := three_cells HB2.out.g2
    go_upto_region 5 with (go_at_call 12; (with_reducible refine (HM2.out _ HB2.out.bl).mono ?_); rintro e w4 ⟨u4, rfl, hv4, hb4⟩; obtain ⟨o4, s4, t4, n4, rfl, -⟩ := hv4.open)
    have hbn := bel1 w4 (.cells #[.int .i64 M.p, .slice o4 M.vs.length n4, .int .u64 (M.r : Int)] 26)
    have HNk : Hid (Sk w4.heap.size M (.slice o4 M.vs.length n4) (w4.alloc (.cells #[.int .i64 M.p, .slice o4 M.vs.length n4, .int .u64 (M.r : Int)] 26))) := ⟨new_1 _ _, hv4.below hbn⟩
    have HB4 := hid_of (HB2.out.below (bt hb4 hbn))
    have HMk4 := hid_of (HMk.out.below (bt hb4 hbn))
    generalize w4.alloc (.cells #[.int .i64 M.p, .slice o4 M.vs.length n4, .int .u64 (M.r : Int)] 26) = w5 at HNk HB4 HMk4 ⊢
    generalize w4.heap.size = bn at HNk ⊢
    clear p0 p1 p2 q0 q1 q2 HB2 HMk hv4 hb4 hbn HM2
    obtain ⟨p0, p1, p2, _, _, _⟩ := three_cells HB4.out.g1
    go_upto_region 6 with (go_at_call 10; (with_reducible refine (HC1.out _ HB4.out.bl).mono ?_); rintro e w6 ⟨rfl, hb6⟩)
    have HB6 := hid_of (HB4.out.below hb6)
    have HMk6 := hid_of (HMk4.out.below hb6)
    have HNk6 := hid_of (HNk.out.below hb6)
    clear p0 p1 p2 HB4 HMk4 HNk hb6 HC1
    obtain ⟨q0, q1, q2, _, _, _⟩ := three_cells HB6.out.g2
    go_upto_region 7 with (go_at_call 10; (with_reducible refine (HC2.out _ HB6.out.bl).mono ?_); rintro e w7 ⟨rfl, hb7⟩)
    have HB7 := hid_of (HB6.out.below hb7)
    have HMk7 := hid_of (HMk6.out.below hb7)
    have HNk7 := hid_of (HNk6.out.below hb7)
    clear q0 q1 q2 HB6 HMk6 HNk6 hb7 HC2
    by_cases hgood : ea = 0 ∧ eb = 0
    · obtain ⟨h1, h2⟩ := hgood
      subst h1 h2
      have HM3' := hid_of (HM3.out rfl)
      have HM4' := hid_of (HM4.out rfl)
      clear HM3 HM4 HBad HD1 HD2
      obtain ⟨p0, p1, p2, _, _, _⟩ := three_cells HB7.out.g1
      go_upto_region 12 with fail
      have hbn := bel1 w7 (.cells #[.int .i64 a.p, .slice none 0 0, .int .u64 0] 26)
      have HE8 := hid_of (new_1 w7 (.cells #[.int .i64 a.p, .slice none 0 0, .int .u64 0] 26))
      have HB8 := hid_of (HB7.out.below hbn)
      have HMk8 := hid_of (HMk7.out.below hbn)
      have HNk8 := hid_of (HNk7.out.below hbn)
      generalize w7.alloc (.cells #[.int .i64 a.p, .slice none 0 0, .int .u64 0] 26) = w8 at HE8 HB8 HMk8 HNk8 ⊢
      generalize w7.heap.size = be at HE8 ⊢
      clear p0 p1 p2 HB7 HMk7 HNk7 hbn
      obtain ⟨p0, p1, p2, _, _, _⟩ := three_cells HB8.out.g1
      obtain ⟨q0, q1, q2, _, _, _⟩ := three_cells HE8.out
      go_upto_region 13 with (go_at_call 12; (with_reducible refine (HM3'.out _ HB8.out.bl).mono ?_); rintro e w9 ⟨u9, rfl, hv9, hb9⟩; obtain ⟨o9, s9, t9, n9, rfl, -⟩ := hv9.open)
      have hbn := bel1 w9 (.cells #[.int .i64 a.p, .slice o9 a.vs.length n9, .int .u64 (a.r : Int)] 26)
      have HLk : Hid (Sk w9.heap.size a (.slice o9 a.vs.length n9) (w9.alloc (.cells #[.int .i64 a.p, .slice o9 a.vs.length n9, .int .u64 (a.r : Int)] 26))) := ⟨new_1 _ _, hv9.below hbn⟩
      have HB9 := hid_of (HB8.out.below (bt hb9 hbn))
      have HMk9 := hid_of (HMk8.out.below (bt hb9 hbn))
      have HNk9 := hid_of (HNk8.out.below (bt hb9 hbn))
      have HE9 := hid_of (hkN HE8.out (bt hb9 hbn))
      generalize w9.alloc (.cells #[.int .i64 a.p, .slice o9 a.vs.length n9, .int .u64 (a.r : Int)] 26) = w10 at HLk HB9 HMk9 HNk9 HE9 ⊢
      generalize w9.heap.size = bl at HLk ⊢
      clear p0 p1 p2 q0 q1 q2 HB8 HMk8 HNk8 HE8 hv9 hb9 hbn HM3'
      obtain ⟨p0, p1, p2, _, _, _⟩ := three_cells HB9.out.g1
      obtain ⟨q0, q1, q2, _, _, _⟩ := three_cells HE9.out
      go_upto_region 14 with (go_at_call 12; (with_reducible refine (HM4'.out _ HB9.out.bl).mono ?_); rintro e w11 ⟨u11, rfl, hv11, hb11⟩; obtain ⟨o11, s11, t11, n11, rfl, -⟩ := hv11.open)
      have hbn := bel1 w11 (.cells #[.int .i64 a.p, .slice o11 a.vs.length n11, .int .u64 (a.r : Int)] 26)
      have HRk : Hid (Sk w11.heap.size a (.slice o11 a.vs.length n11) (w11.alloc (.cells #[.int .i64 a.p, .slice o11 a.vs.length n11, .int .u64 (a.r : Int)] 26))) := ⟨new_1 _ _, hv11.below hbn⟩
      have HB10 := hid_of (HB9.out.below (bt hb11 hbn))
      have HMk10 := hid_of (HMk9.out.below (bt hb11 hbn))
      have HNk10 := hid_of (HNk9.out.below (bt hb11 hbn))
      have HLk10 := hid_of (HLk.out.below (bt hb11 hbn))
      generalize w11.alloc (.cells #[.int .i64 a.p, .slice o11 a.vs.length n11, .int .u64 (a.r : Int)] 26) = w12 at HRk HB10 HMk10 HNk10 HLk10 ⊢
      generalize w11.heap.size = br at HRk ⊢
      clear p0 p1 p2 q0 q1 q2 HB9 HMk9 HNk9 HE9 HLk hv11 hb11 hbn HM4'
      obtain ⟨p0, p1, p2, _, _, _⟩ := three_cells HB10.out.g1
      obtain ⟨q0, q1, q2, _, _, _⟩ := three_cells HLk10.out.g
      obtain ⟨r0, r1, r2, _, _, _⟩ := three_cells HRk.out.g
      go_upto_region 16 with (first
        | (go_at_call 14; (with_reducible refine (HS1.out _ _ HB10.out.bl HLk10.out.v).mono ?_); rintro e w13 ⟨rfl, hb13⟩; have HB13 := hid_of (HB10.out.below hb13); have HRk13 := hid_of (HRk.out.below hb13); obtain ⟨x0, x1, x2, _, _, _⟩ := three_cells HB13.out.g1; obtain ⟨y0, y1, y2, _, _, _⟩ := three_cells HRk13.out.g)
        | (go_at_call 14; (with_reducible refine (HS1.out _ _ HB13.out.bl HRk13.out.v).mono ?_); rintro e w14 ⟨rfl, hb14⟩))
      have HB14 := hid_of (HB13.out.below hb14)
      have HMk14 := hid_of (HMk10.out.below (bt hb13 hb14))
      have HNk14 := hid_of (HNk10.out.below (bt hb13 hb14))
      clear p0 p1 p2 q0 q1 q2 r0 r1 r2 x0 x1 x2 y0 y1 y2 HB10 HMk10 HNk10 HLk10 HRk HB13 HRk13 hb13 hb14 HS1
      obtain ⟨p0, p1, p2, _, _, _⟩ := three_cells HMk14.out.g
      obtain ⟨q0, q1, q2, _, _, _⟩ := three_cells HNk14.out.g
      by_cases hem : em = 0
      · have hen := HSw.out.1 hem
        subst hem hen
        have HC3' := hid_of (HC3.out rfl)
        have HAd := hid_of (HAd'.out rfl)
        have HAl' := hid_of (HAl.out rfl)
        clear HS3 HC3 HAd' HAl HSw
        go_upto_region 20 with (go_at_call 14; (with_reducible refine (HS2.out _ _ _ HMk14.out.v HNk14.out.v).mono ?_); rintro e w15 ⟨rfl, hb15⟩)
        have HB15 := hid_of (HB14.out.below hb15)
        have HMk15 := hid_of (HMk14.out.below hb15)
        clear p0 p1 p2 q0 q1 q2 HB14 HMk14 HNk14 hb15 HS2
        obtain ⟨p0, p1, p2, _, _, _⟩ := three_cells HMk15.out.g
        go_upto_region 21 with (go_at_call 10; (with_reducible refine (HC3'.out _ _ HMk15.out.v).mono ?_); rintro e w16 ⟨rfl, hb16⟩)
        have HB16 := hid_of (HB15.out.below hb16)
        have HMk16 := hid_of (HMk15.out.below hb16)
        clear p0 p1 p2 HB15 HMk15 hb16 HC3'
        obtain ⟨p0, p1, p2, _, _, _⟩ := three_cells HMk16.out.g
        obtain ⟨q0, q1, q2, _, _, _⟩ := three_cells HB16.out.g1
        obtain ⟨r0, r1, r2, _, _, _⟩ := three_cells HB16.out.g2
        go_upto_region 23 with (go_at_call 22; (with_reducible refine (HAd.out _ _ HB16.out.bl HMk16.out.v).mono ?_); rintro e w17 ⟨rfl, hb17⟩)
        have HB17 := hid_of (HB16.out.below hb17)
        have HMk17 := hid_of (HMk16.out.below hb17)
        clear p0 p1 p2 q0 q1 q2 r0 r1 r2 HB16 HMk16 hb17 HAd
        obtain ⟨p0, p1, p2, _, _, _⟩ := three_cells HMk17.out.g
        obtain ⟨q0, q1, q2, _, _, _⟩ := three_cells HB17.out.g3
        go_upto_region 24 with (go_at_call 12; (with_reducible refine (HM5.out _ _ HB17.out.bl HMk17.out.v).mono ?_); rintro e w18 ⟨u18, rfl, hv18, hb18⟩; obtain ⟨o18, s18, t18, n18, rfl, -⟩ := hv18.open)
        have hbn := bel1 w18 (.cells #[.int .i64 X.p, .slice o18 X.vs.length n18, .int .u64 (X.r : Int)] 26)
        have HXk : Hid (Sk w18.heap.size X (.slice o18 X.vs.length n18) (w18.alloc (.cells #[.int .i64 X.p, .slice o18 X.vs.length n18, .int .u64 (X.r : Int)] 26))) := ⟨new_1 _ _, hv18.below hbn⟩
        have HB18 := hid_of (HB17.out.below (bt hb18 hbn))
        generalize w18.alloc (.cells #[.int .i64 X.p, .slice o18 X.vs.length n18, .int .u64 (X.r : Int)] 26) = w19 at HXk HB18 ⊢
        generalize w18.heap.size = bx at HXk ⊢
        clear p0 p1 p2 q0 q1 q2 HB17 HMk17 hv18 hb18 hbn HM5
        obtain ⟨p0, p1, p2, _, _, _⟩ := three_cells HB18.out.g2
        obtain ⟨q0, q1, q2, _, _, _⟩ := three_cells HB18.out.g3
        go_upto_region 25 with (go_at_call 12; (with_reducible refine (HM6.out _ HB18.out.bl).mono ?_); rintro e w20 ⟨u20, rfl, hv20, hb20⟩; obtain ⟨o20, s20, t20, n20, rfl, -⟩ := hv20.open)
        have hbn := bel1 w20 (.cells #[.int .i64 BC.p, .slice o20 BC.vs.length n20, .int .u64 (BC.r : Int)] 26)
        have HCk : Hid (Sk w20.heap.size BC (.slice o20 BC.vs.length n20) (w20.alloc (.cells #[.int .i64 BC.p, .slice o20 BC.vs.length n20, .int .u64 (BC.r : Int)] 26))) := ⟨new_1 _ _, hv20.below hbn⟩
        have HB20 := hid_of (HB18.out.below (bt hb20 hbn))
        have HXk20 := hid_of (HXk.out.below (bt hb20 hbn))
        generalize w20.alloc (.cells #[.int .i64 BC.p, .slice o20 BC.vs.length n20, .int .u64 (BC.r : Int)] 26) = w21 at HCk HB20 HXk20 ⊢
        generalize w20.heap.size = bc at HCk ⊢
        clear p0 p1 p2 q0 q1 q2 HB18 HXk hv20 hb20 hbn HM6
        by_cases hok : ex = 0 ∧ ebc = 0
        · obtain ⟨h1, h2⟩ := hok
          subst h1 h2
          have HAl := hid_of (HAl'.out rfl rfl)
          clear HAl'
          obtain ⟨p0, p1, p2, _, _, _⟩ := three_cells HB20.out.g1
          obtain ⟨q0, q1, q2, _, _, _⟩ := three_cells HCk.out.g
          go_upto_region 28 with (go_at_call 12; (with_reducible refine (HM7.out _ _ HB20.out.bl HCk.out.v).mono ?_); rintro e w22 ⟨u22, rfl, hv22, hb22⟩; obtain ⟨o22, s22, t22, n22, rfl, -⟩ := hv22.open)
          have hbn := bel1 w22 (.cells #[.int .i64 Y.p, .slice o22 Y.vs.length n22, .int .u64 (Y.r : Int)] 26)
          have HYk : Hid (Sk w22.heap.size Y (.slice o22 Y.vs.length n22) (w22.alloc (.cells #[.int .i64 Y.p, .slice o22 Y.vs.length n22, .int .u64 (Y.r : Int)] 26))) := ⟨new_1 _ _, hv22.below hbn⟩
          have HB22 := hid_of (HB20.out.below (bt hb22 hbn))
          have HXk22 := hid_of (HXk20.out.below (bt hb22 hbn))
          generalize w22.alloc (.cells #[.int .i64 Y.p, .slice o22 Y.vs.length n22, .int .u64 (Y.r : Int)] 26) = w23 at HYk HB22 HXk22 ⊢
          generalize w22.heap.size = bY at HYk ⊢
          clear p0 p1 p2 q0 q1 q2 HB20 HXk20 HCk hv22 hb22 hbn HM7
          by_cases hey : ey = 0
          · subst hey
            have HAl2 := hid_of (HAl.out rfl)
            clear HAl
            obtain ⟨p0, p1, p2, _, _, _⟩ := three_cells HXk22.out.g
            obtain ⟨q0, q1, q2, _, _, _⟩ := three_cells HYk.out.g
            go_wp2_with (first
              | (go_at_call 23; (with_reducible refine (HAl2.out _ _ _ HXk22.out.v HYk.out.v).mono ?_); rintro e w24 ⟨rfl, hb24⟩)
              | (go_at_call 9; (with_reducible refine (HX.out _).mono ?_); rintro e w25 ⟨rfl, hb25⟩))
            go_ret
            exact ⟨rfl, bt HB22.out.bl (bt hb24 hb25)⟩
          · have hey' : (ey != 0) = true := by simpa using hey
            clear HAl hey
            go_wp2_with (go_at_call 9; (with_reducible refine (HX.out _).mono ?_); rintro e w25 ⟨rfl, hb25⟩)
            go_ret
            exact ⟨rfl, bt HB22.out.bl hb25⟩
        · have hor : (ex != 0) = true ∨ ((ex != 0) = false ∧ (ebc != 0) = true) := by
            by_cases k : ex = 0
            · exact Or.inr ⟨by simpa using k, by simpa using fun k2 => hok ⟨k, k2⟩⟩
            · exact Or.inl (by simpa using k)
          clear HAl' HM7 hok
          rcases hor with h1 | ⟨h1, h2⟩
          all_goals
            go_wp2_with (go_at_call 9; (with_reducible refine (HX.out _).mono ?_); rintro e w25 ⟨rfl, hb25⟩)
            go_ret
            exact ⟨rfl, bt HB20.out.bl hb25⟩
      · have hen := HSw.out.2 hem
        have z1 : (em == 0) = false := by simpa using hem
        have z2 : (en == 0) = false := by simpa using hen
        have z3 : (em != 0) = true := by simpa using hem
        have HS3' := hid_of (HS3.out hem)
        clear HS3 HC3 HAd' HAl HSw HM5 HM6 HM7 hem hen
        go_wp2_with (first
          | (go_at_call 14; (with_reducible refine (HS2.out _ _ _ HMk14.out.v HNk14.out.v).mono ?_); rintro e w15 ⟨rfl, hb15⟩; have HMk15 := hid_of (HMk14.out.below hb15); obtain ⟨x0, x1, x2, _, _, _⟩ := three_cells HMk15.out.g)
          | (go_at_call 14; (with_reducible refine (HS3'.out _ _ HMk15.out.v).mono ?_); rintro e w16 ⟨rfl, hb16⟩)
          | (go_at_call 9; (with_reducible refine (HX.out _).mono ?_); rintro e w17 ⟨rfl, hb17⟩))
        go_ret
        exact ⟨rfl, bt HB14.out.bl (bt hb15 (bt hb16 hb17))⟩
    · obtain ⟨hne1, hne2⟩ := HBad.out hgood
      have hem : (em != 0) = true := by simpa using hne1
      have hen : (en != 0) = true := by simpa using hne2
      have HS3' := hid_of (HS3.out hne1)
      have hee : (ea == ea) = true := by simp
      have hff : (eb == eb) = true := by simp
      have hor : (ea != 0) = true ∨ ((ea != 0) = false ∧ (eb != 0) = true) := by
        by_cases k : ea = 0
        · exact Or.inr ⟨by simpa using k, by simpa using fun k2 => hgood ⟨k, k2⟩⟩
        · exact Or.inl (by simpa using k)
      clear HM3 HM4 HS1 HS2 HS3 HC3 HAd' HM5 HM6 HM7 HAl HBad HSw hgood hne1 hne2 HNk7
      obtain ⟨p0, p1, p2, _, _, _⟩ := three_cells HB7.out.g1
      rcases hor with h1 | ⟨h1, h2⟩
      all_goals
        go_upto_region 9 with (go_at_call 11; (with_reducible refine (HD1.out _ HB7.out.bl).mono ?_); rintro e w8 ⟨rfl, hb8⟩)
        have HB8 := hid_of (HB7.out.below hb8)
        have HMk8 := hid_of (HMk7.out.below hb8)
        clear p0 p1 p2 HB7 HMk7 hb8 HD1
        obtain ⟨q0, q1, q2, _, _, _⟩ := three_cells HB8.out.g2
        go_upto_region 10 with (go_at_call 11; (with_reducible refine (HD2.out _ HB8.out.bl).mono ?_); rintro e w9 ⟨rfl, hb9⟩)
        have HB9 := hid_of (HB8.out.below hb9)
        have HMk9 := hid_of (HMk8.out.below hb9)
        clear q0 q1 q2 HB8 HMk8 hb9 HD2
        obtain ⟨p0, p1, p2, _, _, _⟩ := three_cells HMk9.out.g
        go_wp2_with (first
          | (go_at_call 14; (with_reducible refine (HS3'.out _ _ HMk9.out.v).mono ?_); rintro e w10 ⟨rfl, hb10⟩)
          | (go_at_call 9; (with_reducible refine (HX.out _).mono ?_); rintro e w11 ⟨rfl, hb11⟩))
        go_ret
        exact ⟨rfl, bt HB9.out.bl (bt hb10 hb11)⟩
  · rw [decide_eq_false hfew] at HFe
    clear HM1 HM2 HC1 HC2 HD1 HD2 HM3 HM4 HS1 HS2 HS3 HC3 HAd HM5 HM6 HM7 HAl HBad HSw hfew
    go_wp2_with (first
      | (go_at_call 15; (with_reducible refine (HFe.out _ HN.out.bl).mono ?_); rintro e w1 ⟨rfl, hb1⟩)
      | (go_at_call 9; (with_reducible refine (HX.out _).mono ?_); rintro e w2 ⟨rfl, hb2⟩))
    go_ret
    exact ⟨rfl, bt (HN.out.below (bt (bel1 _ _) hb1)).bl hb2⟩
end Go.Proofs.YtckdkcnnfjbdmaaGreat
/- SnapFollows: the row. Own work of the verifier. -/
namespace Go.Proofs.YtckdkcnnfjbdmaaGreat
open Go.ChangeShapes Go.WideShapes Go.ChangeAt Go.RowKit Go.Joins Me

set_option maxRecDepth 100000 in
theorem snapFollows_lifted (os : Os) (started : os.Started) (H : Type) (enc : TypeId × Value → H) :
    ReturnsInHanded {} Tryz.checked os 7 .any (Rows.snapFollowsSpec.pre6 enc Tryz.prog Tryz.f7 Rows.snapFollowsRow.domain false) (Rows.snapFollowsSpec.post enc Tryz.prog Tryz.f7 false true false false) := by
  refine returnsInHanded_of_change_sized (C := Tryz.checked) own started (by kernel_rfl) Tryz.func7
    (ChangeSpec.witness6 (enc := enc) (C := Tryz.checked) false ⟨#[], #[.agg #[.int .i64 0, .slice none 0 0, .int .u64 0], .agg #[.int .i64 0, .slice none 0 0, .int .u64 0], .agg #[.int .i64 0, .slice none 0 0, .int .u64 0]], []⟩ 8 (by kernel_rfl) (by kernel_rfl) (by kernel_rfl) (by kernel_rfl)) ?_
  intro W base args ds gs before hval0 hW _ hsz0 _
  have hsz : (DataW.weightsEach Tryz.prog (Tryz.f7.params.toList ++ Rows.snapFollowsSpec.plain.varTypes Tryz.prog) (ds ++ gs)).all (· ≤ reachBytes) = true := hsz0
  have hval : ∀ (j : Nat) t v, Tryz.f7.params[j]? = some t → args[j]? = some v → Value.okWide Tryz.prog W .any base t v := hval0
  have hW' := hW
  obtain ⟨p, q, hA0, hV, rfl, hfz, hnd⟩ := hW
  have hA : DataW.TrodAll enc Tryz.prog W 0 (fun _ => true) true Tryz.f7.params.toList args.toList ds p := hA0
  rw [Tryz.params7] at hA hval hsz
  obtain ⟨v0, v1, v2, d0, d1, d2, p0, p1, p2, rfl, rfl, rfl, h0, h1, h2⟩ := trodAll_three hA
  obtain ⟨rfl, rfl⟩ := trodVars_none hV
  clear hA0 hval0 hsz0
  simp only [List.append_nil, List.append_assoc] at hW'
  have hlt : ∀ x ∈ p0 ++ (p1 ++ p2), x.block < W.heap.size := fun x hx => hW'.lt x (by simpa using hx)
  simp only [List.append_nil, List.cons_append, List.nil_append, DataW.weightsEach, List.all_append, Bool.and_eq_true] at hsz
  have hargs : ∀ (W' : World), Below W.heap.size W W' → DataW.TrodAll enc Tryz.prog W' 0 (fun b => decide (b < W.heap.size)) true [26, 26, 26] [v0, v1, v2] [d0, d1, d2] (p0 ++ (p1 ++ p2)) := fun W' hn =>
    trodAll_mk3 (Below.trod laidOut (by kernel_rfl) (of_decide_eq_true (by kernel_rfl)) h0 hn (fun x hx => hlt x (by simp [hx])))
      (Below.trod laidOut (by kernel_rfl) (of_decide_eq_true (by kernel_rfl)) h1 hn (fun x hx => hlt x (by simp [hx])))
      (Below.trod laidOut (by kernel_rfl) (of_decide_eq_true (by kernel_rfl)) h2 hn (fun x hx => hlt x (by simp [hx])))
  obtain ⟨s, ⟨u0, rfl, hs⟩, hsw, hsl⟩ := open_snap2 (hval 0 26 v0 rfl rfl) h0 hsz.1
  obtain ⟨r, ⟨u1, rfl, hr⟩, hrw, hrl⟩ := open_snap2 (hval 1 26 v1 rfl rfl) h1 hsz.2.1
  obtain ⟨t, ⟨u2, rfl, ht⟩, htw, htl⟩ := open_snap2 (hval 2 26 v2 rfl rfl) h2 hsz.2.2.1
  refine (follows_walk s r t u0 u1 u2 W hs hsw hsl hr hrw hrl ht htw htl).mono fun e W' ⟨he, hb⟩ => ?_
  subst he
  exact ⟨_, rfl, _, _, _, [], _, [], hW', trodAll_mk1 (shut_bool Tryz.underlying4 _), hargs W' hb, rfl, hb.frame _, fun h => by cases h⟩
theorem snapFollows_holds : Rows.SnapFollowsSaid :=
  OpenClaim.holds_of_wide 7 Tryz.f7 rfl rfl rfl rfl rfl rfl rfl ⟨rfl, rfl, rfl, rfl, rfl⟩ rfl rfl rfl rfl rfl (by kernel_rfl) Tryz.func7 (by kernel_rfl)
    (of_decide_eq_true (by kernel_rfl)) (by unfold Func.isWrapper; first | (rw [if_pos (by decide +kernel)]; kernel_rfl) | (rw [if_neg (by decide +kernel)]; exact ⟨rfl, rfl⟩))
    (fun os started H enc _ => snapFollows_lifted os started H enc)
end Go.Proofs.YtckdkcnnfjbdmaaGreat
