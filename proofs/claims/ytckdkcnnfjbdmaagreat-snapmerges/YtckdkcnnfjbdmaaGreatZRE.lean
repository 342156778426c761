/- TWO SNAPSHOTS AS ONE: the merged one is as wide as they are. Own work of the verifier. -/
import Derived.Test.YtckdkcnnfjbdmaaGreatZK
import Derived.Test.YtckdkcnnfjbdmaaGreatZD9
import Derived.Test.YtckdkcnnfjbdmaaGreatZDB
import Derived.Test.YtckdkcnnfjbdmaaGreatZD7
import Derived.Test.YtckdkcnnfjbdmaaGreatZP7
import Derived.Test.YtckdkcnnfjbdmaaGreatZD
namespace Go.Proofs.YtckdkcnnfjbdmaaGreat
open Me

/-- One count more, put in its place. -/
def insC (c : Cn) : List Cn → List Cn
  | [] => if c.2 % 18446744073709551616 = 0 then [] else [(c.1, c.2 % 18446744073709551616)]
  | d :: O => if c.1 < d.1 then (if c.2 % 18446744073709551616 = 0 then d :: O else (c.1, c.2 % 18446744073709551616) :: d :: O) else if c.1 = d.1 then (if (d.2 + c.2) % 18446744073709551616 = 0 then O else (d.1, (d.2 + c.2) % 18446744073709551616) :: O) else d :: insC c O
theorem ins_mem (c : Cn) : ∀ (O : List Cn) (e : Cn), e ∈ insC c O → e.1 = c.1 ∨ ∃ d ∈ O, d.1 = e.1
  | [], e, h => by
    unfold insC at h
    split at h
    · cases h
    · rw [List.mem_singleton] at h; exact Or.inl (by rw [h])
  | d :: O, e, h => by
    unfold insC at h
    split at h
    · split at h
      · exact Or.inr ⟨e, h, rfl⟩
      · rcases List.mem_cons.1 h with h | h
        · exact Or.inl (by rw [h])
        · exact Or.inr ⟨e, h, rfl⟩
    · split at h
      · split at h
        · exact Or.inr ⟨e, List.mem_cons_of_mem _ h, rfl⟩
        · rcases List.mem_cons.1 h with h | h
          · exact Or.inr ⟨d, List.mem_cons_self .., by rw [h]⟩
          · exact Or.inr ⟨e, List.mem_cons_of_mem _ h, rfl⟩
      · rcases List.mem_cons.1 h with h | h
        · exact Or.inr ⟨d, List.mem_cons_self .., by rw [h]⟩
        · rcases ins_mem c O e h with k | ⟨f, hf, k⟩
          · exact Or.inl k
          · exact Or.inr ⟨f, List.mem_cons_of_mem _ hf, k⟩
theorem ins_ok (c : Cn) : ∀ O : List Cn, Rise O → (∀ e ∈ O, e.2 ≠ 0 ∧ e.2 < 18446744073709551616) → Rise (insC c O) ∧ (∀ e ∈ insC c O, e.2 ≠ 0 ∧ e.2 < 18446744073709551616) ∧ (∀ k, key (insC c O) k % 18446744073709551616 = (key O k + if c.1 = k then c.2 else 0) % 18446744073709551616) ∧ (insC c O).length ≤ O.length + 1
  | [], _, _ => by
    unfold insC
    split
    · rename_i h
      refine ⟨List.Pairwise.nil, (fun e he => by cases he), fun k => ?_, by simp⟩
      simp only [key]
      split <;> omega
    · rename_i h
      refine ⟨List.pairwise_singleton _ _, fun e he => ?_, fun k => ?_, by simp⟩
      · rw [List.mem_singleton] at he
        rw [he]
        exact ⟨h, Nat.mod_lt _ (by decide)⟩
      · simp only [key]
        split <;> omega
  | d :: O, hr, hn => by
    have hr' := List.pairwise_cons.1 hr
    obtain ⟨i1, i2, i3, i4⟩ := ins_ok c O hr'.2 (fun e he => hn e (List.mem_cons_of_mem _ he))
    unfold insC
    split
    · rename_i h
      split
      · rename_i h2
        refine ⟨hr, hn, fun k => ?_, by omega⟩
        split <;> omega
      · rename_i h2
        refine ⟨List.pairwise_cons.2 ⟨fun e he => ?_, hr⟩, fun e he => ?_, fun k => ?_, by simp⟩
        · show c.1 < e.1
          rcases List.mem_cons.1 he with rfl | he
          · exact h
          · have := hr'.1 e he; omega
        · rcases List.mem_cons.1 he with rfl | he
          · exact ⟨h2, Nat.mod_lt _ (by decide)⟩
          · exact hn e he
        · simp only [key]
          split <;> omega
    · rename_i h
      split
      · rename_i h1
        split
        · rename_i h2
          refine ⟨hr'.2, fun e he => hn e (List.mem_cons_of_mem _ he), fun k => ?_, by simp; omega⟩
          simp only [key]
          rw [← h1]
          split <;> omega
        · rename_i h2
          refine ⟨List.pairwise_cons.2 ⟨fun e he => hr'.1 e he, hr'.2⟩, fun e he => ?_, fun k => ?_, by simp⟩
          · rcases List.mem_cons.1 he with rfl | he
            · exact ⟨h2, Nat.mod_lt _ (by decide)⟩
            · exact hn e (List.mem_cons_of_mem _ he)
          · simp only [key]
            rw [← h1]
            split <;> omega
      · rename_i h1
        refine ⟨List.pairwise_cons.2 ⟨fun e he => ?_, i1⟩, fun e he => ?_, fun k => ?_, by simp only [List.length_cons]; omega⟩
        · rcases ins_mem c O e he with k | ⟨f, hf, k⟩
          · omega
          · have := hr'.1 f hf; omega
        · rcases List.mem_cons.1 he with rfl | he
          · exact hn _ (List.mem_cons_self ..)
          · exact i2 e he
        · simp only [key]
          have := i3 k
          omega
theorem key_lt {O : List Cn} (hr : Rise O) (hn : ∀ e ∈ O, e.2 ≠ 0 ∧ e.2 < 18446744073709551616) (k : Int) : key O k < 18446744073709551616 := by
  induction O with
  | nil => exact (by decide : (0 : Nat) < 18446744073709551616)
  | cons d O ih =>
    have hr' := List.pairwise_cons.1 hr
    by_cases h : d.1 = k
    · subst h
      rw [key_head hr]
      exact (hn d (List.mem_cons_self ..)).2
    · simp only [key, if_neg h]
      have := ih hr'.2 (fun e he => hn e (List.mem_cons_of_mem _ he))
      omega
theorem isMerge_some (L : List Cn) : ∃ O, IsMerge O L ∧ O.length ≤ L.length := by
  induction L with
  | nil => exact ⟨[], isMerge_nil, Nat.le_refl _⟩
  | cons c L ih =>
    obtain ⟨O, h, hl⟩ := ih
    obtain ⟨i1, i2, i3, i4⟩ := ins_ok c O h.rise h.nz
    refine ⟨insC c O, ⟨i1, i2, fun k => ?_⟩, by simp only [List.length_cons]; omega⟩
    have h1 := key_lt i1 i2 k
    have h2 := i3 k
    have h3 := h.keys k
    simp only [key]
    omega
theorem mrgC_is (A C : List Cn) : IsMerge (mrgC A C) (A ++ C) ∧ (mrgC A C).length ≤ A.length + C.length := by
  obtain ⟨O, h, hl⟩ := isMerge_some (A ++ C)
  rw [mrgC_eq h]
  exact ⟨h, by rw [List.length_append] at hl; exact hl⟩
theorem mrg_wc {O L : List Cn} (h : IsMerge O L) (hL : Wc L) : Wc O := fun e he => by
  have hk : key O e.1 = e.2 := by
    have hr := h.rise
    clear h hL
    induction O with
    | nil => cases he
    | cons d O ih =>
      have hr' := List.pairwise_cons.1 hr
      rcases List.mem_cons.1 he with rfl | he
      · exact key_head hr
      · have := hr'.1 e he
        simp only [key]
        rw [if_neg (by omega), ih he hr'.2, Nat.zero_add]
  have hn := h.nz e he
  have hkk := h.keys e.1
  have : ∃ c ∈ L, c.1 = e.1 := by
    apply Classical.byContradiction
    intro hx
    rw [key_none (fun c hc q => hx ⟨c, hc, q⟩)] at hkk
    omega
  obtain ⟨c, hc, q⟩ := this
  have := hL c hc
  exact ⟨by omega, by omega, hn.2⟩
theorem outF_lt {x y : Nat} (s : Int) (hx : x < 18446744073709551616) (hy : y < 18446744073709551616) : Re.outF x y s < 18446744073709551616 := by
  unfold Re.outF
  split <;> assumption
theorem jV_w {x y : Vl} (hx : VW x) (hy : VW y) (lx : x.cs.length ≤ 1048576) (ly : y.cs.length ≤ 1048576) : VW (jV x y) := by
  have hm := mrgC_is x.cs y.cs
  have hf : (jF x y).1 < 18446744073709551616 ∧ (jF x y).2.1 < 18446744073709551616 ∧ (jF x y).2.2 < 18446744073709551616 := by
    unfold jF
    split
    · exact ⟨hy.sum, hy.mn, hy.mx⟩
    · split
      · exact ⟨Soft.fa_lt _ _, outF_lt _ hx.mn hy.mn, outF_lt _ hx.mx hy.mx⟩
      · exact ⟨hx.sum, hx.mn, hx.mx⟩
  refine ⟨?_, mrg_wc hm.1 (fun c hc => ?_), ?_, Nat.mod_lt _ (by decide), hf.1, hf.2.1, hf.2.2, hx.d⟩
  · show InR (rnd (x.t + y.t))
    unfold rnd
    constructor <;> omega
  · rcases List.mem_append.1 hc with h | h
    · exact hx.cs c h
    · exact hy.cs c h
  · show (mrgC x.cs y.cs).length ≤ 8796093022208
    omega
theorem dm_mem : ∀ (n : Nat) (A B : List Vl), A.length + B.length = n → ∀ q ∈ dmL A B, q.1 ∈ A ∨ q.1 ∈ B ∨ ∃ x ∈ A, ∃ y ∈ B, q = joinV x y := by
  intro n
  induction n using Nat.strongRecOn with
  | _ n ih =>
    intro A B hn q hq
    match A, B, hn with
    | [], B, _ =>
      rw [dmL, List.mem_map] at hq
      obtain ⟨y, hy, rfl⟩ := hq
      exact Or.inr (Or.inl hy)
    | a :: A, [], _ =>
      rw [dmL, List.mem_map] at hq
      obtain ⟨y, hy, rfl⟩ := hq
      exact Or.inl hy
    | a :: A, b :: B, hn =>
      simp only [List.length_cons] at hn
      rcases dmL_cases (a := a) (b := b) (A := A) (B := B) with ⟨_, h⟩ | ⟨_, h⟩ | ⟨_, h⟩
      · rw [h] at hq
        rcases List.mem_cons.1 hq with rfl | hq
        · exact Or.inl (List.mem_cons_self ..)
        · rcases ih (A.length + (b :: B).length) (by simp only [List.length_cons]; omega) A (b :: B) rfl q hq with k | k | ⟨x, hx, y, hy, k⟩
          · exact Or.inl (List.mem_cons_of_mem _ k)
          · exact Or.inr (Or.inl k)
          · exact Or.inr (Or.inr ⟨x, List.mem_cons_of_mem _ hx, y, hy, k⟩)
      · rw [h] at hq
        rcases List.mem_cons.1 hq with rfl | hq
        · exact Or.inr (Or.inl (List.mem_cons_self ..))
        · rcases ih ((a :: A).length + B.length) (by simp only [List.length_cons]; omega) (a :: A) B rfl q hq with k | k | ⟨x, hx, y, hy, k⟩
          · exact Or.inl k
          · exact Or.inr (Or.inl (List.mem_cons_of_mem _ k))
          · exact Or.inr (Or.inr ⟨x, hx, y, List.mem_cons_of_mem _ hy, k⟩)
      · rw [h] at hq
        rcases List.mem_cons.1 hq with rfl | hq
        · exact Or.inr (Or.inr ⟨a, List.mem_cons_self .., b, List.mem_cons_self .., rfl⟩)
        · rcases ih (A.length + B.length) (by omega) A B rfl q hq with k | k | ⟨x, hx, y, hy, k⟩
          · exact Or.inl (List.mem_cons_of_mem _ k)
          · exact Or.inr (Or.inl (List.mem_cons_of_mem _ k))
          · exact Or.inr (Or.inr ⟨x, List.mem_cons_of_mem _ hx, y, List.mem_cons_of_mem _ hy, k⟩)
theorem fst_none {D : List (Vl × Int)} (h : fstE D = 0) : ∀ q ∈ D, q.2 = 0 := by
  induction D with
  | nil => intro q hq; cases hq
  | cons d D ih =>
    by_cases hd : d.2 = 0
    · rw [fstE_z d D hd] at h
      intro q hq
      rcases List.mem_cons.1 hq with rfl | hq
      · exact hd
      · exact ih h q hq
    · rw [fstE_p d D hd] at h
      exact absurd h hd
theorem zS_w : SnW zS := ⟨(fun x hx => by cases hx), by decide⟩
/-- The merged snapshot is as wide as its two. -/
theorem mg_w {a b : Sn} (ha : SnW a) (hb : SnW b) : SnW (mgS a b).1 := by
  by_cases h1 : (chkS a).1 = 0
  · by_cases h2 : (chkS b).1 = 0
    · rw [mg_doc h1 h2]
      split
      · exact zS_w
      · split
        · exact zS_w
        · split
          · exact zS_w
          · split
            · exact zS_w
            · rename_i hf
              split
              · exact zS_w
              · have k1 := (chkS_ok h1).2.2.2
                have k2 := (chkS_ok h2).2.2.2
                have hf0 : fstE (dmL a.vs b.vs) = 0 := by simpa using hf
                refine ⟨fun v hv => ?_, Nat.mod_lt _ (by decide)⟩
                have hv' : v ∈ (dmL a.vs b.vs).map (·.1) := hv
                obtain ⟨q, hq, rfl⟩ := List.mem_map.1 hv'
                rcases dm_mem _ _ _ rfl q hq with k | k | ⟨x, hx, y, hy, k⟩
                · exact ha.vs _ k
                · exact hb.vs _ k
                · have hz := fst_none hf0 q hq
                  rw [k] at hz ⊢
                  rw [joinV_ok hz]
                  obtain ⟨i, hi, rfl⟩ := List.mem_iff_getElem.1 hx
                  obtain ⟨j, hj, rfl⟩ := List.mem_iff_getElem.1 hy
                  exact jV_w (ha.vs _ hx) (hb.vs _ hy) (fit_of (ha.vs _ hx) (k1 i hi)).c (fit_of (hb.vs _ hy) (k2 j hj)).c
    · have : mgS a b = (zS, (chkS b).1) := by unfold mgS; rw [if_neg (by simpa using h1), if_pos h2]
      rw [this]
      exact zS_w
  · have : mgS a b = (zS, (chkS a).1) := by unfold mgS; rw [if_pos h1]
    rw [this]
    exact zS_w
end Go.Proofs.YtckdkcnnfjbdmaaGreat
/- SnapMerges: walk and row. Own work of the verifier. -/
namespace Go.Proofs.YtckdkcnnfjbdmaaGreat
open Go.ChangeShapes Go.WideShapes Go.ChangeAt Go.RowKit Go.Joins Me

theorem sF_same (x : Nat) : Re.sF x x = true := by rw [Re.sF_eq]; simp
theorem smV_same (x : Vl) : smV x x = true := by
  unfold smV
  simp [sF_same]
theorem smL_same (L : List Vl) : smL L L = true := by
  induction L with
  | nil => rfl
  | cons x L ih => rw [smL, smV_same, ih]; rfl
theorem smS_same (s : Sn) : smS s s = true := by
  unfold smS
  simp [smL_same]
set_option maxRecDepth 100000 in
set_option maxHeartbeats 1500000 in
theorem merges_walk (a b : Sn) (v u : Value) (ha : SnW a) (hb : SnW b) (w : World) (hv : SnAt w a v) (hu : SnAt w b u) :
    Calls Tryz.prog 5 #[v, u] w fun r w' => r = .returned (.bool true) ∧ Below w.heap.size w w' := by
  have HA : Hid (∀ W, Calls Tryz.prog 9 #[] W fun r w' => r = .returned (.bool true) ∧ Below W.heap.size W w') := fun W => fixed_any W
  obtain ⟨ua, rfl, sa⟩ := hv
  obtain ⟨ub, rfl, sb⟩ := hu
  have HM1 : Hid (∀ W, Below w.heap.size w W → Calls Tryz.prog 12 #[.agg #[.int .i64 a.p, ua, .int .u64 (a.r : Int)], .agg #[.int .i64 b.p, ub, .int .u64 (b.r : Int)]] W fun e w' => MgQ W a b e w') := fun W h => merge_any a b _ _ ha hb W ⟨ua, rfl, sa.below h⟩ ⟨ub, rfl, sb.below h⟩
  have HM2 : Hid (∀ W, Below w.heap.size w W → Calls Tryz.prog 13 #[.agg #[.int .i64 a.p, ua, .int .u64 (a.r : Int)], .agg #[.int .i64 b.p, ub, .int .u64 (b.r : Int)]] W fun e w' => RmQ W a b e w') := fun W h => rmerge_any a b _ _ ha hb W ⟨ua, rfl, sa.below h⟩ ⟨ub, rfl, sb.below h⟩
  have HS : Hid (∀ W x y, SV W x (mgS a b).1.vs → SV W y (mgS a b).1.vs → Calls Tryz.prog 14 #[.agg #[.int .i64 (mgS a b).1.p, x, .int .u64 ((mgS a b).1.r : Int)], .agg #[.int .i64 (mgS a b).1.p, y, .int .u64 ((mgS a b).1.r : Int)]] W fun e w' => e = .returned (.bool true) ∧ Below W.heap.size W w') := fun W x y hx hy => by
    have := rsames_any (mgS a b).1 (mgS a b).1 _ _ (mg_w ha hb) (mg_w ha hb) W ⟨x, rfl, hx⟩ ⟨y, rfl, hy⟩
    rw [smS_same] at this
    exact this
  obtain ⟨ao, b1, o1, cp1, rfl, -⟩ := sa.open
  obtain ⟨bo, b2, o2, cp2, rfl, -⟩ := sb.open
  have HN := hid_of (Sb.new w a b (.slice ao a.vs.length cp1) (.slice bo b.vs.length cp2))
  unfold MgQ at HM1
  unfold RmQ at HM2
  clear sa sb ha hb
  generalize mgS a b = M at *
  obtain ⟨⟨Mp, Mvs, Mr⟩, er⟩ := M
  simp only at HM1 HM2 HS
  have hee : (er == er) = true := by simp
  go_enter Tryz.func5, Tryz.ntmps5
  go_upto_region 1 with fail
  generalize (w.alloc (.cells #[.int .i64 a.p, .slice ao a.vs.length cp1, .int .u64 (a.r : Int)] 26)).alloc (.cells #[.int .i64 b.p, .slice bo b.vs.length cp2, .int .u64 (b.r : Int)] 26) = w0 at HN ⊢
  obtain ⟨c0, c1, c2, _, _, _⟩ := three_cells HN.out.g1
  obtain ⟨d0, d1, d2, _, _, _⟩ := three_cells HN.out.g2
  go_upto_region 2 with (go_at_call 12; (with_reducible refine (HM1.out _ HN.out.bl).mono ?_); rintro e w1 ⟨u1, J, rfl, hb1, hJ, hJm⟩; obtain ⟨a1, g1, n1, rfl, -⟩ := own_slice hJ.g.own)
  have hbn := bel1 w1 (.cells #[.int .i64 Mp, .slice a1 J.length n1, .int .u64 (Mr : Int)] 26)
  have HB1 := hid_of (HN.out.below (bt hb1 hbn))
  have HC1 := hid_of (new_1 w1 (.cells #[.int .i64 Mp, .slice a1 J.length n1, .int .u64 (Mr : Int)] 26))
  have HV1 : Hid (SV (w1.alloc (.cells #[.int .i64 Mp, .slice a1 J.length n1, .int .u64 (Mr : Int)] 26)) (.slice a1 J.length n1) Mvs) := by
    have := hJ.svA.below hbn
    rw [hJm] at this
    exact this
  generalize w1.alloc (.cells #[.int .i64 Mp, .slice a1 J.length n1, .int .u64 (Mr : Int)] 26) = w2 at HB1 HC1 HV1 ⊢
  generalize w1.heap.size = bg at HC1 ⊢
  clear c0 c1 c2 d0 d1 d2 hb1 hJ hJm hbn HN HM1
  obtain ⟨c0, c1, c2, _, _, _⟩ := three_cells HB1.out.g1
  obtain ⟨d0, d1, d2, _, _, _⟩ := three_cells HB1.out.g2
  go_upto_region 3 with (go_at_call 13; (with_reducible refine (HM2.out _ HB1.out.bl).mono ?_); rintro e w3 ⟨x, rfl, hx, hb3⟩; obtain ⟨xo, x1, x2, xc, rfl, -⟩ := hx.open)
  have hbn := bel1 w3 (.cells #[.int .i64 Mp, .slice xo Mvs.length xc, .int .u64 (Mr : Int)] 26)
  have HB3 : Hid (Below w.heap.size w (w3.alloc (.cells #[.int .i64 Mp, .slice xo Mvs.length xc, .int .u64 (Mr : Int)] 26))) := bt HB1.out.bl (bt hb3 hbn)
  have HC2 := hid_of (hkN HC1.out (bt hb3 hbn))
  have HC3 := hid_of (new_1 w3 (.cells #[.int .i64 Mp, .slice xo Mvs.length xc, .int .u64 (Mr : Int)] 26))
  have HV2 := hid_of (HV1.out.below (bt hb3 hbn))
  have HV3 := hid_of (hx.below hbn)
  generalize w3.alloc (.cells #[.int .i64 Mp, .slice xo Mvs.length xc, .int .u64 (Mr : Int)] 26) = w4 at HB3 HC2 HC3 HV2 HV3 ⊢
  generalize w3.heap.size = bh at HC3 ⊢
  clear c0 c1 c2 d0 d1 d2 hb3 hx hbn HB1 HC1 HV1 HM2
  obtain ⟨c0, c1, c2, _, _, _⟩ := three_cells HC2.out
  obtain ⟨d0, d1, d2, _, _, _⟩ := three_cells HC3.out
  go_wp2_with (first
    | (go_at_call 14; (with_reducible refine (HS.out _ _ _ HV2.out HV3.out).mono ?_); rintro e w5 ⟨rfl, hb5⟩)
    | (go_at_call 9; (with_reducible refine (HA.out _).mono ?_); rintro e w6 ⟨rfl, hb6⟩))
  go_ret
  exact ⟨rfl, bt HB3.out (bt hb5 hb6)⟩
set_option maxRecDepth 100000 in
theorem snapMerges_lifted (os : Os) (started : os.Started) (H : Type) (enc : TypeId × Value → H) :
    ReturnsInHanded {} Tryz.checked os 5 .any (Rows.snapMergesSpec.pre6 enc Tryz.prog Tryz.f5 Rows.snapMergesRow.domain false) (Rows.snapMergesSpec.post enc Tryz.prog Tryz.f5 false true false false) := by
  refine returnsInHanded_of_change_sized (C := Tryz.checked) own started (by kernel_rfl) Tryz.func5
    (ChangeSpec.witness6 (enc := enc) (C := Tryz.checked) false ⟨#[], #[.agg #[.int .i64 0, .slice none 0 0, .int .u64 0], .agg #[.int .i64 0, .slice none 0 0, .int .u64 0]], []⟩ 8 (by kernel_rfl) (by kernel_rfl) (by kernel_rfl) (by kernel_rfl)) ?_
  intro W base args ds gs before hval0 hW _ hsz0 _
  have hsz : (DataW.weightsEach Tryz.prog (Tryz.f5.params.toList ++ Rows.snapMergesSpec.plain.varTypes Tryz.prog) (ds ++ gs)).all (· ≤ reachBytes) = true := hsz0
  have hval : ∀ (j : Nat) t v, Tryz.f5.params[j]? = some t → args[j]? = some v → Value.okWide Tryz.prog W .any base t v := hval0
  have hW' := hW
  obtain ⟨p, q, hA0, hV, rfl, hfz, hnd⟩ := hW
  have hA : DataW.TrodAll enc Tryz.prog W 0 (fun _ => true) true Tryz.f5.params.toList args.toList ds p := hA0
  rw [Tryz.params5] at hA hval hsz
  obtain ⟨v0, v1, d0, d1, p0, p1, rfl, rfl, rfl, h0, h1⟩ := trodAll_two hA
  obtain ⟨rfl, rfl⟩ := trodVars_none hV
  clear hA0 hval0 hsz0
  simp only [List.append_nil] at hW'
  have hlt : ∀ x ∈ p0 ++ p1, x.block < W.heap.size := fun x hx => by simpa using hW'.lt x hx
  simp only [List.append_nil, List.cons_append, List.nil_append, DataW.weightsEach, List.all_append, Bool.and_eq_true] at hsz
  have hargs : ∀ (W' : World), Below W.heap.size W W' → DataW.TrodAll enc Tryz.prog W' 0 (fun b => decide (b < W.heap.size)) true [26, 26] [v0, v1] [d0, d1] (p0 ++ p1) := fun W' hn =>
    trodAll_mk2 (Below.trod laidOut (by kernel_rfl) (of_decide_eq_true (by kernel_rfl)) h0 hn (fun x hx => hlt x (by simp [hx])))
      (Below.trod laidOut (by kernel_rfl) (of_decide_eq_true (by kernel_rfl)) h1 hn (fun x hx => hlt x (by simp [hx])))
  obtain ⟨s, hs, hsw⟩ := open_snap (hval 0 26 v0 rfl rfl) h0 hsz.1
  obtain ⟨r, hr, hrw⟩ := open_snap (hval 1 26 v1 rfl rfl) h1 hsz.2.1
  refine (merges_walk s r v0 v1 hsw hrw W hs hr).mono fun e W' ⟨he, hb⟩ => ?_
  subst he
  exact ⟨_, rfl, _, _, _, [], _, [], hW', trodAll_mk1 (shut_bool Tryz.underlying4 _), hargs W' hb, rfl, hb.frame _, fun h => by cases h⟩
theorem snapMerges_holds : Rows.SnapMergesSaid :=
  OpenClaim.holds_of_wide 5 Tryz.f5 rfl rfl rfl rfl rfl rfl rfl ⟨rfl, rfl, rfl, rfl, rfl⟩ rfl rfl rfl rfl rfl (by kernel_rfl) Tryz.func5 (by kernel_rfl)
    (of_decide_eq_true (by kernel_rfl)) (by unfold Func.isWrapper; first | (rw [if_pos (by decide +kernel)]; kernel_rfl) | (rw [if_neg (by decide +kernel)]; exact ⟨rfl, rfl⟩))
    (fun os started H enc _ => snapMerges_lifted os started H enc)
end Go.Proofs.YtckdkcnnfjbdmaaGreat
