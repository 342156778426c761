/- awake: its five calls. Own work of the verifier. -/
import Derived.Test.YtfnohbalkpponaaGreatDoorZRJ
namespace Go.Proofs.YtfnohbalkpponaaGreatDoor
open Go.RowKit Go.Maps

/-- All blocks of a registry that are written are new. -/
structure Fresh (R : Rg) (SL : List SlK) (tv : Value) (B : Nat) : Prop where
  b : B ≤ R.b
  k : B ≤ R.k
  ph : B ≤ R.ph
  mp : B ≤ R.mp
  fb : B ≤ R.fb
  gb : ∀ y, GB SL y → B ≤ y
  tv : ∀ y, tv.ownBlock = some y → B ≤ y
def Aw0 (b : Nat) (w W : World) : Prop := ∃ R : Rg, R.b = b ∧ R.n = 1 ∧ R.p = 1 ∧ RgA R [] 0 100 (.slice none 0 0) 0 [] (.map []) [] 0 (fun _ _ _ => []) 0 0 0 [false] W ∧ Below w.heap.size w W ∧ Fresh R [] (.slice none 0 0) w.heap.size
def Aw1 (b : Nat) (t tt : Nat) (T : List Bool) (q : List Int) (w W : World) (k : Nat) : Prop := ∃ (R : Rg) (x : InS) (X : SlK) (room : Int) (tv : Value) (D : DataW Unit) (C : Nat → Nat → Nat → List Int) (r0 r1 : Int), R.b = b ∧ R.n = 1 ∧ R.p = 1 ∧ R.k = k ∧ x.kd = 1 ∧ x.nm = [99] ∧ X.kd = 1 ∧ C 0 0 0 = q ∧ RgA R [x] t room tv 0 [PV.nil] D [X] tt C 0 r0 r1 T W ∧ Below w.heap.size w W ∧ Fresh R [X] tv w.heap.size
theorem dsS_dC : La.DsS dC := ⟨by decide, by decide, fun a ha => by cases ha⟩
theorem aw_new (w : World) : Calls Tryz.prog 6 #[.agg #[.int .i64 1, .int .i64 1, .int .i64 100]] w fun e w' => ∃ b, e = .returned (.tuple #[.pointer (some ⟨b, 0, none⟩), .int .i64 0]) ∧ Hid (Aw0 b w w') := by
  refine Calls.mono (new15_ok 1 1 100 (by decide) (by decide) (by decide) (by decide) (by decide) (by decide) w) ?_
  rintro e w' ⟨R, rfl, q⟩
  obtain ⟨hn, hp, q⟩ := q.out
  have h := rgA_new q (by omega) (by omega) (by omega) (by omega) (by decide)
  rw [hn] at h
  exact ⟨_, rfl, R, rfl, hn, hp, h, q.bel, ⟨q.ge.1, q.ge.2.1, q.ge.2.2.1, q.ge.2.2.2.1, q.ge.2.2.2.2, (fun y ⟨j, hj, _⟩ => absurd hj (Nat.not_lt_zero _)), (fun y hy => by cases hy)⟩⟩
theorem aw_reg {b : Nat} {w W : World} (h : Aw0 b w W) : Calls Tryz.prog 11 #[.pointer (some ⟨b, 0, none⟩), .pointer none, .agg #[.int .i64 1, .string ⟨#[99]⟩, .string ⟨#[]⟩, .slice none 0 0]] W fun e w' => e = .returned (.tuple #[.int .i64 0, .int .i64 0]) ∧ Hid (∃ k, Aw1 b 1 0 [false] (frst 1 ((1 : Nat) : Int)) w w' k) := by
  obtain ⟨R, rfl, hn, hp, H, hb, F⟩ := h
  refine Calls.mono (reg15 H.reg (by decide) dC (.slice none 0 0) (dsC_nil W dC rfl) dsS_dC (Or.inl ⟨rfl, rfl⟩) (by decide) (fun _ => by rw [print_dC]; decide) (fun _ => Or.inl rfl)) ?_
  intro e w' q
  cases q with
  | bad k => exact absurd chk_dC k
  | stay id er k c =>
    cases c with
    | unlike k => cases k
    | old i hi => exact absurd hi (Nat.not_lt_zero _)
    | many _ _ k => cases k
    | room _ _ _ k =>
      rw [hn, hp] at k
      exact absurd (cel_dC ▸ k : (100 : Int) < 4) (by decide)
  | new X tv' lb lo la lc k1 k2 k3 k4 k5 k6 hL k7 k8 k9 k10 k11 =>
    have hN := H.new (x := ⟨dC.kind, dC.name, dC.help, lb, lo, la, lc, dC.labels, X.s⟩) (ser := La.printT dC.name dC.labels) rfl k3 hL (Or.inl rfl) k11 (Nat.zero_le _) (by rw [hn, hp]; show (0 : Int) ≤ celF 1 (1 : Int) (1 : Int); rw [cel_dC]; decide)
    refine ⟨k6, _, R, _, X, _, tv', _, _, 0, 0, rfl, hn, hp, rfl, rfl, rfl, hL.kd.1, ?_, hN, ?_, ?_⟩
    · show moreC _ 0 _ _ 0 0 0 = _
      unfold moreC
      rw [if_pos rfl, hp]
      rfl
    · refine hb.trans (hL.chg.below hb.size ?_)
      intro y hy
      rcases hy with hy | hy | hy
      · exact hy ▸ F.b
      · exact hy ▸ F.mp
      · cases hy
    · refine ⟨F.b, F.k, F.ph, F.mp, F.fb, ?_, ?_⟩
      · rintro y ⟨j, hj, hy⟩
        have hj0 : j = 0 := by have : j < 1 := hj; omega
        subst hj0
        exact Nat.le_trans hb.size (hL.ge y hy)
      · intro y hy
        rcases hL.fr with k | k
        · rw [k] at hy; cases hy
        · exact Nat.le_trans hb.size (k y hy)
theorem aw_rec {b k : Nat} {q : List Int} {w W : World} (h : Aw1 b 1 0 [false] q w W k) : Calls Tryz.prog 10 #[.pointer (some ⟨b, 0, none⟩), .pointer none] W fun e w' => ∃ rc, e = .returned (.tuple #[.pointer (some ⟨rc, 0, none⟩), .int .i64 0]) ∧ Hid (Aw1 b 2 0 [true] q w w' k ∧ Rc w' rc k 0 false) := by
  obtain ⟨R, x, X, room, tv, D, C, r0, r1, rfl, hn, hp, rfl, hk, hnm, hX, hC, H, hb, F⟩ := h
  refine Calls.mono (rec15_ok H.reg.rg (by decide) H.cp (by decide) (by decide)) ?_
  rintro e w' ⟨rc, rfl, q⟩
  obtain ⟨q1, q2, q3⟩ := q.out
  have hN := H.recd q1
  refine ⟨rc, rfl, ⟨R, x, X, room, tv, D, C, r0, r1, rfl, hn, hp, rfl, hk, hnm, hX, hC, hN, ?_, F⟩, q2⟩
  refine hb.trans (q1.chg.below hb.size ?_)
  intro y hy
  rcases hy with hy | hy
  · exact hy ▸ F.b
  · exact hy ▸ F.fb
theorem aw_add {b k rc : Nat} {w W : World} (h : Aw1 b 2 0 [true] (frst 1 ((1 : Nat) : Int)) w W k) (hr : Rc W rc k 0 false) : Calls Tryz.prog 18 #[.pointer (some ⟨b, 0, none⟩), .pointer none, .pointer (some ⟨rc, 0, none⟩), .int .i64 0, .int .i64 7] W fun e w' => e = .returned (.int .i64 0) ∧ Hid (Aw1 b 2 1 [true] [7, 0] w w' k) := by
  obtain ⟨R, x, X, room, tv, D, C, r0, r1, rfl, hn, hp, rfl, hk, hnm, hX, hC, H, hb, F⟩ := h
  have hs := H.sls.s 0 Nat.zero_lt_one Nat.zero_lt_one
  refine add15_in H.reg.rg _ 0 7 0 Nat.zero_lt_one (fun w' => Aw1 R.b 2 1 [true] [7, 0] w w' R.k) (fun W1 hb1 => ?_)
  have H1 := H.below hb1
  have hr1 : Rc W1 rc R.k 0 false := (hb1.block rc (Array.getElem?_eq_some_iff.1 hr).1).trans hr
  obtain ⟨neg, m, hm, hK⟩ := H1.rck (id := 0) Nat.zero_lt_one hr1
  have her : (0 : Int) = ansF (whyF 4 X.kd 7 0 false) 0 R.n := by rw [hX, hn]; exact ans_dC 0
  have hA := recK_add (x := 7) (f := 0) hK (by decide) 0 her
  rw [show ([x] : List InS)[0].s = X.s from hs.1.symm]
  refine Calls.mono hA ?_
  rintro e w' ⟨rfl, q⟩
  have hN := H1.rcd (id := 0) Nat.zero_lt_one (by decide) hm (Or.inl rfl) (by decide) her q.out
  obtain ⟨_, _, _, q4⟩ := q.out
  refine ⟨rfl, R, x, X, room, tv, D, _, _, _, rfl, hn, hp, rfl, hk, hnm, hX, ?_, hN, ?_, F⟩
  · show upR C 0 _ 0 0 0 = _
    unfold upR
    rw [if_pos rfl]
    unfold nxC
    rw [if_pos rfl, show Int.toNat 0 = 0 from rfl, upC_at]
    unfold layD
    rw [if_pos rfl, hC]
    decide +kernel
  · refine (bt hb hb1).trans (q4.below (bt hb hb1).size ?_)
    intro y hy
    rcases hy with hy | hy | hy
    · exact F.gb y ⟨0, Nat.zero_lt_one, hy⟩
    · exact hy ▸ F.k
    · exact hy ▸ F.ph
theorem perm_one {S Y : List VV} (hS : S.length = 1) (hY : Y.length = 1) (h : S.Perm Y) : S[0] = Y[0] := by
  match S, Y, hS, hY, h with
  | [s], [y], _, _, h => exact List.mem_singleton.1 (h.subset (List.mem_singleton.2 rfl))
theorem aw_reset {b k : Nat} {w W : World} (h : Aw1 b 2 1 [true] [7, 0] w W k) : Calls Tryz.prog 17 #[.pointer (some ⟨b, 0, none⟩), .pointer none] W fun e w' => ∃ (g cap : Nat) (r : Int), e = .returned (.agg #[.int .i64 1, .slice (some ⟨g, 0, none⟩) 1 cap, .int .u64 r]) ∧ Hid (Below w.heap.size w w') ∧ Hid (w'.cell? ⟨g, 1, none⟩ = some (.string ⟨#[99]⟩)) ∧ Hid (w'.cell? ⟨g, 4, none⟩ = some (.int .i64 0)) ∧ Hid (w'.cell? ⟨g, 5, none⟩ = some (.int .u64 7)) := by
  obtain ⟨R, x, X, room, tv, D, C, r0, r1, rfl, hn, hp, rfl, hk, hnm, hX, hC, H, hb, F⟩ := h
  refine Calls.mono (reset15 H (by decide)) ?_
  rintro e w' ⟨u, S, L, M, rfl, q⟩
  have q := q.out
  obtain ⟨Y, y1, y2, y3⟩ := q.perm
  have hL : L.length = 1 := q.len
  have hY : Y.length = 1 := y1
  have hS : S.length = 1 := y3.length_eq.trans hY
  have hv := y2 0 Nat.zero_lt_one (by omega) (by omega)
  have hf := q.fold 0 (by omega) Nat.zero_lt_one
  rw [hn] at hf
  have hlh := fold_dC (X := fun s => ptF ([X] : List SlK)[0].kd (C 0 0 s)) (by show ptF X.kd (C 0 0 0) = _; rw [hX, hC]) hf
  have hSY : S[0]'(by omega) = Y[0]'(by omega) := perm_one hS hY y3
  obtain ⟨g, cap, rfl, hc⟩ := vs_cells q.vs 0 (by omega)
  have e1 := hv.d
  have e2 := hv.hi
  have e3 := hv.lo
  rw [show ([x] : List InS)[0] = x from rfl] at e1 e2 e3
  rw [hk] at e2 e3
  rw [hlh.1] at e2
  rw [hlh.2] at e3
  rw [hSY] at hc
  refine ⟨g, cap, IntKind.u64.wrap (rfs 0 r0 r1), by rw [hp, hS]; rfl, ?_, ?_, ?_, ?_⟩
  · refine hb.trans (q.chg.below hb.size ?_)
    intro y hy
    rcases hy with hy | hy | hy | hy | hy
    · exact hy ▸ F.b
    · exact F.gb y hy
    · exact hy ▸ F.k
    · exact hy ▸ F.ph
    · exact F.tv y hy
  · refine (hc 1 (by decide)).trans ?_
    show some (Value.string ⟨(Y[0]'(by omega)).d.name.toArray⟩) = _
    rw [e1, hnm]
  · refine (hc 4 (by decide)).trans ?_
    show some (Value.int .i64 (Y[0]'(by omega)).hi) = _
    rw [e2]
    rfl
  · refine (hc 5 (by decide)).trans ?_
    show some (Value.int .u64 (Y[0]'(by omega)).lo) = _
    rw [e3]
    rfl
end Go.Proofs.YtfnohbalkpponaaGreatDoor
/- awake: the walk. Own work of the verifier. -/
namespace Go.Proofs.YtfnohbalkpponaaGreatDoor
open Go.RowKit Go.Maps

set_option maxHeartbeats 4000000 in
set_option maxRecDepth 100000 in
theorem rawake_any (w : World) : Calls Tryz.prog 5 #[] w fun e w' => e = .returned (.bool true) ∧ Hid (Below w.heap.size w w') := by
  have HN : Hid (∀ _ : Unit, _) := fun _ => aw_new w
  have HR : Hid (∀ b W, Aw0 b w W → _) := fun b W h => aw_reg h
  have HC : Hid (∀ b k q W, Aw1 b 1 0 [false] q w W k → _) := fun b k q W h => aw_rec h
  have HA : Hid (∀ b k rc W, Aw1 b 2 0 [true] (frst 1 ((1 : Nat) : Int)) w W k → Rc W rc k 0 false → _) := fun b k rc W h hr => aw_add h hr
  have HS : Hid (∀ b k W, Aw1 b 2 1 [true] [7, 0] w W k → _) := fun b k W h => aw_reset h
  go_enter Tryz.func5, Tryz.ntmps5
  go_wp2_with (first
    | (go_at_call 6; with_reducible refine Calls.mono (HN.out ()) ?_; rintro e w1 ⟨b, rfl, H1⟩)
    | (go_at_call 11; with_reducible refine Calls.mono (HR.out _ _ H1.out) ?_; rintro e w2 ⟨rfl, H2⟩; obtain ⟨k, H2⟩ := H2.out)
    | (go_at_call 10; with_reducible refine Calls.mono (HC.out _ _ _ _ H2) ?_; rintro e w3 ⟨rc, rfl, H3⟩)
    | (go_at_call 18; with_reducible refine Calls.mono (HA.out _ _ _ _ H3.out.1 H3.out.2) ?_; rintro e w4 ⟨rfl, H4⟩)
    | (go_at_call 17; with_reducible refine Calls.mono (HS.out _ _ _ H4.out) ?_; rintro e w5 ⟨g, cap, r, rfl, HB5, c1, c4, c5⟩; have d1 := kp c1.out (bel1 w5 (.cells #[.int .i64 1, .slice (some ⟨g, 0, none⟩) 1 cap, .int .u64 r] 62)); have d4 := kp c4.out (bel1 w5 (.cells #[.int .i64 1, .slice (some ⟨g, 0, none⟩) 1 cap, .int .u64 r] 62)); have d5 := kp c5.out (bel1 w5 (.cells #[.int .i64 1, .slice (some ⟨g, 0, none⟩) 1 cap, .int .u64 r] 62))))
  go_ret
  exact ⟨rfl, bt HB5.out (bel1 _ _)⟩
end Go.Proofs.YtfnohbalkpponaaGreatDoor
/- RegistryNames: the walk. Own work of the verifier. -/
namespace Go.Proofs.YtfnohbalkpponaaGreatDoor
open Go.RowKit Go.Maps

end Go.Proofs.YtfnohbalkpponaaGreatDoor
