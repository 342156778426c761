/- THE LAW'S fixed AND step. Own work of the verifier. -/
import Derived.Test.YthghillefmppjaaP5
namespace Go.Proofs.Ythghillefmppjaa
open Go.RowKit

theorem cast2 : (2 : Int) = ((2 : Nat) : Int) := rfl
theorem fixed_any (w : World) : Calls Try.prog 5 #[] w fun e w' => e = .returned (.bool true) ∧ Below w.heap.size w w' := by
  have HN : Hid (∀ _ : Unit, Calls Try.prog 6 #[.int .i64 2] w fun e w' => e = .returned (.tuple #[.pointer (some ⟨w.heap.size, 0, none⟩), .int .i64 0]) ∧ Hid (CP w' w.heap.size [false, false]) ∧ Hid (Below w.heap.size w w')) := fun _ => new_ok 2 (by decide) (by decide) w
  have H1 : Hid (∀ W, CP W w.heap.size [false, false] → Calls Try.prog 9 #[.pointer (some ⟨w.heap.size, 0, none⟩)] W fun e w' => e = .returned (.tuple #[.int .i64 0, .int .i64 0]) ∧ Hid (CP w' w.heap.size [true, false]) ∧ Hid (Chg (fun y => y = w.heap.size) W w')) := fun W h => take_any _ _ W h (by decide)
  have H2 : Hid (∀ W, CP W w.heap.size [true, false] → Calls Try.prog 9 #[.pointer (some ⟨w.heap.size, 0, none⟩)] W fun e w' => e = .returned (.tuple #[.int .i64 1, .int .i64 0]) ∧ Hid (CP w' w.heap.size [true, true]) ∧ Hid (Chg (fun y => y = w.heap.size) W w')) := fun W h => take_any _ _ W h (by decide)
  have H3 : Hid (∀ W, CP W w.heap.size [true, true] → Calls Try.prog 9 #[.pointer (some ⟨w.heap.size, 0, none⟩)] W fun e w' => e = .returned (.tuple #[.int .i64 0, .int .i64 14]) ∧ Hid (CP w' w.heap.size [true, true]) ∧ Hid (Chg (fun y => y = w.heap.size) W w')) := fun W h => take_any _ _ W h (by decide)
  go_enter Try.func5, Try.ntmps5
  go_wp2_with (first
    | (go_at_call 6; with_reducible refine (HN.out ()).mono ?_; rintro e w1 ⟨rfl, HC1, HB1⟩)
    | (go_at_call 9; with_reducible refine (H1.out _ HC1.out).mono ?_; rintro e w2 ⟨rfl, HC2, HB2⟩)
    | (go_at_call 9; with_reducible refine (H2.out _ HC2.out).mono ?_; rintro e w3 ⟨rfl, HC3, HB3⟩)
    | (go_at_call 9; with_reducible refine (H3.out _ HC3.out).mono ?_; rintro e w4 ⟨rfl, HC4, HB4⟩))
  go_ret
  have hs := HB1.out.size
  have q2 := HB2.out.below (B := w.heap.size) hs (fun x hx => by omega)
  have q3 := HB3.out.below (B := w.heap.size) (Nat.le_trans hs q2.size) (fun x hx => by omega)
  have q4 := HB4.out.below (B := w.heap.size) (Nat.le_trans hs (Nat.le_trans q2.size q3.size)) (fun x hx => by omega)
  exact ⟨rfl, ((HB1.out.trans q2).trans q3).trans q4⟩
/-- Both pools behind a step. -/
def StQ (bp br gr : Nat) (T : List Bool) (w w' : World) : Prop := ∃ T', T'.length = T.length ∧ CP w' bp T' ∧ RP w' br gr T' ∧ Chg (fun y => y = bp ∨ y = gr) w w'
theorem cp_ne {W : World} {b g : Nat} {T T' : List Bool} (h : CP W b T) (h' : RB W g T') : b ≠ g := fun e => by
  unfold CP at h
  unfold RB at h'
  rw [e, h'] at h
  injection h with h1
  injection h1 with _ h2
  exact absurd h2 (by decide)
theorem cp_ner {W : World} {b c g : Nat} {T T' : List Bool} (h : CP W b T) (h' : RP W c g T') : b ≠ c := fun e => by
  have h2 := h'.blk
  unfold CP at h
  rw [e, h2] at h
  injection h with h1
  injection h1 with _ h3
  exact absurd h3 (by decide)
theorem st_of {bp br gr : Nat} {T T' : List Bool} {w w1 w2 : World} (hl : T'.length = T.length) (_hr : RP w br gr T) (h1 : CP w1 bp T') (c1 : Chg (fun y => y = bp) w w1) (h2 : RP w2 br gr T') (c2 : Chg (fun y => y = gr) w1 w2) (hne : bp ≠ gr) : StQ bp br gr T w w2 :=
  ⟨T', hl, h1.chg c2 hne, h2, ⟨c2.os.trans c1.os, c2.tape.trans c1.tape, c2.output.trans c1.output, Nat.le_trans c1.size c2.size, fun k hk hn => (c2.block k (Nat.lt_of_lt_of_le hk c1.size) (fun e => hn (Or.inr e))).trans (c1.block k hk (fun e => hn (Or.inl e)))⟩⟩
theorem st_bel {bp br gr : Nat} {T : List Bool} {w w1 w2 : World} (hb : Below w.heap.size w w1) (h : StQ bp br gr T w1 w2) : StQ bp br gr T w w2 := by
  obtain ⟨T', h1, h2, h3, h4⟩ := h
  exact ⟨T', h1, h2, h3, (Chg.of_below hb).trans h4 (fun _ h => Or.inl h)⟩
theorem st_chg {bp br gr : Nat} {T : List Bool} {w w1 : World} (hp : CP w bp T) (hr : RP w br gr T) (hb : Below w.heap.size w w1) : StQ bp br gr T w w1 := ⟨T, rfl, hp.bel hb, hr.bel hb, Chg.of_below hb⟩
theorem RP.chg1 {W W' : World} {bp br gr : Nat} {T : List Bool} (h : RP W br gr T) (k : Chg (fun y => y = bp) W W') (h1 : Hid (bp ≠ br)) (h2 : Hid (bp ≠ gr)) : RP W' br gr T := h.chg k (fun e => h1 e.symm) (fun e => h2 e.symm)
theorem step_take (bp br gr : Nat) (T : List Bool) (n : Int) (o : Bool) (w : World) (hp : CP w bp T) (hr : RP w br gr T) (hT : T.length ≤ 16) :
    Calls Try.prog 8 #[.pointer (some ⟨bp, 0, none⟩), .pointer (some ⟨br, 0, none⟩), .agg #[.int .i64 1, .int .i64 n, .bool o]] w fun e w' => e = .returned (.bool true) ∧ StQ bp br gr T w w' := by
  have HP := hid_of hp
  have HR := hid_of hr
  obtain ⟨a, ea, htk⟩ : ∃ a ea, tk T = .returned (.tuple #[.int .i64 a, .int .i64 ea]) := by
    unfold tk
    split
    · exact ⟨_, _, rfl⟩
    · exact ⟨_, _, rfl⟩
  have H1 : Hid (∀ W, CP W bp T → Calls Try.prog 9 #[.pointer (some ⟨bp, 0, none⟩)] W fun e w' => e = tk T ∧ Hid (CP w' bp (T.set (fst T) true)) ∧ Hid (Chg (fun y => y = bp) W w')) := fun W h => take_any _ _ W h hT
  have H2 : Hid (∀ W, RP W br gr T → Calls Try.prog 12 #[.pointer (some ⟨br, 0, none⟩)] W fun e w' => e = tk T ∧ Hid (RP w' br gr (T.set (fst T) true)) ∧ Hid (Chg (fun y => y = gr) W w')) := fun W h => rtake_any _ _ _ W h hT
  rw [htk] at H1 H2
  have hne := hid_of (cp_ne hp hr.row)
  have hne2 := hid_of (cp_ner hp hr)
  clear htk hp hr
  go_enter Try.func8, Try.ntmps8
  go_wp2_with (first
    | (go_at_call 9; with_reducible refine (H1.out _ (HP.out.bel (bel1 _ _))).mono ?_; rintro e w2 ⟨rfl, HC2, HB2⟩)
    | (go_at_call 12; with_reducible refine (H2.out _ ((HR.out.bel (bel1 _ _)).chg1 HB2.out hne2 hne)).mono ?_; rintro e w3 ⟨rfl, HC3, HB3⟩))
  go_ret
  exact ⟨rfl, st_bel (bel1 _ _) (st_of (by simp) (HR.out.bel (bel1 _ _)) HC2.out HB2.out HC3.out HB3.out hne.out)⟩
theorem box_one {w w2 : World} {bp : Nat} {a b c : Value} {t : TypeId} (h : Hid (Chg (fun y => y = bp) (w.alloc (.cells #[a, b, c] t)) w2)) (hp : Hid (bp < w.heap.size)) : w2.cell? ⟨w.heap.size, 1, none⟩ = some b := by
  have h1 := h.out.at_ (new_1 w (.cells #[a, b, c] t)) (fun e => by have := hp.out; omega)
  simp [World.cell?, h1]
theorem step_give (bp br gr : Nat) (T : List Bool) (n : Int) (o : Bool) (w : World) (hp : CP w bp T) (hr : RP w br gr T) (hT : T.length ≤ 16) :
    Calls Try.prog 8 #[.pointer (some ⟨bp, 0, none⟩), .pointer (some ⟨br, 0, none⟩), .agg #[.int .i64 2, .int .i64 n, .bool o]] w fun e w' => e = .returned (.bool true) ∧ StQ bp br gr T w w' := by
  have HP := hid_of hp
  have HR := hid_of hr
  have hne := hid_of (cp_ne hp hr.row)
  have hne2 := hid_of (cp_ner hp hr)
  clear hp hr
  by_cases c : 0 ≤ n ∧ n < (T.length : Int)
  · obtain ⟨i, rfl⟩ := Int.eq_ofNat_of_zero_le c.1
    have hi : i < T.length := by omega
    clear c
    by_cases hf : T[i] = false
    · have H1 : Hid (∀ W, CP W bp T → Calls Try.prog 10 #[.pointer (some ⟨bp, 0, none⟩), .int .i64 (i : Int)] W fun e w' => e = .returned (.int .i64 8) ∧ ∃ n, w' = W.drewN n) := fun W h => give_state bp i T W h hT hi (by rw [List.getElem?_eq_getElem hi, hf])
      have H2 : Hid (∀ W, RP W br gr T → Calls Try.prog 13 #[.pointer (some ⟨br, 0, none⟩), .int .i64 (i : Int)] W fun e w' => e = .returned (.int .i64 8) ∧ w' = W) := fun W h => rgive_state br gr i T W h hi hf
      clear hf
      go_enter Try.func8, Try.ntmps8
      go_wp2_with (first
        | (go_at_call 10; with_reducible refine (H1.out _ (HP.out.bel (bel1 _ _))).mono ?_; rintro e w2 ⟨rfl, m, rfl⟩)
        | (go_at_call 13; with_reducible refine (H2.out _ (HR.out.bel (bel_drewN (bel1 _ _) m))).mono ?_; rintro e w3 ⟨rfl, rfl⟩))
      go_ret
      exact ⟨rfl, st_chg HP.out HR.out (bel_drewN (bel1 _ _) m)⟩
    · have hf1 : T[i] = true := by simpa using hf
      have H1 : Hid (∀ W, CP W bp T → Calls Try.prog 10 #[.pointer (some ⟨bp, 0, none⟩), .int .i64 (i : Int)] W fun e w' => e = .returned (.int .i64 0) ∧ Hid (CP w' bp (T.set i false)) ∧ Hid (Chg (fun y => y = bp) W w')) := fun W h => give_ok bp i T W h hT hi (by rw [List.getElem?_eq_getElem hi, hf1])
      have H2 : Hid (∀ W, RP W br gr T → Calls Try.prog 13 #[.pointer (some ⟨br, 0, none⟩), .int .i64 (i : Int)] W fun e w' => e = .returned (.int .i64 0) ∧ Hid (RP w' br gr (T.set i false)) ∧ Hid (Chg (fun y => y = gr) W w')) := fun W h => rgive_ok br gr i T W h hi hf1
      have hlt := hid_of HP.out.lt
      clear hf hf1
      go_enter Try.func8, Try.ntmps8
      go_wp2_with (first
        | (go_at_call 10; with_reducible refine (H1.out _ (HP.out.bel (bel1 _ _))).mono ?_; rintro e w2 ⟨rfl, HC2, HB2⟩; have cb := box_one HB2 hlt)
        | (go_at_call 13; with_reducible refine (H2.out _ ((HR.out.bel (bel1 _ _)).chg1 HB2.out hne2 hne)).mono ?_; rintro e w3 ⟨rfl, HC3, HB3⟩))
      go_ret
      exact ⟨rfl, st_bel (bel1 _ _) (st_of (by simp) (HR.out.bel (bel1 _ _)) HC2.out HB2.out HC3.out HB3.out hne.out)⟩
  · have H1 : Hid (∀ W, CP W bp T → Calls Try.prog 10 #[.pointer (some ⟨bp, 0, none⟩), .int .i64 n] W fun e w' => e = .returned (.int .i64 1) ∧ w' = W) := fun W h => give_arg bp T n W h c
    have H2 : Hid (∀ W, RP W br gr T → Calls Try.prog 13 #[.pointer (some ⟨br, 0, none⟩), .int .i64 n] W fun e w' => e = .returned (.int .i64 1) ∧ w' = W) := fun W h => rgive_arg br gr T n W h c
    clear c
    go_enter Try.func8, Try.ntmps8
    go_wp2_with (first
      | (go_at_call 10; with_reducible refine (H1.out _ (HP.out.bel (bel1 _ _))).mono ?_; rintro e w2 ⟨rfl, rfl⟩)
      | (go_at_call 13; with_reducible refine (H2.out _ (HR.out.bel (bel1 _ _))).mono ?_; rintro e w3 ⟨rfl, rfl⟩))
    go_ret
    exact ⟨rfl, st_chg HP.out HR.out (bel1 _ _)⟩
theorem step_free (bp br gr : Nat) (T : List Bool) (k n : Int) (o : Bool) (w : World) (hp : CP w bp T) (hr : RP w br gr T) (hT : T.length ≤ 16) (h1 : ¬ k = 1) (h2 : ¬ k = 2) :
    Calls Try.prog 8 #[.pointer (some ⟨bp, 0, none⟩), .pointer (some ⟨br, 0, none⟩), .agg #[.int .i64 k, .int .i64 n, .bool o]] w fun e w' => e = .returned (.bool true) ∧ StQ bp br gr T w w' := by
  have HP := hid_of hp
  have HR := hid_of hr
  have HL : Hid (∀ W, CP W bp T → RP W br gr T → Calls Try.prog 14 #[.pointer (some ⟨bp, 0, none⟩), .pointer (some ⟨br, 0, none⟩)] W fun e w' => e = .returned (.bool true) ∧ Hid (Below W.heap.size W w')) := fun W h h' => lfree_any bp br gr T W h h' hT
  clear hp hr
  go_enter Try.func8, Try.ntmps8
  go_wp2_with (go_at_call 14; with_reducible refine (HL.out _ (HP.out.bel (bel1 _ _)) (HR.out.bel (bel1 _ _))).mono ?_; rintro e w2 ⟨rfl, HB2⟩)
  go_ret
  exact ⟨rfl, st_chg HP.out HR.out (bt (bel1 _ _) HB2.out)⟩
end Go.Proofs.Ythghillefmppjaa
