/- TEXTS THAT ARE THE SAME: values, snapshots. Own work of the verifier. -/
import Derived.Test.YtkakanejiakbkaaGreatDoorVBN
namespace Go.Proofs.YtkakanejiakbkaaGreatDoor
open Go.RowKit Me

/-- How a byte of a help is written begins as no end does. -/
theorem hesc_cut : ∀ (v v' X X' : List UInt8), La.escL false v ++ 10 :: X = La.escL false v' ++ 10 :: X' → v = v' ∧ X = X'
  | [], [], X, X', h => ⟨rfl, by simpa [La.escL] using h⟩
  | [], b :: r, X, X', h => by
    rw [La.escL, La.escL, List.nil_append] at h
    have hn := nf_esc false [b]
    rw [La.escL, La.escL, List.append_nil] at hn
    cases hq : La.esc1 false b with
    | nil => unfold La.esc1 at hq; split at hq <;> (try split at hq) <;> simp at hq
    | cons c t =>
      rw [hq, List.cons_append, List.cons_append] at h
      exact absurd (List.cons.inj h).1.symm (hn c (by rw [hq]; exact List.mem_cons_self))
  | b :: r, [], X, X', h => by
    rw [La.escL, La.escL, List.nil_append] at h
    have hn := nf_esc false [b]
    rw [La.escL, La.escL, List.append_nil] at hn
    cases hq : La.esc1 false b with
    | nil => unfold La.esc1 at hq; split at hq <;> (try split at hq) <;> simp at hq
    | cons c t =>
      rw [hq, List.cons_append, List.cons_append] at h
      exact absurd (List.cons.inj h).1 (hn c (by rw [hq]; exact List.mem_cons_self))
  | b :: r, b' :: r', X, X', h => by
    rw [La.escL, La.escL] at h
    have key : b = b' ∧ La.escL false r ++ 10 :: X = La.escL false r' ++ 10 :: X' := by
      unfold La.esc1 at h
      simp only [Bool.false_eq_true, false_and, or_false] at h
      by_cases k1 : b.toNat = 92
      · rw [if_pos k1] at h
        by_cases k2 : b'.toNat = 92
        · rw [if_pos k2] at h
          simp only [List.cons_append, List.nil_append, List.cons.injEq, true_and] at h
          exact h
        · rw [if_neg k2] at h
          by_cases k3 : b'.toNat = 10
          · rw [if_pos k3] at h
            simp only [List.cons_append, List.nil_append, List.cons.injEq, true_and] at h
            rw [h.1] at k1
            exact absurd k1 (by decide)
          · rw [if_neg k3] at h
            simp only [List.cons_append, List.nil_append, List.cons.injEq] at h
            exact absurd (by rw [← h.1]; rfl) k2
      · rw [if_neg k1] at h
        by_cases k4 : b.toNat = 10
        · rw [if_pos k4] at h
          by_cases k2 : b'.toNat = 92
          · rw [if_pos k2] at h
            simp only [List.cons_append, List.nil_append, List.cons.injEq, true_and] at h
            rw [← h.1] at k2
            exact absurd k2 (by decide)
          · rw [if_neg k2] at h
            by_cases k3 : b'.toNat = 10
            · rw [if_pos k3] at h
              simp only [List.cons_append, List.nil_append, List.cons.injEq, true_and] at h
              exact ⟨UInt8.toNat_inj.1 (k4.trans k3.symm), h⟩
            · rw [if_neg k3] at h
              simp only [List.cons_append, List.nil_append, List.cons.injEq] at h
              exact absurd (by rw [← h.1]; rfl) k2
        · rw [if_neg k4] at h
          by_cases k2 : b'.toNat = 92
          · rw [if_pos k2] at h
            simp only [List.cons_append, List.nil_append, List.cons.injEq] at h
            exact absurd (by rw [h.1]; rfl) k1
          · rw [if_neg k2] at h
            by_cases k3 : b'.toNat = 10
            · rw [if_pos k3] at h
              simp only [List.cons_append, List.nil_append, List.cons.injEq] at h
              exact absurd (by rw [h.1]; rfl) k1
            · rw [if_neg k3] at h
              simp only [List.cons_append, List.nil_append, List.cons.injEq] at h
              exact h
    obtain ⟨e1, e2⟩ := key
    obtain ⟨e3, e4⟩ := hesc_cut r r' X X' e2
    exact ⟨by rw [e1, e3], e4⟩
theorem nb_plain {c : Bool} {l : List UInt8} (z : UInt8) (hz : La.gd c z.toNat = false) (h : La.plainB c l = true) : Nb z l := fun b hb e => by
  have := row_gd c l (plain_z h).2.2 b hb
  rw [e, hz] at this
  exact absurd this (by decide)
theorem nb_app {z : UInt8} {a b : List UInt8} (h : Nb z a) (k : Nb z b) : Nb z (a ++ b) := fun c hc => (List.mem_append.1 hc).elim (h c) (k c)
theorem nb_lit {z : UInt8} (l : List UInt8) (h : l.all (fun b => b != z) = true) : Nb z l := fun b hb => by
  have := List.all_eq_true.1 h b hb
  simpa using this
theorem nb_lbs {d : La.Ds} (h : DOk d) {M : List La.Lb} (hM : ∀ a ∈ M, Nb 61 a.1) : ∀ a ∈ d.labels ++ M, Nb 61 a.1 := fun a ha => (List.mem_append.1 ha).elim (fun k => nb_plain 61 (by decide) (h.v a k).1) (hM a)
theorem nb_one {n v : List UInt8} (h : n.all (fun b => b != 61) = true) : ∀ a ∈ ([(n, v)] : List La.Lb), Nb 61 a.1 := fun a ha => by rw [List.mem_singleton.1 ha]; exact nb_lit n h
theorem nb_none : ∀ a ∈ ([] : List La.Lb), Nb 61 a.1 := fun a ha => by cases ha
/-- Lines of the same family. -/
theorem se_inj {d d' : La.Ds} (hd : DOk d) (hd' : DOk d') {en en' : List UInt8} {M M' : List La.Lb} {nu nu' : List UInt8} (he : en.all (fun b => b != 123) = true) (he' : en'.all (fun b => b != 123) = true) (hM : ∀ a ∈ M, Nb 61 a.1) (hM' : ∀ a ∈ M', Nb 61 a.1) (hu : Hi nu) (hu' : Hi nu') (e : seT d en M nu = seT d' en' M' nu') :
    d.name ++ en = d'.name ++ en' ∧ d.labels ++ M = d'.labels ++ M' ∧ nu = nu' :=
  se_cut (nb_app (nb_plain 123 (by decide) hd.n) (nb_lit _ he)) (nb_app (nb_plain 123 (by decide) hd'.n) (nb_lit _ he')) (nb_lbs hd hM) (nb_lbs hd' hM') hu hu' e
theorem inf_itoa (n : Nat) : inN ≠ Lib.itoa (n : Int) := by
  intro e
  obtain ⟨b, r, e1, e2⟩ := dec_first (Wi.mag (n : Int)).toNat
  rw [Wi.itoa_pos' (by omega), e1] at e
  rw [← (List.cons.inj e).1] at e2
  exact absurd e2 (by decide)
/-- The lines of counts, and the one behind them. -/
theorem bk_inj {d d' : La.Ds} (hd : DOk d) (hd' : DOk d') {P m m' : Nat} {R R' : List (List UInt8)} : ∀ (C C' : List Cn) (a : Nat), (∀ c ∈ C, 0 ≤ c.1) → (∀ c ∈ C', 0 ≤ c.1) →
    bkL d P a C ++ seT d buE [(leN, inN)] (Lib.decDigits m) :: R = bkL d' P a C' ++ seT d' buE [(leN, inN)] (Lib.decDigits m') :: R' → C = C' ∧ d.labels = d'.labels ∧ m = m' ∧ R = R'
  | [], [], a, _, _, e => by
    rw [bkL, bkL, List.nil_append, List.nil_append] at e
    obtain ⟨e1, e2⟩ := List.cons.inj e
    obtain ⟨_, e3, e4⟩ := se_inj hd hd' (by decide) (by decide) (nb_one (by decide)) (nb_one (by decide)) (hi_dec _) (hi_dec _) e1
    exact ⟨rfl, (List.append_inj' e3 rfl).1, dec_inj _ _ e4, e2⟩
  | [], c :: r, a, _, _, e => by
    rw [bkL, bkL, List.nil_append, List.cons_append] at e
    obtain ⟨_, e3, _⟩ := se_inj hd hd' (by decide) (by decide) (nb_one (by decide)) (nb_one (by decide)) (hi_dec _) (hi_dec _) (List.cons.inj e).1
    have e4 := (List.append_inj' e3 rfl).2
    exact absurd (Prod.mk.inj (List.cons.inj e4).1).2 (inf_itoa _)
  | c :: r, [], a, _, _, e => by
    rw [bkL, bkL, List.nil_append, List.cons_append] at e
    obtain ⟨_, e3, _⟩ := se_inj hd hd' (by decide) (by decide) (nb_one (by decide)) (nb_one (by decide)) (hi_dec _) (hi_dec _) (List.cons.inj e).1
    have e4 := (List.append_inj' e3 rfl).2
    exact absurd (Prod.mk.inj (List.cons.inj e4).1).2.symm (inf_itoa _)
  | c :: r, c' :: r', a, h, h', e => by
    rw [bkL, bkL, List.cons_append, List.cons_append] at e
    obtain ⟨e1, e2⟩ := List.cons.inj e
    obtain ⟨_, e3, e4⟩ := se_inj hd hd' (by decide) (by decide) (nb_one (by decide)) (nb_one (by decide)) (hi_dec _) (hi_dec _) e1
    have e5 := (Prod.mk.inj (List.cons.inj (List.append_inj' e3 rfl).2).1).2
    have e6 := hiV_inj (Int.ofNat.inj (itoa_inj _ _ e5))
    have e7 : a + c.2 = a + c'.2 := dec_inj _ _ e4
    have hc := h c List.mem_cons_self
    have hc' := h' c' List.mem_cons_self
    have ec : c = c' := Prod.ext (by omega) (by omega)
    rw [← e7] at e2
    obtain ⟨f1, f2⟩ := bk_inj hd hd' r r' (a + c.2) (fun x hx => h x (List.mem_cons_of_mem _ hx)) (fun x hx => h' x (List.mem_cons_of_mem _ hx)) e2
    exact ⟨by rw [ec, f1], f2⟩
/-- A float that may stand in a value. -/
def Fn (x : Nat) : Prop := x < 18446744073709551616 ∧ Re.finF x = true
/-- Texts of floats tell them. -/
def TxI : Prop := ∀ a b : Nat, Fn a → Fn b → Rl.pText a = Rl.pText b → a = b
theorem vl_ext {x y : Vl} (h1 : x.d = y.d) (h2 : x.t = y.t) (h3 : x.cs = y.cs) (h4 : x.n = y.n) (h5 : x.sum = y.sum) (h6 : x.mn = y.mn) (h7 : x.mx = y.mx) : x = y := by
  cases x; cases y; simp only at *; subst h1 h2 h3 h4 h5 h6 h7; rfl
theorem ds_ext {x y : La.Ds} (h1 : x.kind = y.kind) (h2 : x.name = y.name) (h3 : x.help = y.help) (h4 : x.labels = y.labels) : x = y := by
  cases x; cases y; simp only at *; subst h1 h2 h3 h4; rfl
theorem fz_z {x : Vl} (h : fz x = true) : x.sum = 0 ∧ x.mn = 0 ∧ x.mx = 0 := by
  unfold fz at h
  simp only [Bool.and_eq_true, decide_eq_true_eq] at h
  exact ⟨h.1.1, h.1.2, h.2⟩
theorem len_z {α : Type} {l : List α} (h : l.length = 0) : l = [] := List.eq_nil_of_length_eq_zero h
theorem vl_inj (hT : TxI) {p : Int} {P : Nat} (_hp : p = (P : Int)) {x y : Vl} (hx : DOk x.d) (hy : DOk y.d) (wx : VW x) (wy : VW y) (bx : holdB p x = true) (by' : holdB p y = true) (hk : x.d.kind = y.d.kind) (hn : x.d.name = y.d.name) (hh : x.d.help = y.d.help) {R R' : List (List UInt8)} (e : vlL P x ++ R = vlL P y ++ R') : x = y ∧ R = R' := by
  unfold vlL at e
  rcases hx.k with k | k | k
  · have k' : y.d.kind = 1 := by omega
    rw [if_pos k, if_pos k'] at e
    unfold ctL at e
    obtain ⟨e1, e2⟩ := List.cons.inj e
    obtain ⟨_, e3, e4⟩ := se_inj hx hy (by decide) (by decide) nb_none nb_none (hi_itoa _) (hi_itoa _) e1
    unfold holdB at bx by'
    rw [if_pos k] at bx
    rw [if_pos k'] at by'
    simp only [Bool.and_eq_true, decide_eq_true_eq] at bx by'
    obtain ⟨z1, z2, z3⟩ := fz_z bx.2
    obtain ⟨y1, y2, y3⟩ := fz_z by'.2
    rw [List.append_nil, List.append_nil] at e3
    exact ⟨vl_ext (ds_ext hk hn hh e3) (itoa_inj _ _ e4) ((len_z bx.1.1.2).trans (len_z by'.1.1.2).symm) (bx.1.2.trans by'.1.2.symm) (z1.trans y1.symm) (z2.trans y2.symm) (z3.trans y3.symm), e2⟩
  · have k' : y.d.kind = 2 := by omega
    have m1 := hold_may bx k
    have m2 := hold_may by' k'
    rw [if_neg (show ¬ x.d.kind = 1 by omega), if_pos k, if_neg (show ¬ y.d.kind = 1 by omega), if_pos k'] at e
    unfold hgL at e
    simp only [List.append_assoc, List.cons_append, List.nil_append] at e
    have c1 : ∀ c ∈ x.cs, 0 ≤ c.1 := fun c hc => by
      obtain ⟨_, _, h3⟩ := may_ok m1
      obtain ⟨i, hi, rfl⟩ := List.mem_iff_getElem.1 hc
      exact (h3 i hi).1
    have c2 : ∀ c ∈ y.cs, 0 ≤ c.1 := fun c hc => by
      obtain ⟨_, _, h3⟩ := may_ok m2
      obtain ⟨i, hi, rfl⟩ := List.mem_iff_getElem.1 hc
      exact (h3 i hi).1
    obtain ⟨e1, e2, e3, e4⟩ := bk_inj hx hy _ _ 0 c1 c2 e
    obtain ⟨e5, e6⟩ := List.cons.inj e4
    obtain ⟨_, _, e7⟩ := se_inj hx hy (by decide) (by decide) nb_none nb_none (hi_itoa _) (hi_itoa _) e5
    unfold holdB at bx by'
    rw [if_neg (by omega), if_pos k] at bx
    rw [if_neg (by omega), if_pos k'] at by'
    simp only [Bool.and_eq_true] at bx by'
    obtain ⟨z1, z2, z3⟩ := fz_z bx.2
    obtain ⟨y1, y2, y3⟩ := fz_z by'.2
    exact ⟨vl_ext (ds_ext hk hn hh e2) (itoa_inj _ _ e7) e1 e3 (z1.trans y1.symm) (z2.trans y2.symm) (z3.trans y3.symm), (List.cons.inj e6).2⟩
  · have k' : y.d.kind = 3 := by omega
    rw [if_neg (by omega), if_neg (by omega), if_neg (by omega), if_neg (by omega)] at e
    unfold holdB at bx by'
    rw [if_neg (by omega), if_neg (by omega)] at bx by'
    simp only [Bool.and_eq_true, decide_eq_true_eq] at bx by'
    obtain ⟨⟨t1, q1⟩, f1⟩ := bx
    obtain ⟨⟨t2, q2⟩, f2⟩ := by'
    unfold flB at f1 f2
    unfold smL at e
    have bad : ∀ {A B : List La.Lb} {u v : List UInt8}, (∀ a ∈ A, Nb 61 a.1) → (∀ a ∈ B, Nb 61 a.1) → Hi u → Hi v → seT x.d [] A u ≠ seT y.d suE B v := fun hA hB hu hv e => by
      have := (se_inj hx hy (by decide) (by decide) hA hB hu hv e).1
      rw [hn] at this
      have := List.append_cancel_left this
      simp at this
    have bad' : ∀ {A B : List La.Lb} {u v : List UInt8}, (∀ a ∈ A, Nb 61 a.1) → (∀ a ∈ B, Nb 61 a.1) → Hi u → Hi v → seT x.d suE A u ≠ seT y.d [] B v := fun hA hB hu hv e => by
      have := (se_inj hx hy (by decide) (by decide) hA hB hu hv e).1
      rw [hn] at this
      have := List.append_cancel_left this
      simp at this
    by_cases n1 : 0 < x.n
    · by_cases n2 : 0 < y.n
      · rw [if_pos n1, if_pos n2] at e
        simp only [List.cons_append, List.nil_append, List.cons.injEq] at e
        obtain ⟨e1, e2, e3, e4, e5⟩ := e
        split at f1
        · exact absurd f1 (by decide)
        split at f2
        · exact absurd f2 (by decide)
        rw [if_neg (by omega)] at f1 f2
        simp only [Bool.and_eq_true] at f1 f2
        obtain ⟨_, g1, g2⟩ := se_inj hx hy (by decide) (by decide) (nb_one (by decide)) (nb_one (by decide)) (hi_text _) (hi_text _) e1
        obtain ⟨_, _, g3⟩ := se_inj hx hy (by decide) (by decide) (nb_one (by decide)) (nb_one (by decide)) (hi_text _) (hi_text _) e2
        obtain ⟨_, _, g4⟩ := se_inj hx hy (by decide) (by decide) nb_none nb_none (hi_text _) (hi_text _) e3
        obtain ⟨_, _, g5⟩ := se_inj hx hy (by decide) (by decide) nb_none nb_none (hi_dec _) (hi_dec _) e4
        exact ⟨vl_ext (ds_ext hk hn hh (List.append_inj' g1 rfl).1) (t1.trans t2.symm) ((len_z q1).trans (len_z q2).symm) (dec_inj _ _ g5) (hT _ _ ⟨wx.sum, f1.1.1.1⟩ ⟨wy.sum, f2.1.1.1⟩ g4) (hT _ _ ⟨wx.mn, f1.1.1.2⟩ ⟨wy.mn, f2.1.1.2⟩ g2) (hT _ _ ⟨wx.mx, f1.1.2⟩ ⟨wy.mx, f2.1.2⟩ g3), e5⟩
      · rw [if_pos n1, if_neg n2] at e
        simp only [List.cons_append, List.nil_append, List.cons.injEq] at e
        exact absurd e.1 (bad (nb_one (by decide)) nb_none (hi_text _) (hi_text _))
    · by_cases n2 : 0 < y.n
      · rw [if_neg n1, if_pos n2] at e
        simp only [List.cons_append, List.nil_append, List.cons.injEq] at e
        exact absurd e.1 (bad' nb_none (nb_one (by decide)) (hi_text _) (hi_text _))
      · rw [if_neg n1, if_neg n2] at e
        simp only [List.cons_append, List.nil_append, List.cons.injEq] at e
        obtain ⟨e3, e4, e5⟩ := e
        rw [if_neg (by omega), if_pos (by omega)] at f1 f2
        obtain ⟨z1, z2, z3⟩ := fz_z f1
        obtain ⟨y1, y2, y3⟩ := fz_z f2
        obtain ⟨_, g1, _⟩ := se_inj hx hy (by decide) (by decide) nb_none nb_none (hi_text _) (hi_text _) e3
        rw [List.append_nil, List.append_nil] at g1
        exact ⟨vl_ext (ds_ext hk hn hh g1) (t1.trans t2.symm) ((len_z q1).trans (len_z q2).symm) (by omega) (z1.trans y1.symm) (z2.trans y2.symm) (z3.trans y3.symm), e5⟩
end Go.Proofs.YtkakanejiakbkaaGreatDoor
/- TEXTS THAT ARE THE SAME: snapshots. Own work of the verifier. -/
namespace Go.Proofs.YtkakanejiakbkaaGreatDoor
open Go.RowKit Me

theorem plain_first {c : Bool} {l : List UInt8} (h : La.plainB c l = true) : ∃ b r, l = b :: r ∧ La.gd c b.toNat = true := by
  cases l with
  | nil => exact absurd (plain_z h).1 (by decide)
  | cons b r => exact ⟨b, r, rfl, row_gd c _ (plain_z h).2.2 b List.mem_cons_self⟩
/-- A line of a series is no line of a family. -/
theorem se_ne_he {d d' : La.Ds} (hd : DOk d) (en : List UInt8) (M : List La.Lb) (nu : List UInt8) : seT d en M nu ≠ heT d' := by
  intro e
  obtain ⟨b, r, h1, h2⟩ := plain_first hd.n
  unfold seT heT lnT La.printT at e
  rw [h1] at e
  simp only [List.flatten_cons, List.cons_append, List.cons.injEq] at e
  rw [e.1] at h2
  exact absurd h2 (by decide)
theorem vl_first {P : Nat} (x : Vl) : ∃ en M nu r, vlL P x = seT x.d en M nu :: r := by
  unfold vlL
  split
  · exact ⟨_, _, _, _, rfl⟩
  · split
    · unfold hgL
      cases x.cs with
      | nil => exact ⟨_, _, _, _, rfl⟩
      | cons c r => exact ⟨_, _, _, _, by rw [bkL]; rfl⟩
    · unfold smL
      split
      · exact ⟨_, _, _, _, rfl⟩
      · exact ⟨_, _, _, _, rfl⟩
theorem he_inj {d d' : La.Ds} (hd : DOk d) (hd' : DOk d') (e : heT d = heT d') : d.name = d'.name ∧ d.help = d'.help := by
  unfold heT lnT at e
  simp only [List.flatten_cons, List.flatten_nil, List.append_nil, List.append_assoc] at e
  have e1 := List.append_cancel_left e
  obtain ⟨e2, e3⟩ := cut_at (c := 32) (nb_plain 32 (by decide) hd.n) (nb_plain 32 (by decide) hd'.n) e1
  exact ⟨e2, (hesc_cut _ _ [] [] e3).1⟩
theorem kd_inj {k k' : Int} (h : k = 1 ∨ k = 2 ∨ k = 3) (h' : k' = 1 ∨ k' = 2 ∨ k' = 3) (e : kdT k = kdT k') : k = k' := by
  rcases h with rfl | rfl | rfl <;> rcases h' with rfl | rfl | rfl <;> first | rfl | exact absurd e (by decide)
theorem ty_inj {d d' : La.Ds} (hd : DOk d) (hd' : DOk d') (hn : d.name = d'.name) (e : tyT d = tyT d') : d.kind = d'.kind := by
  unfold tyT lnT at e
  simp only [List.flatten_cons, List.flatten_nil, List.append_nil, List.append_assoc] at e
  have e1 := List.append_cancel_left e
  rw [hn] at e1
  have e2 := List.append_cancel_left (List.append_cancel_left e1)
  exact kd_inj hd.k hd'.k (List.append_inj' e2 rfl).1
/-- One behind another is of its family, where it has its name. -/
theorem like_z {p : Int} {y x : Vl} (h : chk1 p (some y) x = 0) (hn : y.d.name = x.d.name) : y.d.kind = x.d.kind ∧ y.d.help = x.d.help := by
  obtain ⟨h1, h2⟩ := chk1_z h
  unfold chk1 at h
  rw [if_neg (by simpa using h1), if_neg (by rw [h2]; decide)] at h
  simp only at h
  unfold plV at h
  split at h
  · exact absurd h (by decide)
  · split at h
    · exact absurd h (by decide)
    · split at h
      · exact absurd h (by decide)
      · rename_i k
        unfold unlB at k
        simp only [hn, decide_true, Bool.true_and, Bool.or_eq_true, decide_eq_true_eq, not_or, Decidable.not_not] at k
        exact k
theorem vs_inj (hT : TxI) {p : Int} {P : Nat} (hp : p = (P : Int)) : ∀ (L L' : List Vl) (q : Option Vl) (i : Nat), (∀ x ∈ L, VW x) → (∀ x ∈ L', VW x) → (chkV p q L i).1 = 0 → (chkV p q L' i).1 = 0 →
    vsL (vlL P) (q.map (·.d.name)) L = vsL (vlL P) (q.map (·.d.name)) L' → L = L'
  | [], [], _, _, _, _, _, _, _ => rfl
  | [], x :: r, q, i, _, _, _, _, e => by
    obtain ⟨en, M, nu, t, hv⟩ := vl_first (P := P) x
    rw [vsL, vsL, hv] at e
    have := congrArg List.length e
    simp at this
  | x :: r, [], q, i, _, _, _, _, e => by
    obtain ⟨en, M, nu, t, hv⟩ := vl_first (P := P) x
    rw [vsL, vsL, hv] at e
    have := congrArg List.length e
    simp at this
  | x :: r, y :: r', q, i, w1, w2, c1, c2, e => by
    rw [chkV] at c1 c2
    have z1 : chk1 p q x = 0 := by
      by_cases k : chk1 p q x = 0
      · exact k
      · rw [if_pos k] at c1; exact absurd c1 k
    have z2 : chk1 p q y = 0 := by
      by_cases k : chk1 p q y = 0
      · exact k
      · rw [if_pos k] at c2; exact absurd c2 k
    rw [if_neg (by simpa using z1)] at c1
    rw [if_neg (by simpa using z2)] at c2
    obtain ⟨d1, b1⟩ := chk1_z z1
    obtain ⟨d2, b2⟩ := chk1_z z2
    have o1 := chkD_z d1
    have o2 := chkD_z d2
    rw [vsL, vsL] at e
    have key : (x.d.kind = y.d.kind ∧ x.d.name = y.d.name ∧ x.d.help = y.d.help) ∧ vlL P x ++ vsL (vlL P) (some x.d.name) r = vlL P y ++ vsL (vlL P) (some y.d.name) r' := by
      by_cases k1 : q.map (·.d.name) = some x.d.name
      · rw [if_pos k1, List.nil_append] at e
        by_cases k2 : q.map (·.d.name) = some y.d.name
        · rw [if_pos k2, List.nil_append] at e
          cases q with
          | none => simp at k1
          | some a =>
            simp only [Option.map_some, Option.some.injEq] at k1 k2
            obtain ⟨f1, f2⟩ := like_z z1 k1
            obtain ⟨f3, f4⟩ := like_z z2 k2
            exact ⟨⟨f1.symm.trans f3, k1.symm.trans k2, f2.symm.trans f4⟩, e⟩
        · rw [if_neg k2] at e
          obtain ⟨en, M, nu, t, hv⟩ := vl_first (P := P) x
          rw [hv] at e
          exact absurd (List.cons.inj e).1 (se_ne_he o1 _ _ _)
      · rw [if_neg k1] at e
        by_cases k2 : q.map (·.d.name) = some y.d.name
        · rw [if_pos k2, List.nil_append] at e
          obtain ⟨en, M, nu, t, hv⟩ := vl_first (P := P) y
          rw [hv] at e
          exact absurd (List.cons.inj e).1.symm (se_ne_he o2 _ _ _)
        · rw [if_neg k2] at e
          simp only [List.cons_append, List.nil_append, List.cons.injEq] at e
          obtain ⟨e1, e2, e3⟩ := e
          obtain ⟨f1, f2⟩ := he_inj o1 o2 e1
          exact ⟨⟨ty_inj o1 o2 f1 e2, f1, f2⟩, e3⟩
    obtain ⟨⟨g1, g2, g3⟩, e2⟩ := key
    obtain ⟨e3, e4⟩ := vl_inj hT hp o1 o2 (w1 x List.mem_cons_self) (w2 y List.mem_cons_self) b1 b2 g1 g2 g3 e2
    subst e3
    rw [vs_inj hT hp r r' (some x) (i + 1) (fun a ha => w1 a (List.mem_cons_of_mem _ ha)) (fun a ha => w2 a (List.mem_cons_of_mem _ ha)) c1 c2 e4]
theorem sn_ext {x y : Sn} (h1 : x.p = y.p) (h2 : x.vs = y.vs) (h3 : x.r = y.r) : x = y := by
  cases x; cases y; simp only at *; subst h1 h2 h3; rfl
/-- TEXTS THAT ARE THE SAME ARE THOSE OF ONE SNAPSHOT. -/
theorem ex_inj (hT : TxI) {s s' : Sn} (hS : SnW s) (hS' : SnW s') (h : (chkS s).1 = 0) (h' : (chkS s').1 = 0) (e : (exL (vlL s.p.toNat) s).flatten = (exL (vlL s'.p.toNat) s').flatten) : s = s' := by
  have e0 := lines_inj _ _ (lno_ex h) (lno_ex h') e
  unfold exL at e0
  simp only [List.cons_append, List.nil_append, List.cons.injEq] at e0
  obtain ⟨e1, e2, e3⟩ := e0
  have ep : s.p = s'.p := by
    unfold gnT lnT at e1
    simp only [List.flatten_cons, List.flatten_nil, List.append_nil, List.append_assoc] at e1
    exact itoa_inj _ _ (List.append_inj' (List.append_cancel_left e1) rfl).1
  have er : s.r = s'.r := by
    unfold reT lnT at e2
    simp only [List.flatten_cons, List.flatten_nil, List.append_nil, List.append_assoc] at e2
    exact dec_inj _ _ (List.append_inj' (List.append_cancel_left e2) rfl).1
  obtain ⟨⟨p1, p2⟩, -⟩ := chkS_p h
  obtain ⟨P, hP⟩ := Int.eq_ofNat_of_zero_le (show 0 ≤ s.p by omega)
  have v1 : ∀ {a : Sn}, (chkS a).1 = 0 → (chkV a.p none a.vs 0).1 = 0 := fun {a} ha => by
    unfold chkS at ha
    split at ha
    · exact absurd ha (by decide)
    · split at ha
      · exact absurd ha (by decide)
      · exact ha
  have q1 := v1 h
  have q2 := v1 h'
  rw [← ep] at q2 e3
  refine sn_ext ep (vs_inj hT (P := s.p.toNat) (by omega) s.vs s'.vs none 0 hS.vs hS'.vs q1 q2 e3) er
end Go.Proofs.YtkakanejiakbkaaGreatDoor
