/- THE SHORTEST DIGITS, as the library works them out. Own work of the verifier. -/
import Derived.Test.YthgfeghgcickhaaGreatDoorYBL
namespace Go.Proofs.YthgfeghgcickhaaGreatDoor.Rl
open Go.RowKit

def dLow (u odd : Nat) : Nat := ((u + odd) % 18446744073709551616 + 3) % 18446744073709551616 / 4
def dHigh (u odd : Nat) : Nat := (u + 18446744073709551616 - odd) % 18446744073709551616 / 4
def dMid (u : Nat) : Nat := (u + 1 + u / 4 % 2) % 18446744073709551616 / 4
def scl (x : Nat) (e p : Int) : Nat := usc x (tabHi (p + 348).toNat) (tabLo (p + 348).toNat) ((-(e + l2 p + 3)) % 64).toNat
def pick (m mn mx odd : Nat) (e p : Int) : Nat × Int :=
  if dLow (scl mn e p) odd ≤ dHigh (scl mx e p) odd / 10 * 10 then (dHigh (scl mx e p) odd / 10, -(p - 1))
  else if dLow (scl mn e p) odd < dHigh (scl mx e p) odd then (dMid (scl m e p), -p)
  else (dLow (scl mn e p) odd, -p)
/-- What shortFloat answers. -/
def shortF (m : Nat) (e : Int) : Nat × Int :=
  if m = 9223372036854775808 ∧ -1085 < e then pick m (m - 512) (m + 1024) 0 e (-(skw (e + 11)))
  else if -1085 ≤ e then pick m (m - 1024) (m + 1024) (m / 2048 % 2) e (-(l10 (e + 11)))
  else pick m (m - 2 ^ (-1075 - e).toNat) (m + 2 ^ (-1075 - e).toNat) (m / 2 ^ (-1074 - e).toNat % 2) e (-(l10 (-1074)))

theorem dLow_lt (u odd : Nat) : dLow u odd < 4611686018427387904 := by unfold dLow; omega
theorem dHigh_lt (u odd : Nat) : dHigh u odd < 4611686018427387904 := by unfold dHigh; omega
theorem dMid_lt (u : Nat) : dMid u < 4611686018427387904 := by unfold dMid; omega
theorem scl_lt (x : Nat) (e p : Int) (hx : x < 18446744073709551616) (hp0 : -348 ≤ p) (hp1 : p ≤ 347) : scl x e p < 18446744073709551616 := usc_lt _ _ _ _ hx (tab_fit _ (by omega)).1
theorem and_one_i (n : Nat) (h : n < 9223372036854775808) : bits .and .i64 (n : Int) 1 = ((n % 2 : Nat) : Int) := by
  show IntKind.i64.wrap ((BitVec.ofInt 64 (n : Int) &&& BitVec.ofInt 64 ((1 : Nat) : Int)).toNat : Int) = _
  rw [BitVec.toNat_and, ofInt_u64 _ (by omega), ofInt_u64 _ (by decide), show (1 : Nat) = 2 ^ 1 - 1 from by decide, Nat.and_two_pow_sub_one_eq_mod, IntKind.wrap_i64]
  omega
theorem pow_alloc {w : World} (h : Pow w) (hg : 10 < w.heap.size) (o : Obj) : Pow (w.alloc o) := by
  intro i hi
  obtain ⟨h0, h1⟩ := h i hi
  have hb := bcell (bel1 w o)
  exact ⟨by rw [hb.1 _ _ hg, h0], by rw [hb.1 _ _ hg, h1]⟩

/-- What the scaling, and what follows it, answer: with names for all that is worked out. -/
structure Sc (m mn mx odd : Nat) (e p : Int) (U1 V1 D1 U2 V2 D2 U3 D3 : Nat) : Prop where
  l1 : D1 < 4611686018427387904
  l2 : D2 < 4611686018427387904
  l3 : D3 < 4611686018427387904
  u1 : ∀ (g : Nat) (W : World), W.cell? ⟨g, 0, none⟩ = some (.int .u64 (tabHi (p + 348).toNat : Int)) → W.cell? ⟨g, 1, none⟩ = some (.int .u64 (tabLo (p + 348).toNat : Int)) → W.cell? ⟨g, 2, none⟩ = some (.int .i64 (-(e + Go.Proofs.YthgfeghgcickhaaGreatDoor.Rl.l2 p + 3))) →
    Calls Tryz.prog 170 #[.int .u64 (mn : Int), .pointer (some ⟨g, 0, none⟩)] W fun r w' => r = .returned (.int .u64 (U1 : Int)) ∧ Below W.heap.size W w'
  u2 : ∀ (g : Nat) (W : World), W.cell? ⟨g, 0, none⟩ = some (.int .u64 (tabHi (p + 348).toNat : Int)) → W.cell? ⟨g, 1, none⟩ = some (.int .u64 (tabLo (p + 348).toNat : Int)) → W.cell? ⟨g, 2, none⟩ = some (.int .i64 (-(e + Go.Proofs.YthgfeghgcickhaaGreatDoor.Rl.l2 p + 3))) →
    Calls Tryz.prog 170 #[.int .u64 (mx : Int), .pointer (some ⟨g, 0, none⟩)] W fun r w' => r = .returned (.int .u64 (U2 : Int)) ∧ Below W.heap.size W w'
  u3 : ∀ (g : Nat) (W : World), W.cell? ⟨g, 0, none⟩ = some (.int .u64 (tabHi (p + 348).toNat : Int)) → W.cell? ⟨g, 1, none⟩ = some (.int .u64 (tabLo (p + 348).toNat : Int)) → W.cell? ⟨g, 2, none⟩ = some (.int .i64 (-(e + Go.Proofs.YthgfeghgcickhaaGreatDoor.Rl.l2 p + 3))) →
    Calls Tryz.prog 170 #[.int .u64 (m : Int), .pointer (some ⟨g, 0, none⟩)] W fun r w' => r = .returned (.int .u64 (U3 : Int)) ∧ Below W.heap.size W w'
  n1 : ∀ W, Calls Tryz.prog 171 #[.int .u64 (U1 : Int), .int .i64 (odd : Int)] W fun r w' => r = .returned (.int .u64 (V1 : Int)) ∧ w' = W
  n2 : ∀ W, Calls Tryz.prog 171 #[.int .u64 (U2 : Int), .int .i64 (-(odd : Int))] W fun r w' => r = .returned (.int .u64 (V2 : Int)) ∧ w' = W
  d1 : ∀ W, Calls Tryz.prog 172 #[.int .u64 (V1 : Int)] W fun r w' => r = .returned (.int .u64 (D1 : Int)) ∧ w' = W
  d2 : ∀ W, Calls Tryz.prog 173 #[.int .u64 (V2 : Int)] W fun r w' => r = .returned (.int .u64 (D2 : Int)) ∧ w' = W
  d3 : ∀ W, Calls Tryz.prog 174 #[.int .u64 (U3 : Int)] W fun r w' => r = .returned (.int .u64 (D3 : Int)) ∧ w' = W
  pk : pick m mn mx odd e p = if D1 ≤ D2 / 10 * 10 then (D2 / 10, -(p - 1)) else if D1 < D2 then (D3, -p) else (D1, -p)
theorem sc_of (m mn mx odd : Nat) (e p : Int) (hm : m < 18446744073709551616) (hmn : mn < 18446744073709551616) (hmx : mx < 18446744073709551616) (ho : odd ≤ 1) (hp0 : -348 ≤ p) (hp1 : p ≤ 347) :
    ∃ U1 V1 D1 U2 V2 D2 U3 D3, Sc m mn mx odd e p U1 V1 D1 U2 V2 D2 U3 D3 := by
  obtain ⟨tf0, tf1⟩ := tab_fit (p + 348).toNat (by omega)
  have s1 := scl_lt mn e p hmn hp0 hp1
  have s2 := scl_lt mx e p hmx hp0 hp1
  have s3 := scl_lt m e p hm hp0 hp1
  exact ⟨scl mn e p, (scl mn e p + odd) % 18446744073709551616, dLow (scl mn e p) odd, scl mx e p, (scl mx e p + 18446744073709551616 - odd) % 18446744073709551616, dHigh (scl mx e p) odd, scl m e p, dMid (scl m e p),
    dLow_lt _ _, dHigh_lt _ _, dMid_lt _, fun g W h0 h1 h2 => uscale_any mn _ _ _ hmn tf0 tf1 g W h0 h1 h2, fun g W h0 h1 h2 => uscale_any mx _ _ _ hmx tf0 tf1 g W h0 h1 h2, fun g W h0 h1 h2 => uscale_any m _ _ _ hm tf0 tf1 g W h0 h1 h2,
    nudge_up _ _ s1 ho, nudge_down _ _ s2 ho, ceil_any _ (Nat.mod_lt _ (by decide)), floor_any _ (Nat.mod_lt _ (by decide)), round_any _ s3, rfl⟩

set_option maxHeartbeats 1000000 in
set_option maxRecDepth 100000 in
theorem shortN (m mn mx odd : Nat) (e p : Int) (hm0 : 9223372036854775808 ≤ m) (hm1 : m ≤ 18446744073709549568) (he0 : -1085 ≤ e) (he1 : e ≤ 1000) (hc : ((m : Int) == 9223372036854775808) = false ∨ ((m : Int) == 9223372036854775808) = true ∧ e ≤ -1085)
    (hmn : (m : Int) - 1024 = (mn : Int)) (hmx : (m : Int) + 1024 = (mx : Int)) (hodd : bits .and .i64 ((m : Int) / 2048) 1 = (odd : Int)) (ho : odd ≤ 1) (hp : -(l10 (e + 11)) = p) (hp0 : -348 ≤ p) (hp1 : p ≤ 347)
    (w : World) (hg : 10 < w.heap.size) (hT : Pow w) :
    Calls Tryz.prog 156 #[.int .u64 (m : Int), .int .i64 e] w fun r w' => r = .returned (.tuple #[.int .u64 ((pick m mn mx odd e p).1 : Int), .int .i64 (pick m mn mx odd e p).2]) ∧ Below w.heap.size w w' := by
  have HL : Hid (∀ W, Calls Tryz.prog 97 #[.int .i64 (e + 11)] W fun r w' => r = .returned (.int .i64 (-p)) ∧ w' = W) := by
    rw [show -p = l10 (e + 11) from by omega]; exact log10Pow2_any (e + 11) (by omega) (by omega)
  have hl : -2000 ≤ l2 p ∧ l2 p ≤ 2000 := by unfold l2; omega
  obtain ⟨hl0, hl1⟩ := hl
  clear hp
  obtain ⟨U1, V1, D1, U2, V2, D2, U3, D3, hS⟩ := sc_of m mn mx odd e p (by omega) (by omega) (by omega) ho hp0 hp1
  have hd1 := hS.l1
  have hd2 := hS.l2
  have hd3 := hS.l3
  obtain ⟨Q, hQ⟩ : ∃ Q : Nat, D2 / 10 = Q := ⟨_, rfl⟩
  have hQi : (D2 : Int) / 10 = (Q : Int) := by omega
  have hpk : (D1 ≤ Q * 10 ∧ pick m mn mx odd e p = (D2 / 10, -(p - 1))) ∨ (Q * 10 < D1 ∧ ((D1 < D2 ∧ pick m mn mx odd e p = (D3, -p)) ∨ (D2 ≤ D1 ∧ pick m mn mx odd e p = (D1, -p)))) := by
    have h := hS.pk
    rw [hQ] at h ⊢
    by_cases h1 : D1 ≤ Q * 10
    · rw [if_pos h1] at h; exact Or.inl ⟨h1, h⟩
    · rw [if_neg h1] at h
      by_cases h2 : D1 < D2
      · rw [if_pos h2] at h; exact Or.inr ⟨by omega, Or.inl ⟨h2, h⟩⟩
      · rw [if_neg h2] at h; exact Or.inr ⟨by omega, Or.inr ⟨by omega, h⟩⟩
  have HS : Hid _ := hS
  have HPK : Hid _ := hpk
  clear hS hpk
  go_enter Tryz.func156, Tryz.ntmps156
  rcases hc with hc | ⟨hc, hc2⟩
  all_goals
    go_wp2_with (first
      | (go_at_call 97; with_reducible refine (HL.out _).mono ?_; rintro r w ⟨rfl, rfl⟩)
      | (go_at_call 167; with_reducible refine (HL.out _).mono ?_; rintro r w ⟨rfl, rfl⟩)
      | (go_at_call 169; with_reducible refine (log2Pow10_any p (by omega) (by omega) _).mono ?_; rintro r w ⟨rfl, rfl⟩)
      | fail)
    refine (prescale_any _ e p (l2 p) hp0 hp1 (by omega) (by omega) (by omega) (by omega) _ (by simp; omega) (pow_alloc hT hg _) (.int .u64 0) (.int .u64 0) (.int .i64 0) (by simp [go_sem]) (by simp [go_sem]) (by simp [go_sem]) (by simp [go_sem]) (by simp [go_sem]) (by simp [go_sem])).mono ?_
    rintro r w1 ⟨rfl, hw1⟩
    have hb1 : Below w.heap.size w w1 := by
      rw [hw1]; exact (((bel1 w _).setCell (Nat.le_refl _) _).setCell (Nat.le_refl _) _).setCell (Nat.le_refl _) _
    have hz1 : w.heap.size < w1.heap.size := by rw [hw1]; simp [World.setCell]
    have c0 : w1.cell? ⟨w.heap.size, 0, none⟩ = some (.int .u64 (tabHi (p + 348).toNat : Int)) := by rw [hw1]; simp [go_sem]
    have c1 : w1.cell? ⟨w.heap.size, 1, none⟩ = some (.int .u64 (tabLo (p + 348).toNat : Int)) := by rw [hw1]; simp [go_sem]
    have c2 : w1.cell? ⟨w.heap.size, 2, none⟩ = some (.int .i64 (-(e + l2 p + 3))) := by rw [hw1]; simp [go_sem]
    clear hw1
    go_wp2_with fail
    refine (HS.out.u1 _ w1 c0 c1 c2).mono ?_
    rintro r w2 ⟨rfl, hb2⟩
    obtain ⟨k2, _⟩ := bcell hb2
    have hz2 : w.heap.size < w2.heap.size := by have := hb2.size; omega
    have c0 : w2.cell? ⟨w.heap.size, 0, none⟩ = some (.int .u64 (tabHi (p + 348).toNat : Int)) := by rw [k2 _ _ hz1, c0]
    have c1 : w2.cell? ⟨w.heap.size, 1, none⟩ = some (.int .u64 (tabLo (p + 348).toNat : Int)) := by rw [k2 _ _ hz1, c1]
    have c2 : w2.cell? ⟨w.heap.size, 2, none⟩ = some (.int .i64 (-(e + l2 p + 3))) := by rw [k2 _ _ hz1, c2]
    clear k2
    go_wp2_with (first
      | (go_at_call 171; with_reducible refine (HS.out.n1 _).mono ?_; rintro r w2 ⟨rfl, rfl⟩)
      | (go_at_call 172; with_reducible refine (HS.out.d1 _).mono ?_; rintro r w2 ⟨rfl, rfl⟩)
      | fail)
    refine (HS.out.u2 _ w2 c0 c1 c2).mono ?_
    rintro r w3 ⟨rfl, hb3⟩
    obtain ⟨k3, _⟩ := bcell hb3
    have hz3 : w.heap.size < w3.heap.size := by have := hb3.size; omega
    have c0 : w3.cell? ⟨w.heap.size, 0, none⟩ = some (.int .u64 (tabHi (p + 348).toNat : Int)) := by rw [k3 _ _ hz2, c0]
    have c1 : w3.cell? ⟨w.heap.size, 1, none⟩ = some (.int .u64 (tabLo (p + 348).toNat : Int)) := by rw [k3 _ _ hz2, c1]
    have c2 : w3.cell? ⟨w.heap.size, 2, none⟩ = some (.int .i64 (-(e + l2 p + 3))) := by rw [k3 _ _ hz2, c2]
    clear k3
    have hb : Below w.heap.size w w3 := (hb1.trans (hb2.mono hb1.size)).trans (hb3.mono (by have := hb2.size; omega))
    rcases HPK.out with ⟨q1, q2⟩ | ⟨q1, ⟨q2, q3⟩ | ⟨q2, q3⟩⟩
    · go_wp2_with (first
        | (go_at_call 171; with_reducible refine (HS.out.n2 _).mono ?_; rintro r w3 ⟨rfl, rfl⟩)
        | (go_at_call 173; with_reducible refine (HS.out.d2 _).mono ?_; rintro r w3 ⟨rfl, rfl⟩)
        | fail)
      go_ret2
      exact ⟨by rw [q2, hQ]; rfl, hb⟩
    · go_wp2_with (first
        | (go_at_call 171; with_reducible refine (HS.out.n2 _).mono ?_; rintro r w3 ⟨rfl, rfl⟩)
        | (go_at_call 173; with_reducible refine (HS.out.d2 _).mono ?_; rintro r w3 ⟨rfl, rfl⟩)
        | fail)
      refine (HS.out.u3 _ w3 c0 c1 c2).mono ?_
      rintro r w4 ⟨rfl, hb4⟩
      go_wp2_with (first
        | (go_at_call 174; with_reducible refine (HS.out.d3 _).mono ?_; rintro r w4 ⟨rfl, rfl⟩)
        | fail)
      go_ret2
      exact ⟨by rw [q3]; rfl, hb.trans (hb4.mono hb.size)⟩
    · go_wp2_with (first
        | (go_at_call 171; with_reducible refine (HS.out.n2 _).mono ?_; rintro r w3 ⟨rfl, rfl⟩)
        | (go_at_call 173; with_reducible refine (HS.out.d2 _).mono ?_; rintro r w3 ⟨rfl, rfl⟩)
        | fail)
      go_ret2
      exact ⟨by rw [q3]; rfl, hb⟩
set_option maxHeartbeats 1000000 in
set_option maxRecDepth 100000 in
theorem shortS (m mn mx odd : Nat) (e p : Int) (hm0 : 9223372036854775808 ≤ m) (hm1 : m ≤ 18446744073709549568) (he0 : -1085 < e) (he1 : e ≤ 1000) (hc : ((m : Int) == 9223372036854775808) = true)
    (hmn : (m : Int) - 512 = (mn : Int)) (hmx : (m : Int) + 1024 = (mx : Int)) (hodd : bits .and .i64 ((m : Int) / 2048) 1 = (odd : Int)) (ho : odd ≤ 1) (hp : -(skw (e + 11)) = p) (hp0 : -348 ≤ p) (hp1 : p ≤ 347)
    (w : World) (hg : 10 < w.heap.size) (hT : Pow w) :
    Calls Tryz.prog 156 #[.int .u64 (m : Int), .int .i64 e] w fun r w' => r = .returned (.tuple #[.int .u64 ((pick m mn mx odd e p).1 : Int), .int .i64 (pick m mn mx odd e p).2]) ∧ Below w.heap.size w w' := by
  have HL : Hid (∀ W, Calls Tryz.prog 167 #[.int .i64 (e + 11)] W fun r w' => r = .returned (.int .i64 (-p)) ∧ w' = W) := by
    rw [show -p = skw (e + 11) from by omega]; exact skewed_any (e + 11) (by omega) (by omega)
  have hl : -2000 ≤ l2 p ∧ l2 p ≤ 2000 := by unfold l2; omega
  obtain ⟨hl0, hl1⟩ := hl
  clear hp
  obtain ⟨U1, V1, D1, U2, V2, D2, U3, D3, hS⟩ := sc_of m mn mx odd e p (by omega) (by omega) (by omega) ho hp0 hp1
  have hd1 := hS.l1
  have hd2 := hS.l2
  have hd3 := hS.l3
  obtain ⟨Q, hQ⟩ : ∃ Q : Nat, D2 / 10 = Q := ⟨_, rfl⟩
  have hQi : (D2 : Int) / 10 = (Q : Int) := by omega
  have hpk : (D1 ≤ Q * 10 ∧ pick m mn mx odd e p = (D2 / 10, -(p - 1))) ∨ (Q * 10 < D1 ∧ ((D1 < D2 ∧ pick m mn mx odd e p = (D3, -p)) ∨ (D2 ≤ D1 ∧ pick m mn mx odd e p = (D1, -p)))) := by
    have h := hS.pk
    rw [hQ] at h ⊢
    by_cases h1 : D1 ≤ Q * 10
    · rw [if_pos h1] at h; exact Or.inl ⟨h1, h⟩
    · rw [if_neg h1] at h
      by_cases h2 : D1 < D2
      · rw [if_pos h2] at h; exact Or.inr ⟨by omega, Or.inl ⟨h2, h⟩⟩
      · rw [if_neg h2] at h; exact Or.inr ⟨by omega, Or.inr ⟨by omega, h⟩⟩
  have HS : Hid _ := hS
  have HPK : Hid _ := hpk
  clear hS hpk
  go_enter Tryz.func156, Tryz.ntmps156
  go_wp2_with (first
    | (go_at_call 97; with_reducible refine (HL.out _).mono ?_; rintro r w ⟨rfl, rfl⟩)
    | (go_at_call 167; with_reducible refine (HL.out _).mono ?_; rintro r w ⟨rfl, rfl⟩)
    | (go_at_call 169; with_reducible refine (log2Pow10_any p (by omega) (by omega) _).mono ?_; rintro r w ⟨rfl, rfl⟩)
    | fail)
  refine (prescale_any _ e p (l2 p) hp0 hp1 (by omega) (by omega) (by omega) (by omega) _ (by simp; omega) (pow_alloc hT hg _) (.int .u64 0) (.int .u64 0) (.int .i64 0) (by simp [go_sem]) (by simp [go_sem]) (by simp [go_sem]) (by simp [go_sem]) (by simp [go_sem]) (by simp [go_sem])).mono ?_
  rintro r w1 ⟨rfl, hw1⟩
  have hb1 : Below w.heap.size w w1 := by
    rw [hw1]; exact (((bel1 w _).setCell (Nat.le_refl _) _).setCell (Nat.le_refl _) _).setCell (Nat.le_refl _) _
  have hz1 : w.heap.size < w1.heap.size := by rw [hw1]; simp [World.setCell]
  have c0 : w1.cell? ⟨w.heap.size, 0, none⟩ = some (.int .u64 (tabHi (p + 348).toNat : Int)) := by rw [hw1]; simp [go_sem]
  have c1 : w1.cell? ⟨w.heap.size, 1, none⟩ = some (.int .u64 (tabLo (p + 348).toNat : Int)) := by rw [hw1]; simp [go_sem]
  have c2 : w1.cell? ⟨w.heap.size, 2, none⟩ = some (.int .i64 (-(e + l2 p + 3))) := by rw [hw1]; simp [go_sem]
  clear hw1
  go_wp2_with fail
  refine (HS.out.u1 _ w1 c0 c1 c2).mono ?_
  rintro r w2 ⟨rfl, hb2⟩
  obtain ⟨k2, _⟩ := bcell hb2
  have hz2 : w.heap.size < w2.heap.size := by have := hb2.size; omega
  have c0 : w2.cell? ⟨w.heap.size, 0, none⟩ = some (.int .u64 (tabHi (p + 348).toNat : Int)) := by rw [k2 _ _ hz1, c0]
  have c1 : w2.cell? ⟨w.heap.size, 1, none⟩ = some (.int .u64 (tabLo (p + 348).toNat : Int)) := by rw [k2 _ _ hz1, c1]
  have c2 : w2.cell? ⟨w.heap.size, 2, none⟩ = some (.int .i64 (-(e + l2 p + 3))) := by rw [k2 _ _ hz1, c2]
  clear k2
  go_wp2_with (first
    | (go_at_call 171; with_reducible refine (HS.out.n1 _).mono ?_; rintro r w2 ⟨rfl, rfl⟩)
    | (go_at_call 172; with_reducible refine (HS.out.d1 _).mono ?_; rintro r w2 ⟨rfl, rfl⟩)
    | fail)
  refine (HS.out.u2 _ w2 c0 c1 c2).mono ?_
  rintro r w3 ⟨rfl, hb3⟩
  obtain ⟨k3, _⟩ := bcell hb3
  have hz3 : w.heap.size < w3.heap.size := by have := hb3.size; omega
  have c0 : w3.cell? ⟨w.heap.size, 0, none⟩ = some (.int .u64 (tabHi (p + 348).toNat : Int)) := by rw [k3 _ _ hz2, c0]
  have c1 : w3.cell? ⟨w.heap.size, 1, none⟩ = some (.int .u64 (tabLo (p + 348).toNat : Int)) := by rw [k3 _ _ hz2, c1]
  have c2 : w3.cell? ⟨w.heap.size, 2, none⟩ = some (.int .i64 (-(e + l2 p + 3))) := by rw [k3 _ _ hz2, c2]
  clear k3
  have hb : Below w.heap.size w w3 := (hb1.trans (hb2.mono hb1.size)).trans (hb3.mono (by have := hb2.size; omega))
  rcases HPK.out with ⟨q1, q2⟩ | ⟨q1, ⟨q2, q3⟩ | ⟨q2, q3⟩⟩
  · go_wp2_with (first
      | (go_at_call 171; with_reducible refine (HS.out.n2 _).mono ?_; rintro r w3 ⟨rfl, rfl⟩)
      | (go_at_call 173; with_reducible refine (HS.out.d2 _).mono ?_; rintro r w3 ⟨rfl, rfl⟩)
      | fail)
    go_ret2
    exact ⟨by rw [q2, hQ]; rfl, hb⟩
  · go_wp2_with (first
      | (go_at_call 171; with_reducible refine (HS.out.n2 _).mono ?_; rintro r w3 ⟨rfl, rfl⟩)
      | (go_at_call 173; with_reducible refine (HS.out.d2 _).mono ?_; rintro r w3 ⟨rfl, rfl⟩)
      | fail)
    refine (HS.out.u3 _ w3 c0 c1 c2).mono ?_
    rintro r w4 ⟨rfl, hb4⟩
    go_wp2_with (first
      | (go_at_call 174; with_reducible refine (HS.out.d3 _).mono ?_; rintro r w4 ⟨rfl, rfl⟩)
      | fail)
    go_ret2
    exact ⟨by rw [q3]; rfl, hb.trans (hb4.mono hb.size)⟩
  · go_wp2_with (first
      | (go_at_call 171; with_reducible refine (HS.out.n2 _).mono ?_; rintro r w3 ⟨rfl, rfl⟩)
      | (go_at_call 173; with_reducible refine (HS.out.d2 _).mono ?_; rintro r w3 ⟨rfl, rfl⟩)
      | fail)
    go_ret2
    exact ⟨by rw [q3]; rfl, hb⟩
end Go.Proofs.YthgfeghgcickhaaGreatDoor.Rl
/- THE SHORTEST DIGITS of the least floats. Own work of the verifier. -/
namespace Go.Proofs.YthgfeghgcickhaaGreatDoor.Rl
open Go.RowKit

set_option maxHeartbeats 1000000 in
set_option maxRecDepth 100000 in
theorem shortD (m mn mx odd z y : Nat) (e p : Int) (hm0 : 9223372036854775808 ≤ m) (hm1 : m < 18446744073709551616) (hz0 : 12 ≤ z) (hz1 : z ≤ 63) (hy : (z : Int) - 1 = (y : Int)) (he : e + (z : Int) = -1074) (he2 : 11 + (-1085 - e) = (z : Int)) (_he0 : -1137 ≤ e) (_he1 : e ≤ -1086)
    (T : Nat) (hT2 : (2 : Int) ^ y = (T : Int)) (hT3 : T ≤ 4611686018427387904) (R : Nat) (hR : (m : Int) / 2 ^ z = (R : Int)) (hR2 : R < 9223372036854775808) (hmn : (m : Int) - (T : Int) = (mn : Int)) (hmx : (m : Int) + (T : Int) = (mx : Int)) (hmx1 : mx < 18446744073709551616) (hodd : bits .and .i64 (R : Int) 1 = (odd : Int)) (ho : odd ≤ 1) (hp : -(l10 (-1074)) = p) (hp0 : -348 ≤ p) (hp1 : p ≤ 347)
    (w : World) (hg : 10 < w.heap.size) (hT : Pow w) :
    Calls Tryz.prog 156 #[.int .u64 (m : Int), .int .i64 e] w fun r w' => r = .returned (.tuple #[.int .u64 ((pick m mn mx odd e p).1 : Int), .int .i64 (pick m mn mx odd e p).2]) ∧ Below w.heap.size w w' := by
  have HL : Hid (∀ W, Calls Tryz.prog 97 #[.int .i64 (-1074)] W fun r w' => r = .returned (.int .i64 (-p)) ∧ w' = W) := by
    rw [show -p = l10 (-1074) from by omega]; exact log10Pow2_any (-1074) (by omega) (by omega)
  have hc : ((m : Int) == 9223372036854775808) = false ∨ ((m : Int) == 9223372036854775808) = true := by cases ((m : Int) == 9223372036854775808) <;> simp
  have hl : -2000 ≤ l2 p ∧ l2 p ≤ 2000 := by unfold l2; omega
  obtain ⟨hl0, hl1⟩ := hl
  clear hp
  obtain ⟨U1, V1, D1, U2, V2, D2, U3, D3, hS⟩ := sc_of m mn mx odd e p (by omega) (by omega) (by omega) ho hp0 hp1
  have hd1 := hS.l1
  have hd2 := hS.l2
  have hd3 := hS.l3
  obtain ⟨Q, hQ⟩ : ∃ Q : Nat, D2 / 10 = Q := ⟨_, rfl⟩
  have hQi : (D2 : Int) / 10 = (Q : Int) := by omega
  have hpk : (D1 ≤ Q * 10 ∧ pick m mn mx odd e p = (D2 / 10, -(p - 1))) ∨ (Q * 10 < D1 ∧ ((D1 < D2 ∧ pick m mn mx odd e p = (D3, -p)) ∨ (D2 ≤ D1 ∧ pick m mn mx odd e p = (D1, -p)))) := by
    have h := hS.pk
    rw [hQ] at h ⊢
    by_cases h1 : D1 ≤ Q * 10
    · rw [if_pos h1] at h; exact Or.inl ⟨h1, h⟩
    · rw [if_neg h1] at h
      by_cases h2 : D1 < D2
      · rw [if_pos h2] at h; exact Or.inr ⟨by omega, Or.inl ⟨h2, h⟩⟩
      · rw [if_neg h2] at h; exact Or.inr ⟨by omega, Or.inr ⟨by omega, h⟩⟩
  have HS : Hid _ := hS
  have HPK : Hid _ := hpk
  clear hS hpk
  go_enter Tryz.func156, Tryz.ntmps156
  rcases hc with hc | hc
  all_goals
    go_wp2_with (first
      | (go_at_call 97; with_reducible refine (HL.out _).mono ?_; rintro r w ⟨rfl, rfl⟩)
      | (go_at_call 167; with_reducible refine (HL.out _).mono ?_; rintro r w ⟨rfl, rfl⟩)
      | (go_at_call 169; with_reducible refine (log2Pow10_any p (by omega) (by omega) _).mono ?_; rintro r w ⟨rfl, rfl⟩)
      | fail)
    refine (prescale_any _ e p (l2 p) hp0 hp1 (by omega) (by omega) (by omega) (by omega) _ (by simp; omega) (pow_alloc hT hg _) (.int .u64 0) (.int .u64 0) (.int .i64 0) (by simp [go_sem]) (by simp [go_sem]) (by simp [go_sem]) (by simp [go_sem]) (by simp [go_sem]) (by simp [go_sem])).mono ?_
    rintro r w1 ⟨rfl, hw1⟩
    have hb1 : Below w.heap.size w w1 := by
      rw [hw1]; exact (((bel1 w _).setCell (Nat.le_refl _) _).setCell (Nat.le_refl _) _).setCell (Nat.le_refl _) _
    have hz1 : w.heap.size < w1.heap.size := by rw [hw1]; simp [World.setCell]
    have c0 : w1.cell? ⟨w.heap.size, 0, none⟩ = some (.int .u64 (tabHi (p + 348).toNat : Int)) := by rw [hw1]; simp [go_sem]
    have c1 : w1.cell? ⟨w.heap.size, 1, none⟩ = some (.int .u64 (tabLo (p + 348).toNat : Int)) := by rw [hw1]; simp [go_sem]
    have c2 : w1.cell? ⟨w.heap.size, 2, none⟩ = some (.int .i64 (-(e + l2 p + 3))) := by rw [hw1]; simp [go_sem]
    clear hw1
    go_wp2_with fail
    refine (HS.out.u1 _ w1 c0 c1 c2).mono ?_
    rintro r w2 ⟨rfl, hb2⟩
    obtain ⟨k2, _⟩ := bcell hb2
    have hz2 : w.heap.size < w2.heap.size := by have := hb2.size; omega
    have c0 : w2.cell? ⟨w.heap.size, 0, none⟩ = some (.int .u64 (tabHi (p + 348).toNat : Int)) := by rw [k2 _ _ hz1, c0]
    have c1 : w2.cell? ⟨w.heap.size, 1, none⟩ = some (.int .u64 (tabLo (p + 348).toNat : Int)) := by rw [k2 _ _ hz1, c1]
    have c2 : w2.cell? ⟨w.heap.size, 2, none⟩ = some (.int .i64 (-(e + l2 p + 3))) := by rw [k2 _ _ hz1, c2]
    clear k2
    go_wp2_with (first
      | (go_at_call 171; with_reducible refine (HS.out.n1 _).mono ?_; rintro r w2 ⟨rfl, rfl⟩)
      | (go_at_call 172; with_reducible refine (HS.out.d1 _).mono ?_; rintro r w2 ⟨rfl, rfl⟩)
      | fail)
    refine (HS.out.u2 _ w2 c0 c1 c2).mono ?_
    rintro r w3 ⟨rfl, hb3⟩
    obtain ⟨k3, _⟩ := bcell hb3
    have hz3 : w.heap.size < w3.heap.size := by have := hb3.size; omega
    have c0 : w3.cell? ⟨w.heap.size, 0, none⟩ = some (.int .u64 (tabHi (p + 348).toNat : Int)) := by rw [k3 _ _ hz2, c0]
    have c1 : w3.cell? ⟨w.heap.size, 1, none⟩ = some (.int .u64 (tabLo (p + 348).toNat : Int)) := by rw [k3 _ _ hz2, c1]
    have c2 : w3.cell? ⟨w.heap.size, 2, none⟩ = some (.int .i64 (-(e + l2 p + 3))) := by rw [k3 _ _ hz2, c2]
    clear k3
    have hb : Below w.heap.size w w3 := (hb1.trans (hb2.mono hb1.size)).trans (hb3.mono (by have := hb2.size; omega))
    rcases HPK.out with ⟨q1, q2⟩ | ⟨q1, ⟨q2, q3⟩ | ⟨q2, q3⟩⟩
    · go_wp2_with (first
        | (go_at_call 171; with_reducible refine (HS.out.n2 _).mono ?_; rintro r w3 ⟨rfl, rfl⟩)
        | (go_at_call 173; with_reducible refine (HS.out.d2 _).mono ?_; rintro r w3 ⟨rfl, rfl⟩)
        | fail)
      go_ret2
      exact ⟨by rw [q2, hQ]; rfl, hb⟩
    · go_wp2_with (first
        | (go_at_call 171; with_reducible refine (HS.out.n2 _).mono ?_; rintro r w3 ⟨rfl, rfl⟩)
        | (go_at_call 173; with_reducible refine (HS.out.d2 _).mono ?_; rintro r w3 ⟨rfl, rfl⟩)
        | fail)
      refine (HS.out.u3 _ w3 c0 c1 c2).mono ?_
      rintro r w4 ⟨rfl, hb4⟩
      go_wp2_with (first
        | (go_at_call 174; with_reducible refine (HS.out.d3 _).mono ?_; rintro r w4 ⟨rfl, rfl⟩)
        | fail)
      go_ret2
      exact ⟨by rw [q3]; rfl, hb.trans (hb4.mono hb.size)⟩
    · go_wp2_with (first
        | (go_at_call 171; with_reducible refine (HS.out.n2 _).mono ?_; rintro r w3 ⟨rfl, rfl⟩)
        | (go_at_call 173; with_reducible refine (HS.out.d2 _).mono ?_; rintro r w3 ⟨rfl, rfl⟩)
        | fail)
      go_ret2
      exact ⟨by rw [q3]; rfl, hb⟩
/-- shortFloat, at whatever comes of a float. -/
theorem short_any (m : Nat) (e : Int) (hm0 : 9223372036854775808 ≤ m) (hm1 : m < 18446744073709551616) (hn : -1085 ≤ e → m ≤ 18446744073709549568) (hd : e < -1085 → m % 2 ^ (-1074 - e).toNat = 0) (he0 : -1137 ≤ e) (he1 : e ≤ 1000) (w : World) (hg : 10 < w.heap.size) (hT : Pow w) :
    Calls Tryz.prog 156 #[.int .u64 (m : Int), .int .i64 e] w fun r w' => r = .returned (.tuple #[.int .u64 ((shortF m e).1 : Int), .int .i64 (shortF m e).2]) ∧ Below w.heap.size w w' := by
  unfold shortF
  by_cases h1 : m = 9223372036854775808 ∧ -1085 < e
  · rw [if_pos h1]
    obtain ⟨rfl, h2⟩ := h1
    exact shortS _ _ _ 0 e _ (by decide) (by decide) h2 he1 (by decide) (by decide) (by decide) (by decide) (by decide) rfl (by unfold skw; omega) (by unfold skw; omega) w hg hT
  · rw [if_neg h1]
    by_cases h2 : -1085 ≤ e
    · rw [if_pos h2]
      have hm2 := hn h2
      have ha := and_one_i (m / 2048) (by omega)
      rw [show ((m / 2048 : Nat) : Int) = (m : Int) / 2048 from by omega] at ha
      refine shortN m _ _ _ e _ hm0 hm2 h2 he1 ?_ (by omega) (by omega) ha (by omega) rfl (by unfold l10; omega) (by unfold l10; omega) w hg hT
      by_cases h3 : m = 9223372036854775808
      · exact Or.inr ⟨by rw [beq_iff_eq]; omega, by omega⟩
      · exact Or.inl (by rw [beq_eq_false_iff_ne]; omega)
    · rw [if_neg h2]
      obtain ⟨z, hz⟩ : ∃ z : Nat, (-1074 - e).toNat = z := ⟨_, rfl⟩
      obtain ⟨y, hy⟩ : ∃ y : Nat, (-1075 - e).toNat = y := ⟨_, rfl⟩
      have hd := hd (by omega)
      rw [hz] at hd
      rw [hz, hy]
      have hzy : z = y + 1 := by omega
      have hy62 : 2 ^ y ≤ 2 ^ 62 := Nat.pow_le_pow_right (by decide) (by omega)
      have hp : 0 < 2 ^ y := Nat.pow_pos (by decide)
      have hR : m / 2 ^ z < 9223372036854775808 := by
        rw [hzy, Nat.pow_succ]
        refine Nat.div_lt_of_lt_mul (Nat.lt_of_lt_of_le hm1 ?_)
        have := Nat.mul_le_mul_right 9223372036854775808 (show 2 ≤ 2 ^ y * 2 by omega)
        omega
      have hsum : m + 2 ^ y < 18446744073709551616 := by
        -- m is a multiple of 2^z below 2^64, so at most 2^64 - 2^z
        have e1 := Nat.div_add_mod m (2 ^ z)
        have e2 : 2 ^ z * 2 ^ (64 - z) = 18446744073709551616 := by rw [← Nat.pow_add, show z + (64 - z) = 64 from by omega]
        rw [hd, Nat.add_zero] at e1
        have e3 : m / 2 ^ z < 2 ^ (64 - z) := Nat.div_lt_of_lt_mul (by rw [e2]; exact hm1)
        have e4 : 2 ^ z * (m / 2 ^ z + 1) ≤ 2 ^ z * 2 ^ (64 - z) := Nat.mul_le_mul_left _ e3
        rw [Nat.mul_add, Nat.mul_one, e1, e2, hzy, Nat.pow_succ] at e4
        omega
      have hle : 2 ^ y ≤ m := by omega
      refine shortD m _ _ _ z y e _ hm0 hm1 (by omega) (by omega) (by omega) (by omega) (by omega) he0 (by omega) (2 ^ y) (by rw [Int.natCast_pow]; rfl) (by omega) (m / 2 ^ z) (div_cast m z) hR (by omega) (by omega) hsum (and_one_i _ hR) (by omega) rfl (by decide) (by decide) w hg hT
end Go.Proofs.YthgfeghgcickhaaGreatDoor.Rl
