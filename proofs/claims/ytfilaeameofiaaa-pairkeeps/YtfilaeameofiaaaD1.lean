/- PairDoes: THE WALK, its first half. Own work of the verifier. -/
import Derived.Test.YtfilaeameofiaaaQ7
namespace Go.Proofs.Ytfilaeameofiaaa
open Go.RowKit Soft

/-- Two pairs lie in memory, the call's own. -/
def KD (w : World) (ps pc qs qc : Nat) (W : World) : Prop := P2 W w.heap.size ps pc ∧ P2 W (w.heap.size + 1) qs qc ∧ Below w.heap.size w W
theorem keepD {w W W1 : World} {ps pc qs qc : Nat} (hb : Below W.heap.size W W1)
    (h : W.cell? ⟨w.heap.size, 0, none⟩ = some (.int .u64 (ps : Int)) ∧ W.cell? ⟨w.heap.size, 1, none⟩ = some (.int .u64 (pc : Int)) ∧ W.cell? ⟨w.heap.size + 1, 0, none⟩ = some (.int .u64 (qs : Int)) ∧ W.cell? ⟨w.heap.size + 1, 1, none⟩ = some (.int .u64 (qc : Int)) ∧ KD w ps pc qs qc W) :
    W1.cell? ⟨w.heap.size, 0, none⟩ = some (.int .u64 (ps : Int)) ∧ W1.cell? ⟨w.heap.size, 1, none⟩ = some (.int .u64 (pc : Int)) ∧ W1.cell? ⟨w.heap.size + 1, 0, none⟩ = some (.int .u64 (qs : Int)) ∧ W1.cell? ⟨w.heap.size + 1, 1, none⟩ = some (.int .u64 (qc : Int)) ∧ KD w ps pc qs qc W1 := by
  obtain ⟨_, _, _, _, k1, k2, k3⟩ := h
  have k1' := k1.below hb k1.lt
  have k2' := k2.below hb k2.lt
  exact ⟨k1'.c0, k1'.c1, k2'.c0, k2'.c1, k1', k2', k3.trans (hb.mono k3.size)⟩
theorem startD (w : World) (ps pc qs qc : Nat) (W : World) (hW : W = ((w.alloc (.cells #[.int .u64 (ps : Int), .int .u64 (pc : Int)] 24)).alloc (.cells #[.int .u64 (qs : Int), .int .u64 (qc : Int)] 24))) :
    W.cell? ⟨w.heap.size, 0, none⟩ = some (.int .u64 (ps : Int)) ∧ W.cell? ⟨w.heap.size, 1, none⟩ = some (.int .u64 (pc : Int)) ∧ W.cell? ⟨w.heap.size + 1, 0, none⟩ = some (.int .u64 (qs : Int)) ∧ W.cell? ⟨w.heap.size + 1, 1, none⟩ = some (.int .u64 (qc : Int)) ∧ KD w ps pc qs qc W := by
  subst hW
  have k1 : P2 ((w.alloc (.cells #[.int .u64 (ps : Int), .int .u64 (pc : Int)] 24)).alloc (.cells #[.int .u64 (qs : Int), .int .u64 (qc : Int)] 24)) w.heap.size ps pc := new1 w _ _
  have k2 : P2 ((w.alloc (.cells #[.int .u64 (ps : Int), .int .u64 (pc : Int)] 24)).alloc (.cells #[.int .u64 (qs : Int), .int .u64 (qc : Int)] 24)) (w.heap.size + 1) qs qc := new2 w _ _
  exact ⟨k1.c0, k1.c1, k2.c0, k2.c1, k1, k2, bel2 w _ _⟩
theorem same_t (x y : Nat) (hx : x < 18446744073709551616) (hy : y < 18446744073709551616) (e : one x = one y) (w : World) :
    Calls Try.prog 11 #[.int .u64 (x : Int), .int .u64 (y : Int)] w fun e w' => e = .returned (.bool true) ∧ w' = w := by
  have := same_any x y hx hy w
  rw [decide_eq_true e] at this
  exact this
theorem below_drew (w : World) (n : Nat) : Below w.heap.size w (w.drewN n) := bdrew (Below.refl _ _) n

theorem GB.row {B : Nat} {W0 v : _} {L : List Nat} {w : World} (h : GB B 33 (.float .f64) W0 v L w) : ∃ g cap, v = .slice (some ⟨g, 0, none⟩) L.length cap ∧ B ≤ g ∧ RowF w g 0 L := by
  obtain ⟨g, cap, cur, rfl, hB, hcur, h1, h2, h3, h4⟩ := own_of h.own h.nz
  refine ⟨g, cap, rfl, hB, ?_⟩
  intro i hi
  have := h.own.cellAt i (by simpa using hi)
  rw [Nat.zero_add, this]
  simp [hi]
theorem RowF.below {w w1 : World} {b o : Nat} {L : List Nat} {B : Nat} (h : RowF w b o L) (hb : Below B w w1) (hB : L ≠ [] → b < B) : RowF w1 b o L := fun i hi => by
  rw [hb.cell (p := ⟨b, o + i, none⟩) (hB (by intro k; rw [k] at hi; simp at hi))]; exact h i hi
theorem RowF.lt {w : World} {b o : Nat} {L : List Nat} (h : RowF w b o L) (hL : L ≠ []) : b < w.heap.size := by
  cases L with
  | nil => exact absurd rfl hL
  | cons x l => exact lt_of_cell (h 0 (by simp))
theorem RowF.other {w : World} {b o : Nat} {L : List Nat} (h : RowF w b o L) {a : Addr} (ha : b ≠ a.block) (v : Value) : RowF (w.setCell a v) b o L := fun i hi => by
  rw [World.cell?_setCell_other w a ⟨b, o + i, none⟩ v (fun e => ha (by rw [e]))]; exact h i hi
/-- What a round finds in memory. -/
def KE (w : World) (b o g : Nat) (L : List Nat) (s c : Nat) (W : World) : Prop := P2 W w.heap.size s c ∧ RowU W b o L ∧ RowF W g 0 L ∧ Below w.heap.size w W
theorem KE.below {w W W1 : World} {b o g s c : Nat} {L : List Nat} (h : KE w b o g L s c W) (hb : Below W.heap.size W W1) : KE w b o g L s c W1 :=
  ⟨h.1.below hb h.1.lt, h.2.1.below hb (fun k => h.2.1.lt k), h.2.2.1.below hb (fun k => h.2.2.1.lt k), h.2.2.2.trans (hb.mono h.2.2.2.size)⟩
theorem KE.p {w W : World} {b o g s c : Nat} {L : List Nat} (h : KE w b o g L s c W) : P2 W w.heap.size s c := h.1
theorem KE.u {w W : World} {b o g s c : Nat} {L : List Nat} (h : KE w b o g L s c W) : RowU W b o L := h.2.1
theorem KE.f {w W : World} {b o g s c : Nat} {L : List Nat} (h : KE w b o g L s c W) : RowF W g 0 L := h.2.2.1
theorem KE.b {w W : World} {b o g s c : Nat} {L : List Nat} (h : KE w b o g L s c W) : Below w.heap.size w W := h.2.2.2
theorem keepE {w W W1 : World} {b o g s c k x : Nat} {L : List Nat} (hb : Below W.heap.size W W1)
    (h : W.cell? ⟨g, k, none⟩ = some (.float .f64 x) ∧ W.cell? ⟨b, o + k, none⟩ = some (.int .u64 (x : Int)) ∧ W.cell? ⟨w.heap.size, 0, none⟩ = some (.int .u64 (s : Int)) ∧ W.cell? ⟨w.heap.size, 1, none⟩ = some (.int .u64 (c : Int)) ∧ KE w b o g L s c W) :
    W1.cell? ⟨g, k, none⟩ = some (.float .f64 x) ∧ W1.cell? ⟨b, o + k, none⟩ = some (.int .u64 (x : Int)) ∧ W1.cell? ⟨w.heap.size, 0, none⟩ = some (.int .u64 (s : Int)) ∧ W1.cell? ⟨w.heap.size, 1, none⟩ = some (.int .u64 (c : Int)) ∧ KE w b o g L s c W1 := by
  obtain ⟨a1, a2, _, _, h5⟩ := h
  have h6 := h5.below hb
  exact ⟨by rw [hb.cell (p := ⟨g, k, none⟩) (lt_of_cell a1), a1], by rw [hb.cell (p := ⟨b, o + k, none⟩) (lt_of_cell a2), a2], h6.1.c0, h6.1.c1, h6⟩
set_option maxHeartbeats 4000000 in
theorem does_walk (ps pc qs qc : Nat) (h1 : ps < 18446744073709551616) (h2 : pc < 18446744073709551616) (h3 : qs < 18446744073709551616) (h4 : qc < 18446744073709551616)
    (ao : Option Addr) (b o cap : Nat) (L : List Nat) (hao : L ≠ [] → ao = some ⟨b, o, none⟩) (hL : Small L) (hlen : L.length * 8 ≤ 140737488355328) (w : World) (hR : RowU w b o L) :
    Calls Try.prog 3 #[.agg #[.int .u64 (ps : Int), .int .u64 (pc : Int)], .agg #[.int .u64 (qs : Int), .int .u64 (qc : Int)], .slice ao L.length cap] w fun e w' => e = .returned (.bool true) ∧ Below w.heap.size w w' := by
  have hS0 := startD w ps pc qs qc _ rfl
  have HM1 : Hid _ := made_any ps pc
  have HM2 : Hid _ := made_any qs qc
  have HM : Hid _ := pmerge_any ps pc qs qc h1 h2 h3 h4
  have HRM : Hid _ := refmerge_any ps pc qs qc h1 h2 h3 h4
  have HT : Hid _ := ptotal_any ps pc h1 h2
  have HRT : Hid _ := reftotal_any ps pc h1 h2
  have HSm : Hid (∀ r d, r < 18446744073709551616 → d < 18446744073709551616 → one r = fa ps qs → one d = fa (fa pc qc) (fl ps qs) → ∀ W, Calls Try.prog 8 #[.complex .f64 r d, .agg #[.int .u64 (fa ps qs : Nat), .int .u64 (fa (fa pc qc) (fl ps qs) : Nat)]] W fun e w' => e = .returned (.bool true) ∧ Below W.heap.size W w') :=
    fun r d hr hd e1 e2 W => samep_any r d _ _ hr hd (fa_lt _ _) (fa_lt _ _) (e1.trans (fa_can _ _ h1 h3).symm) (e2.trans (fa_can _ _ (fa_lt _ _) (fl_lt _ _)).symm) W
  have HSt : Hid (∀ r, r < 18446744073709551616 → one r = fa ps pc → ∀ W, Calls Try.prog 11 #[.int .u64 (r : Int), .int .u64 (fa ps pc : Nat)] W fun e w' => e = .returned (.bool true) ∧ w' = W) :=
    fun r hr e1 W => same_t r _ hr (fa_lt _ _) (e1.trans (fa_can _ _ h1 h2).symm) W
  go_enter Try.func3, Try.ntmps3
  go_wp2_with fail
  go_region_held3 (fun W => W.cell? ⟨w.heap.size, 0, none⟩ = some (.int .u64 (ps : Int)) ∧ W.cell? ⟨w.heap.size, 1, none⟩ = some (.int .u64 (pc : Int)) ∧ W.cell? ⟨w.heap.size + 1, 0, none⟩ = some (.int .u64 (qs : Int)) ∧ W.cell? ⟨w.heap.size + 1, 1, none⟩ = some (.int .u64 (qc : Int)) ∧ KD w ps pc qs qc W)
    (first | exact keepD (by assumption) (by assumption) | exact keepD (Below.drew (Below.refl _ _)) hS0)
    (first | (go_at_call 7; (first | with_reducible refine (HM1.out _).mono ?_ | with_reducible refine (HM2.out _).mono ?_); rintro e w1 ⟨rfl, hb⟩))
  rename_i hS1
  clear hS0 HM1 HM2
  go_wp2_with fail
  go_region_held3 (fun W => W.cell? ⟨w.heap.size, 0, none⟩ = some (.int .u64 (ps : Int)) ∧ W.cell? ⟨w.heap.size, 1, none⟩ = some (.int .u64 (pc : Int)) ∧ W.cell? ⟨w.heap.size + 1, 0, none⟩ = some (.int .u64 (qs : Int)) ∧ W.cell? ⟨w.heap.size + 1, 1, none⟩ = some (.int .u64 (qc : Int)) ∧ KD w ps pc qs qc W)
    (first | assumption | exact keepD (by assumption) (by assumption) | exact keepD (below_drew _ _) (by assumption) | exact keepD (Below.drew (Below.refl _ _)) hS1)
    (first
      | simp only [mf64bits]
      | (go_at_call 9; with_reducible refine (HM.out _).mono ?_; rintro e w1 ⟨r, d, n, rfl, rfl, hr, hd, e1, e2⟩)
      | (go_at_call 10; with_reducible refine (HRM.out _).mono ?_; rintro e w1 ⟨rfl, hb⟩)
      | (go_at_call 8; with_reducible refine (HSm.out _ _ (by assumption) (by assumption) (by assumption) (by assumption) _).mono ?_; rintro e w1 ⟨rfl, hb⟩)
      | (go_at_call 13; with_reducible refine (HT.out _).mono ?_; rintro e w1 ⟨r, n, rfl, rfl, hr, e1⟩)
      | (go_at_call 14; with_reducible refine (HRT.out _).mono ?_; rintro e w1 ⟨rfl, hb⟩)
      | (go_at_call 11; with_reducible refine (HSt.out _ (by assumption) (by assumption) _).mono ?_; rintro e w1 ⟨rfl, rfl⟩))
  rename_i hS2
  obtain ⟨_, _, _, _, K1, K2, KB⟩ := hS2
  clear hS1 HM HRM HT HRT HSm HSt
  have hR1 := hR.below KB (fun h => hR.lt h)
  go_wp2_with (go_at_call 15; with_reducible refine (floats_any ao b o cap L hao hL hlen w1 hR1).mono ?_; rintro e w2 ⟨v, rfl, hG⟩; obtain ⟨g, cap2, rfl, hgB, hF⟩ := hG.row; have hR2 := hR1.below hG.below (fun h => hR1.lt h))
  have K1' := K1.below hG.below K1.lt
  have KB' := KB.trans (hG.below.mono KB.size)
  have hg1 : w.heap.size < g := by have := K1.lt; omega
  have hlen2 : L.length < 9223372036854775807 := by omega
  have hcan := ofW_can L hL L.length
  have hlt := ofW_lt L L.length
  rw [List.take_length] at hcan hlt
  clear hR1 K1 K2 KB hG
  go_wp2_with (first
    | (go_at_call 16; with_reducible refine (pof_any (some ⟨g, 0, none⟩) g 0 cap2 L (fun _ => rfl) hL hlen2 w2 hF).mono ?_; rintro e w3 ⟨r1, d1, n1, rfl, rfl, hr1, hd1, e1, e2⟩)
    | (go_at_call 17; with_reducible refine (refof_any ao b o cap L hao hL _ hlen2 (hR2.below (below_drew _ _) (fun h => hR2.lt h))).mono ?_; rintro e w3 ⟨rfl, hb3⟩)
    | (go_at_call 8; with_reducible refine (samep_any _ _ _ _ hr1 hd1 hlt.1 hlt.2 (e1.trans hcan.1.symm) (e2.trans hcan.2.symm) _).mono ?_; rintro e w4 ⟨rfl, hb4⟩))
  have hKE : KE w b o g L ps pc w4 := by
    have h2 : KE w b o g L ps pc w2 := ⟨K1', hR2, hF, KB'⟩
    exact ((h2.below (below_drew _ _)).below hb3).below hb4
  clear hb3 hb4 hR2 hF K1' KB' hcan hlt e1 e2 hr1 hd1
  go_loopw [7, 10] (fun a i wr => ∃ k r d s c : Nat, k ≤ L.length ∧ a = .complex .f64 r d ∧ i = .int .i64 (k : Int) ∧ r < 18446744073709551616 ∧ d < 18446744073709551616 ∧ s < 18446744073709551616 ∧ c < 18446744073709551616 ∧ one r = one s ∧ one d = one c ∧ KE w b o g L s c wr) (fun _ i _ => (L.length - (intOf i).toNat))
  case atStart => exact ⟨0, ps, pc, ps, pc, by omega, rfl, rfl, h1, h2, h1, h2, rfl, rfl, hKE⟩
  case round =>
    clear hKE
    obtain ⟨k, r, d, s, c, hk, rfl, rfl, hr, hd, hs, hc, e1, e2, hKE⟩ := hrel
    by_cases hlt : k < L.length
    · obtain rfl := hao (by intro k; rw [k] at hlt; simp at hlt)
      have hx : L[k] < 18446744073709551616 := hL _ (List.getElem_mem hlt)
      have q1 : wr.cell? ⟨g, k, none⟩ = some (.float .f64 L[k]) := by have := hKE.f k hlt; rw [Nat.zero_add] at this; exact this
      have q2 : wr.cell? ⟨b, o + k, none⟩ = some (.int .u64 ((L[k] : Nat) : Int)) := hKE.u k hlt
      have q3 := hKE.p.c0
      have q4 := hKE.p.c1
      have hlt' : (k : Int) < (L.length : Int) := by omega
      have HA : Hid _ := padd_any r d L[k] hr hd hx
      have HP : Hid _ := refput_any s c L[k] hs hc hx
      have eA : fa r L[k] = fa s L[k] := fa_congr hr hx hs hx e1 rfl
      have eB : fa d (fl r L[k]) = fa c (fl s L[k]) := by
        rw [fl_congr hr hx hs hx e1 rfl]
        exact fa_congr hd (fl_lt _ _) hc (fl_lt _ _) e2 rfl
      rw [eA, eB] at HA
      have c1 := fa_can s L[k] hs hx
      have c2 := fa_can c (fl s L[k]) hc (fl_lt _ _)
      have HS : Hid (∀ r d, r < 18446744073709551616 → d < 18446744073709551616 → one r = fa s L[k] → one d = fa c (fl s L[k]) → ∀ W, Calls Try.prog 8 #[.complex .f64 r d, .agg #[.int .u64 (fa s L[k] : Nat), .int .u64 (fa c (fl s L[k]) : Nat)]] W fun e w' => e = .returned (.bool true) ∧ Below W.heap.size W w') :=
        fun r d hr hd e1 e2 W => samep_any r d _ _ hr hd (fa_lt _ _) (fa_lt _ _) (e1.trans c1.symm) (e2.trans c2.symm) W
      have hmb := mf64bits L[k]
      clear eA eB
      generalize L[k] = x at *
      go_wp2_with fail
      go_quiet (fail)
      have hS5 : wr.cell? ⟨g, k, none⟩ = some (.float .f64 x) ∧ wr.cell? ⟨b, o + k, none⟩ = some (.int .u64 (x : Int)) ∧ wr.cell? ⟨w.heap.size, 0, none⟩ = some (.int .u64 (s : Int)) ∧ wr.cell? ⟨w.heap.size, 1, none⟩ = some (.int .u64 (c : Int)) ∧ KE w b o g L s c wr := ⟨q1, q2, q3, q4, hKE⟩
      have hS6 := keepE (below_drew wr nq) hS5
      clear hKE q1 q2 q3 q4
      go_wp2_with fail
      go_region_held3 (fun W => W.cell? ⟨g, k, none⟩ = some (.float .f64 x) ∧ W.cell? ⟨b, o + k, none⟩ = some (.int .u64 (x : Int)) ∧ W.cell? ⟨w.heap.size, 0, none⟩ = some (.int .u64 (s : Int)) ∧ W.cell? ⟨w.heap.size, 1, none⟩ = some (.int .u64 (c : Int)) ∧ KE w b o g L s c W)
        (first | assumption | exact keepE (by assumption) (by assumption) | exact keepE (below_drew _ _) (by assumption) | exact keepE (Below.drew (Below.refl _ _)) hS6 | exact keepE (below_drew _ _) hS5)
        (first
          | (go_at_call 19; with_reducible refine (HA.out _).mono ?_; rintro e w5 ⟨r5, d5, n5, rfl, rfl, hr5, hd5, e5, e6⟩)
          | (go_at_call 20; with_reducible refine (HP.out _).mono ?_; rintro e w5 ⟨rfl, hb⟩)
          | (go_at_call 8; with_reducible refine (HS.out _ _ (by assumption) (by assumption) (by assumption) (by assumption) _).mono ?_; rintro e w5 ⟨rfl, hb⟩))
      rename_i hS7
      obtain ⟨q1, q2, q3, q4, hKE⟩ := hS7
      clear hS5 hS6
      go_wp2_with (go_at_call 19; with_reducible refine (HA.out _).mono ?_; rintro e w6 ⟨r6, d6, n6, rfl, rfl, hr6, hd6, e7, e8⟩)
      have f0 := hKE.p.fr 0
      have f1 := hKE.p.fr 1
      go_region_with (go_at_call 20; with_reducible refine (HP.out _).mono ?_; rintro e w7 ⟨rfl, hb7⟩; have hE7 := (hKE.below (below_drew w5 (n6 + 1))).below hb7; have z0 := hE7.p.c0; have z1 := hE7.p.c1; have y0 := hE7.p.fr 0; have y1 := hE7.p.fr 1)
      all_goals
        go_wp2
        go_round
        case rel =>
          have hB := (hE7.b.setCell (p := ⟨w.heap.size, 0, none⟩) (Nat.le_refl _) (.int .u64 (fa s x : Nat))).setCell (p := ⟨w.heap.size, 1, none⟩) (Nat.le_refl _) (.int .u64 (fa c (fl s x) : Nat))
          refine ⟨k + 1, r6, d6, fa s x, fa c (fl s x), by omega, rfl, by go_num, hr6, hd6, fa_lt _ _, fa_lt _ _, e7.trans c1.symm, e8.trans c2.symm, hE7.p.put _ _, hR.below hB (fun h => hR.lt h), ?_, hB⟩
          exact (hE7.f.other (by show g ≠ w.heap.size; omega) _).other (by show g ≠ w.heap.size; omega) _
        case measure => simp [intOf]; omega
    · obtain rfl : k = L.length := by omega
      have hlt' : ¬ (L.length : Int) < (L.length : Int) := by omega
      have hB := hKE.b
      go_wp2_with (go_at_call 21; with_reducible refine (fixed_any _).mono ?_; rintro e w8 ⟨rfl, hb8⟩)
      go_ret
      exact ⟨rfl, hB.trans (hb8.mono hB.size)⟩
end Go.Proofs.Ytfilaeameofiaaa
