/- At, the code's. Own work of the verifier. -/
import Derived.Test.YthhoklgfgandpaaY3
namespace Go.Proofs.Ythhoklgfgandpaa
open Go.RowKit Go.Shelf

attribute [local go_sem] Oper.semAt_some

theorem atF_from (L : List Cn) (r : Nat) : ∀ k, k ≤ L.length → sN L k < r → atF L r = atF (L.drop k) (r - sN L k)
  | 0, _, _ => by simp [sN, sumN]
  | k + 1, hk, h => by
    have e := sN_succ (L := L) (i := k) (by omega)
    have g : L.getD k (0, 0) = L[k] := by simp [List.getD, show k < L.length by omega]
    rw [g] at e
    rw [atF_from L r k (by omega) (by omega), atF_drop (by omega) (by omega), if_neg (by omega), e]
    congr 1
    omega
theorem atF_hit {L : List Cn} {r k : Nat} (hk : k < L.length) (h1 : sN L k < r) (h2 : r ≤ sN L (k + 1)) : atF L r = ((L.getD k (0, 0)).1, 0) := by
  have e := sN_succ (L := L) (i := k) hk
  have g : L.getD k (0, 0) = L[k] := by simp [List.getD, hk]
  rw [g] at e ⊢
  rw [atF_from L r k (by omega) h1, atF_drop hk (by omega), if_pos (by omega)]
theorem atF_miss {L : List Cn} {r : Nat} (h : sN L L.length < r) : atF L r = (0, 2) := by
  rw [atF_from L r _ (Nat.le_refl _) h, List.drop_length]
  rfl
theorem cmp_sum (s r : Nat) : cmp (val ((s / 18446744073709551616 : Nat) : Int) ((s % 18446744073709551616 : Nat) : Int)) (r : Int) = if s < r then -1 else if s = r then 0 else 1 := by
  have e : val ((s / 18446744073709551616 : Nat) : Int) ((s % 18446744073709551616 : Nat) : Int) = (s : Int) := by unfold val; omega
  rw [e]
  unfold cmp
  split <;> split <;> (try split) <;> omega
theorem compare_sum (s r : Nat) (hs : s < 18446744073709551616 * 4294967296) (hr : r < 18446744073709551616) (w : World) :
    Calls Try.prog 29 #[.agg #[.int .i64 ((s / 18446744073709551616 : Nat) : Int), .int .u64 ((s % 18446744073709551616 : Nat) : Int)], .agg #[.int .i64 0, .int .u64 (r : Int)]] w fun e w' =>
      e = .returned (.int .i64 (if s < r then -1 else if s = r then 0 else 1)) ∧ Below w.heap.size w w' := by
  refine (cmp_any _ _ _ _ ⟨by omega, by omega, by omega, by omega⟩ ⟨by omega, by omega, by omega, by omega⟩ w).mono ?_
  rintro e w' ⟨rfl, hb⟩
  refine ⟨?_, hb⟩
  rw [show val 0 (r : Int) = (r : Int) by unfold val; omega, cmp_sum]
theorem unsigned_any (n : Nat) (h : n < 18446744073709551616) (W : World) : Calls Try.prog 30 #[.int .u64 (n : Int)] W fun e w' => e = .returned (.agg #[.int .i64 0, .int .u64 (n : Int)]) ∧ Below W.heap.size W w' :=
  (uns_any (n : Int) (by omega) (by omega) W).mono (by
    rintro e w' ⟨rfl, hb⟩
    refine ⟨?_, hb⟩
    unfold num hiOf loOf
    rw [show (n : Int) / 18446744073709551616 = 0 by omega, show (n : Int) % 18446744073709551616 = (n : Int) by omega])

theorem results_c2 {fn : Func} {t u : Tmp} (h : fn.results = #[.cell t 3, .cell u 27]) (tmps : Array Value) (w : World) (a b : Addr) {x y : Int} (ha : tmps[t]?.getD undef = .pointer (some a)) (hb : tmps[u]?.getD undef = .pointer (some b)) (hx : w.cell? a = some (.int .i64 x)) (hy : w.cell? b = some (.int .i64 y)) : (results fn tmps).run Try.prog w = .ok (.tuple #[.int .i64 x, .int .i64 y]) w := by
  simp [results, h, ha, hb, hx, hy, go_sem]
theorem results_c1 {fn : Func} {t : Tmp} (h : fn.results = #[.cell t 27]) (tmps : Array Value) (w : World) (a : Addr) {x : Int} (ha : tmps[t]?.getD undef = .pointer (some a)) (hx : w.cell? a = some (.int .i64 x)) : (results fn tmps).run Try.prog w = .ok (.int .i64 x) w := by
  simp [results, h, ha, hx, go_sem]
theorem new_2 (W : World) (o1 o2 : Obj) : ((W.alloc o1).alloc o2).heap[W.heap.size]? = some o1 ∧ ((W.alloc o1).alloc o2).heap[W.heap.size + 1]? = some o2 := by
  refine ⟨(Below.heap_alloc _ _ _ (by simp)).trans (World.alloc_heap_new W _), ?_⟩
  have := World.alloc_heap_new (W.alloc o1) o2
  rwa [World.size_alloc] at this
theorem Mid.st {n0 B : Nat} {a w : World} (h : Mid n0 B a w) {b : Nat} (h1 : n0 ≤ b) (h2 : b < B) (u : Value) : Mid n0 B a (w.setCell ⟨b, 0, none⟩ u) := h.setCell (p := ⟨b, 0, none⟩) (Or.inl ⟨h1, h2⟩) u
theorem bl_st {B : Nat} {a w : World} (h : Below B a w) {b : Nat} (hp : B ≤ b) (u : Value) : Below B a (w.setCell ⟨b, 0, none⟩ u) := h.setCell (p := ⟨b, 0, none⟩) hp u
theorem below_put {w W : World} {D : Nat} {o : Obj} (h : Below w.heap.size w W) (hD : w.heap.size ≤ D) : Below w.heap.size w (W.putObj D o) := h.grown (grownBy_putObj' _ _ _) (by have := h.size; omega) (fun k e => by cases e; omega)
theorem bx_put {W : World} {b D : Nat} {t : TypeId} {v : Value} {o : Obj} (h : Boxed W b t v) (hne : b ≠ D) : Boxed (W.putObj D o) b t v := (World.putObj_heap_other hne).trans h
theorem not_deferred {W : World} {b D : Nat} {t : TypeId} {v : Value} {x : Option (List Deferred)} (h : Boxed W b t v) (hD : W.heap[D]? = some (.deferred x)) : b ≠ D := fun e => by
  subst e
  have := (show W.heap[b]? = _ from h).symm.trans hD
  cases this

set_option maxRecDepth 100000 in
set_option maxHeartbeats 4000000 in
theorem at_any (w : World) (v : Value) (L : List Cn) (r : Nat) (hS : SN w v L) (hW : Wc L) (hl : L.length ≤ 4194304) (hr : r < 18446744073709551616) :
    Calls Try.prog 9 #[v, .int .u64 (r : Int)] w fun e w' => e = two (atF L r).1 (atF L r).2 ∧ Below w.heap.size w w' := by
  obtain ⟨ao, b, o, cap, rfl, hao, hR⟩ := hS.sc
  refine (callsIn_wide (n := 5)).1 ?_
  have HSu : Hid (∀ W, _) := sums_in 4 ao L.length cap
  refine callsIn_of_wp_marks Try.func9 rfl trivial ?_ rfl
  simp only [Try.ntmps9, List.size_toArray, List.length_cons, List.length_nil, Nat.reduceAdd, Nat.reduceSub, Array.replicate_succ, Array.replicate_zero, List.push_toArray, List.append_toArray, List.nil_append, List.cons_append]
  by_cases h0 : r = 0
  · subst h0
    rw [atF_zero]
    gi_wp2
    have b1 := (Boxed.new (w.alloc (.cells #[.int .u64 0] 24)) 3 (.int .i64 0)).alloc (.cells #[.int .i64 2] 27)
    have b2 := Boxed.new ((w.alloc (.cells #[.int .u64 0] 24)).alloc (.cells #[.int .i64 0] 3)) 27 (.int .i64 2)
    simp only [World.size_alloc] at b1 b2
    exact ⟨_, results_c2 rfl _ _ _ _ rfl rfl b1.cell b2.cell, rfl, bel3 _ _ _ _⟩
  · have c0 : ((r : Int) == 0) = false := by rw [beq_eq_false_iff_ne]; omega
    gi_wp2_with (refine ⟨trivial, ?_⟩; gi_at_call 28; refine (HSu.out _).mono ?_; rintro e w' ⟨rfl, rfl⟩)
    have bR := (((Boxed.new w 24 (.int .u64 (r : Int))).alloc (.cells #[.int .i64 0] 3)).alloc (.cells #[.int .i64 0] 27)).alloc (.cells #[.slice ao L.length cap] 23)
    have b1 := ((Boxed.new (w.alloc (.cells #[.int .u64 (r : Int)] 24)) 3 (.int .i64 0)).alloc (.cells #[.int .i64 0] 27)).alloc (.cells #[.slice ao L.length cap] 23)
    have b2 := (Boxed.new ((w.alloc (.cells #[.int .u64 (r : Int)] 24)).alloc (.cells #[.int .i64 0] 3)) 27 (.int .i64 0)).alloc (.cells #[.slice ao L.length cap] 23)
    have bS := Boxed.new (((w.alloc (.cells #[.int .u64 (r : Int)] 24)).alloc (.cells #[.int .i64 0] 3)).alloc (.cells #[.int .i64 0] 27)) 23 (.slice ao L.length cap)
    have hB0 : Below w.heap.size w ((((w.alloc (.cells #[.int .u64 (r : Int)] 24)).alloc (.cells #[.int .i64 0] 3)).alloc (.cells #[.int .i64 0] 27)).alloc (.cells #[.slice ao L.length cap] 23)) := (bel3 _ _ _ _).alloc (by simp; omega) _
    have hsz : ((((w.alloc (.cells #[.int .u64 (r : Int)] 24)).alloc (.cells #[.int .i64 0] 3)).alloc (.cells #[.int .i64 0] 27)).alloc (.cells #[.slice ao L.length cap] 23)).heap.size = w.heap.size + 4 := by simp
    simp only [World.size_alloc] at b1 b2 bS
    obtain ⟨W0, hW0⟩ : ∃ W0, ((((w.alloc (.cells #[.int .u64 (r : Int)] 24)).alloc (.cells #[.int .i64 0] 3)).alloc (.cells #[.int .i64 0] 27)).alloc (.cells #[.slice ao L.length cap] 23)) = W0 := ⟨_, rfl⟩
    rw [hW0] at bR b1 b2 bS hB0 hsz ⊢
    clear hW0
    have hRb : L ≠ [] → b < w.heap.size := fun h => hR.lt h
    have HA : Hid (∀ k, k < L.length → sN L k < r → r ≤ sN L (k + 1) → atF L r = ((L.getD k (0, 0)).1, 0)) := fun k a1 a2 a3 => atF_hit a1 a2 a3
    have HM : Hid (sN L L.length < r → atF L r = (0, 2)) := atF_miss
    have HSN : Hid (∀ k, k ≤ L.length → sN L k ≤ 18446744073709551616 * 4194304) := fun k h => by have := sN_le hW k; omega
    have HU : Hid (∀ W, _) := unsigned_any r hr
    have hmx : Try.prog.follows .mixedOrders = true := by kernel_rfl
    refine wpIn_rangeFunc_seq (gf := 49) (lb := #[.pointer (some ⟨w.heap.size + 1 + 1 + 1, 0, none⟩)]) (n0 := w.heap.size) (B := w.heap.size + 1 + 1 + 1) (N := L.length) (encs := encS L) rfl (enters_of Try.func49 (by kernel_rfl) rfl) (by omega)
      (sums_seq (5 - 1) (w.heap.size + 1 + 1 + 1) w.heap.size (w.heap.size + 1 + 1 + 1) ao b o cap L hao hW hl W0 bS.cell (Nat.le_refl _) (hR.below hB0 hRb) hRb (by omega)) (fun _ => rfl)
      (fun i W => (Boxed W w.heap.size 24 (.int .u64 (r : Int)) ∧ Boxed W (w.heap.size + 1) 3 (.int .i64 0) ∧ Boxed W (w.heap.size + 1 + 1) 27 (.int .i64 0)) ∧ Below w.heap.size w W ∧ Hid (sN L i < r))
      (fun c i W => Hid (c = .ret) ∧ (∃ k, k < L.length ∧ sN L k < r ∧ r ≤ sN L (k + 1) ∧ Boxed W (w.heap.size + 1) 3 (.int .i64 (L.getD k (0, 0)).1) ∧ Boxed W (w.heap.size + 1 + 1) 27 (.int .i64 0)) ∧ Below w.heap.size w W)
      (fun i A A' h k => ⟨⟨bx_below h.1.1 k (by omega), bx_below h.1.2.1 k (by omega), bx_below h.1.2.2 k (by omega)⟩, h.2.1.trans (k.mono (by omega)), h.2.2⟩)
      (fun c i A A' h k => by
        obtain ⟨h1, ⟨j, h2, h3, h4, h5, h6⟩, h7⟩ := h
        exact ⟨h1, ⟨j, h2, h3, h4, bx_below h5 k (by omega), bx_below h6 k (by omega)⟩, h7.trans (k.mono (by omega))⟩) ⟨⟨bR, b1, b2⟩, hB0, by show 0 < r; omega⟩ ?round ?done ?stop
    case round =>
      rintro l i W hi hl1 hl2 ⟨⟨hR1, h11, h21⟩, hBel, hlow⟩
      have hsi := HSN.out (i + 1) (by omega)
      unfold encS
      generalize hx : (L.getD i (0, 0)).1 = x
      generalize hy : ((L.getD i (0, 0)).2 : Int) = y
      gi_wp2
      refine ⟨bel2 _ _ _, ?_⟩
      rintro W2 ⟨⟨hR2, h12, h22⟩, hBel2, hlow2⟩ hs2 hot
      have hnb : W2.heap[W.heap.size]? = some (.cells #[.int .i64 x, .int .u64 y] 49 (0, 0)) := (hot W.heap.size (by omega)).trans (new_2 W _ _).1
      have hnc : W2.heap[W.heap.size + 1]? = some (.cells #[.int .i64 ((sN L (i + 1) / 18446744073709551616 : Nat) : Int), .int .u64 ((sN L (i + 1) % 18446744073709551616 : Nat) : Int)] 54 (0, 0)) := (hot (W.heap.size + 1) (by omega)).trans (new_2 W _ _).2
      clear hot
      have HM2 : Hid (Mid w.heap.size (w.heap.size + 1 + 1 + 1) W2 W2.drew) := (Mid.refl _ _ _).drew
      have HC : Hid (∀ W, _) := compare_sum (sN L (i + 1)) r (by omega) hr
      have HSi : Hid (sN L (i + 1) = sN L (i + 1)) := rfl
      have DN : Hid (W2.drew.heap[W.heap.size]? = some (.cells #[.int .i64 x, .int .u64 y] 49 (0, 0))) := hnb
      have D0 := cell_0 hnc
      have D1 := cell_1 hnc
      have DS : Hid (W2.drew.heap[W.heap.size + 1]? = _) := hnc
      have DR : Hid (W2.drew.heap[w.heap.size]? = some (.cells #[.int .u64 (r : Int)] 24 (0, 0))) := hR2
      have E0 := hR2.cell
      have E1 : Hid (W2.drew.heap[w.heap.size + 1]? = some (.cells #[.int .i64 0] 3 (0, 0))) := h12
      have E2 : Hid (W2.drew.heap[w.heap.size + 1 + 1]? = some (.cells #[.int .i64 0] 27 (0, 0))) := h22
      have EB : Hid (Below w.heap.size w W2.drew) := hBel2.drew
      have hsz2 : w.heap.size + 4 ≤ W2.heap.size := by rw [hs2]; simp; omega
      clear hR1 h11 h21 hR2 h12 h22 hBel2 hBel hnb hnc HSu HSN HA HM hs2
      by_cases hcmp : sN L (i + 1) < r
      · rw [if_pos hcmp] at HC
        have HIn : Hid (sN L (i + 1) < r) := hcmp
        generalize ((sN L (i + 1) / 18446744073709551616 : Nat) : Int) = sh at *
        generalize ((sN L (i + 1) % 18446744073709551616 : Nat) : Int) = sl at *
        clear hcmp HSi hsi
        gi_wp2
        gi_region_with_o (first
          | (refine ⟨trivial, ?_⟩; gi_at_call 30; refine (CallsIn.inRound l (callsIn_wide.2 (HU.out _))).mono ?_; rintro e w1 ⟨rfl, hk1⟩; have N1 := hid_keep hk1 DN; have S1 := hid_keep hk1 DS; have R1 := hid_keep hk1 DR; have F1 := hid_keep hk1 E1; have F2 := hid_keep hk1 E2; have s0' := cell_0 S1.out; have s1' := cell_1 S1.out)
          | (refine ⟨trivial, ?_⟩; gi_at_call 29; refine (CallsIn.inRound l (callsIn_wide.2 (HC.out _))).mono ?_; rintro e w2 ⟨rfl, hk2⟩; have N2 := hid_keep hk2 N1; have R2 := hid_keep hk2 R1; have G1 := hid_keep hk2 F1; have G2 := hid_keep hk2 F2))
        all_goals gi_wp2
        all_goals exact ⟨(HM2.out.below hk1).below hk2, ⟨R2.out, G1.out, G2.out⟩, bt (bt EB.out hk1) hk2, HIn⟩
      · obtain ⟨C, hC, hC0⟩ : ∃ C : Int, (if sN L (i + 1) < r then (-1 : Int) else if sN L (i + 1) = r then 0 else 1) = C ∧ 0 ≤ C := ⟨_, rfl, by rw [if_neg hcmp]; split <;> omega⟩
        rw [hC] at HC
        have HIn : Hid (r ≤ sN L (i + 1)) := by unfold Hid; omega
        have HX : Hid _ := hx
        generalize ((sN L (i + 1) / 18446744073709551616 : Nat) : Int) = sh at *
        generalize ((sN L (i + 1) % 18446744073709551616 : Nat) : Int) = sl at *
        clear hcmp HSi hsi hC hx
        gi_wp2
        gi_region_with_o (first
          | (refine ⟨trivial, ?_⟩; gi_at_call 30; refine (CallsIn.inRound l (callsIn_wide.2 (HU.out _))).mono ?_; rintro e w1 ⟨rfl, hk1⟩; have N1 := hid_keep hk1 DN; have S1 := hid_keep hk1 DS; have R1 := hid_keep hk1 DR; have F1 := hid_keep hk1 E1; have F2 := hid_keep hk1 E2; have s0' := cell_0 S1.out; have s1' := cell_1 S1.out)
          | (refine ⟨trivial, ?_⟩; gi_at_call 29; refine (CallsIn.inRound l (callsIn_wide.2 (HC.out _))).mono ?_; rintro e w2 ⟨rfl, hk2⟩; have N2 := hid_keep hk2 N1; have R2 := hid_keep hk2 R1; have G1 := hid_keep hk2 F1; have G2 := hid_keep hk2 F2; have g0 := cell_0 N2.out; have g1 := Boxed.cell G1.out; have g2 := Boxed.frozen G1.out; have g3 := Boxed.cell G2.out; have g4 := Boxed.frozen G2.out))
        all_goals gi_wp2
        all_goals exact ⟨(((HM2.out.below hk1).below hk2).st (by omega) (by omega) _).st (by omega) (by omega) _, rfl, ⟨i, hi, hlow2.out, HIn.out, by rw [HX.out]; exact Boxed.other (Boxed.set _ G1.out) (by omega) _, Boxed.set _ (Boxed.other G2.out (by omega) _)⟩, bl_st (bl_st (bt (bt EB.out hk1) hk2) (by omega) _) (by omega) _⟩
    case done =>
      rintro D W hD ⟨⟨hR1, h11, h21⟩, hBel, hlow⟩ hK
      have d0 := h11.cell
      have d1 := h11.frozen
      have d2 := h21.cell
      have d3 := h21.frozen
      have ne1 := not_deferred h11 hK
      have ne2 := not_deferred h21 hK
      gi_wp2
      have hK2 : ((W.setCell ⟨w.heap.size + 1, 0, none⟩ (.int .i64 0)).setCell ⟨w.heap.size + 1 + 1, 0, none⟩ (.int .i64 2)).heap[D]? = some (.deferred (some [])) := (Below.heap_setCell _ _ _ _ (by show D ≠ w.heap.size + 1 + 1; omega)).trans ((Below.heap_setCell _ _ _ _ (by show D ≠ w.heap.size + 1; omega)).trans hK)
      have e1 := Boxed.other (Boxed.set (.int .i64 0) h11) (B' := w.heap.size + 1 + 1) (by omega) (.int .i64 2)
      have e2 := Boxed.set (.int .i64 2) (Boxed.other h21 (B' := w.heap.size + 1) (by omega) (.int .i64 0))
      have e3 := bl_st (bl_st hBel (b := w.heap.size + 1) (by omega) (.int .i64 0)) (b := w.heap.size + 1 + 1) (by omega) (.int .i64 2)
      refine ⟨by simp, .inl ⟨_, _, rfl, run_takeDeferred hK2, ?_⟩⟩
      exact ⟨_, results_c2 rfl _ _ _ _ rfl rfl (bx_put e1 ne1).cell (bx_put e2 ne2).cell, by rw [HM.out hlow.out], below_put e3 (by omega)⟩
    case stop =>
      rintro D c i W hD hi ⟨hc, ⟨k, h2, h3, h4, h5, h6⟩, h7⟩ hK
      obtain rfl := hc.out
      have ne1 := not_deferred h5 hK
      have ne2 := not_deferred h6 hK
      gi_wp2
      refine ⟨by simp, .inl ⟨_, _, rfl, run_takeDeferred hK, ?_⟩⟩
      exact ⟨_, results_c2 rfl _ _ _ _ rfl rfl (bx_put h5 ne1).cell (bx_put h6 ne2).cell, by rw [HA.out k h2 h3 h4], below_put h7 (by omega)⟩
end Go.Proofs.Ythhoklgfgandpaa
