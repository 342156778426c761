/- AtMost, the code's. Own work of the verifier. -/
import Derived.Test.YthhoklgfgandpaaY5
namespace Go.Proofs.Ythhoklgfgandpaa
open Go.RowKit Go.Shelf

attribute [local go_sem] Oper.semAt_some

/-- What lies in the first k buckets. -/
theorem amN_all {p : Nat} {L : List Cn} {y : Int} {k : Nat} (hk : k ≤ L.length) (h1 : ∀ j (hj : j < L.length), j < k → (hiV p L[j].1.toNat : Int) ≤ y) (h2 : ∀ j (hj : j < L.length), k ≤ j → ¬ (hiV p L[j].1.toNat : Int) ≤ y) : amN p L y = sN L k := by
  have a : ∀ m, m ≤ k → amN p (L.take m) y = sN L m := fun m => by
    induction m with
    | zero => intro _; simp [amN, sN, sumN]
    | succ m ih =>
      intro hm
      unfold sN at *
      rw [amN_take p L y m (by omega), sumN_take L m (by omega), ih (by omega), if_pos (h1 m (by omega) (by omega))]
  have b : ∀ m, k ≤ m → m ≤ L.length → amN p (L.take m) y = sN L k := fun m => by
    induction m with
    | zero => intro hm _; rw [show k = 0 by omega]; exact a 0 (by omega)
    | succ m ih =>
      intro hm hl
      by_cases e : k = m + 1
      · rw [e]; exact a (m + 1) (by omega)
      · rw [amN_take p L y m (by omega), ih (by omega) (by omega), if_neg (h2 m (by omega) (by omega))]; rfl
  have c := b L.length hk (Nat.le_refl _)
  rwa [List.take_length] at c
def mostI (w : World) (M p : Nat) (L : List Cn) (y : Int) (i : Nat) (W : World) : Prop := (Boxed W w.heap.size 3 (.int .i64 (p : Int)) ∧ Boxed W (w.heap.size + 1) 2 (.int .i64 y) ∧ Boxed W M 24 (.int .u64 ((sN L i % 18446744073709551616 : Nat) : Int))) ∧ Below w.heap.size w W ∧ Hid (∀ j (hj : j < L.length), j < i → (hiV p L[j].1.toNat : Int) ≤ y)
def mostX (w : World) (M p : Nat) (L : List Cn) (y : Int) (c : Code) (_ : Nat) (W : World) : Prop := Hid (c = .exit 0) ∧ (∃ k, k < L.length ∧ Hid ((∀ j (hj : j < L.length), j < k → (hiV p L[j].1.toNat : Int) ≤ y) ∧ ¬ (hiV p (L.getD k (0, 0)).1.toNat : Int) ≤ y) ∧ Boxed W M 24 (.int .u64 ((sN L k % 18446744073709551616 : Nat) : Int))) ∧ Below w.heap.size w W
theorem may_rise {p : Int} {L : List Cn} (h : MayIs p L 0) : ∀ j i (hj : j < L.length) (hi : i < L.length), i < j → L[i].1 < L[j].1 := by
  have step : ∀ j (hj : j + 1 < L.length), L[j].1 < L[j + 1].1 := fun j hj => by
    rcases h with ⟨_, h⟩ | ⟨hp, h⟩
    · exact absurd h (by decide)
    · rcases h with ⟨i, _, _, h3, h4⟩ | ⟨h1, h2⟩
      · exact absurd h4.symm h3
      · have hb := h1 (j + 1) hj
        unfold bad at hb
        rw [show L.getD (j + 1) (0, 1) = L[j + 1] from by simp [List.getD, hj], show L.getD (j + 1 - 1) (0, 1) = L[j] from by simp [List.getD, show j < L.length by omega]] at hb
        by_cases c1 : L[j + 1].1 < 0 ∨ (((64 - p.toNat) * 2 ^ p.toNat : Nat) : Int) ≤ L[j + 1].1
        · rw [if_pos c1] at hb; exact absurd hb (by decide)
        · rw [if_neg c1] at hb
          by_cases c2 : 0 < j + 1 ∧ L[j + 1].1 ≤ L[j].1
          · rw [if_pos c2] at hb; exact absurd hb (by decide)
          · omega
  intro j
  induction j with
  | zero => intro i _ _ h; omega
  | succ j ih =>
    intro i hj hi hij
    by_cases e : i = j
    · subst e; exact step i hj
    · have := ih i (by omega) hi (by omega)
      have := step j hj
      omega
theorem chigh_at (p : Nat) (h1 : 1 ≤ p) (h2 : p ≤ 14) (x : Int) (hx : 0 ≤ x) (hx' : x < (((64 - p) * 2 ^ p : Nat) : Int)) (w : World) :
    Calls Try.prog 44 #[.int .i64 (p : Int), .int .i64 x] w fun e w' => e = two (hiV p x.toNat : Nat) 0 ∧ Below w.heap.size w w' := by
  obtain ⟨i, rfl⟩ := Int.eq_ofNat_of_zero_le hx
  refine (high_of (bounds_yes p i h1 h2 (by omega)) w).mono ?_
  rintro e w' ⟨⟨n, rfl⟩, rfl⟩
  exact ⟨rfl, below_drew w n⟩
theorem below_mid {w A B : World} {_M : Nat} (h : Below w.heap.size w A) (k : Below A.heap.size A B) : Below w.heap.size w B := bt h k

set_option maxRecDepth 100000 in
set_option maxHeartbeats 4000000 in
theorem most_not (w : World) (v : Value) (L : List Cn) (p x y : Int) (hS : SN w v L) (hW : Wc L) (hl : L.length ≤ 4194304) (hx : MayIs p L x) (h0 : x ≠ 0) :
    Calls Try.prog 22 #[.int .i64 p, v, .int .i64 y] w fun e w' => e = twoU 0 x ∧ Below w.heap.size w w' := by
  obtain ⟨ao, b, o, cap, rfl, hao, hR⟩ := hS.sc
  have HM : Hid (∀ W, Below w.heap.size w W → Calls Try.prog 11 #[.int .i64 p, .slice ao L.length cap] W fun e w' => e = .returned (.int .i64 x) ∧ Below W.heap.size W w') := fun W hb => may_any W _ L p x (hS.below hb) hW hl hx
  have c0 : (x == 0) = false := by rw [beq_eq_false_iff_ne]; exact h0
  have hb2 := bel2 w (.cells #[.int .i64 p] 3) (.cells #[.int .i64 y] 2)
  refine (callsIn_wide (n := 5)).1 ?_
  refine callsIn_of_wp_marks Try.func22 rfl trivial ?_ rfl
  simp only [Try.ntmps22, List.size_toArray, List.length_cons, List.length_nil, Nat.reduceAdd, Nat.reduceSub, Array.replicate_succ, Array.replicate_zero, List.push_toArray, List.append_toArray, List.nil_append, List.cons_append]
  gi_wp2_with (refine ⟨trivial, ?_⟩; gi_at_call 11; refine (callsIn_wide.2 (HM.out _ hb2)).mono ?_; rintro e w' ⟨rfl, hk⟩)
  exact ⟨_, results_tmp2 rfl _ _ _, rfl, bt hb2 hk⟩
set_option maxRecDepth 100000 in
set_option maxHeartbeats 4000000 in
theorem most_ok (w : World) (v : Value) (L : List Cn) (p : Nat) (y : Int) (hS : SN w v L) (hW : Wc L) (hl : L.length ≤ 4194304) (hx : MayIs (p : Int) L 0) :
    Calls Try.prog 22 #[.int .i64 (p : Int), v, .int .i64 y] w fun e w' => e = twoU (amN p L y : Nat) 0 ∧ Below w.heap.size w w' := by
  obtain ⟨ao, b, o, cap, rfl, hao, hR⟩ := hS.sc
  have HM : Hid (∀ W, Below w.heap.size w W → Calls Try.prog 11 #[.int .i64 (p : Int), .slice ao L.length cap] W fun e w' => e = .returned (.int .i64 0) ∧ Below W.heap.size W w') := fun W hb => may_any W _ L p 0 (hS.below hb) hW hl hx
  have HSu : Hid (∀ W, _) := sums_in 4 ao L.length cap
  have hb2 := bel2 w (.cells #[.int .i64 (p : Int)] 3) (.cells #[.int .i64 y] 2)
  obtain ⟨n0, n1⟩ := new_2 w (.cells #[.int .i64 (p : Int)] 3) (.cells #[.int .i64 y] 2)
  refine (callsIn_wide (n := 5)).1 ?_
  refine callsIn_of_wp_marks Try.func22 rfl trivial ?_ rfl
  simp only [Try.ntmps22, List.size_toArray, List.length_cons, List.length_nil, Nat.reduceAdd, Nat.reduceSub, Array.replicate_succ, Array.replicate_zero, List.push_toArray, List.append_toArray, List.nil_append, List.cons_append]
  have H0 : Hid _ := n0
  have H1 : Hid _ := n1
  clear n0 n1
  gi_wp2_with (first
    | (refine ⟨trivial, ?_⟩; gi_at_call 11; refine (callsIn_wide.2 (HM.out _ hb2)).mono ?_; rintro e w1 ⟨rfl, hk⟩; have A0 := hid_keep hk H0; have A1 := hid_keep hk H1)
    | (refine ⟨trivial, ?_⟩; gi_at_call 28; refine (HSu.out _).mono ?_; rintro e w' ⟨rfl, rfl⟩))
  obtain ⟨hp, hsum, hidx⟩ := may_ok hx
  have hbw1 : Below w.heap.size w w1 := bt hb2 hk
  have hsw1 : w.heap.size + 2 ≤ w1.heap.size := by have := hk.size; simp at this; omega
  have HRi : Hid _ := may_rise hx
  have HHi : Hid (∀ i (hi : i < L.length) W, _) := fun i hi W => chigh_at p (by omega) (by omega) L[i].1 (hidx i hi).1 (by have := (hidx i hi).2.1; simpa using this) W
  have HHn : Hid (∀ i (hi : i < L.length), 0 ≤ L[i].1) := fun i hi => (hidx i hi).1
  have HSS : Hid (∀ k, k ≤ L.length → sN L k ≤ 9223372036854775807) := fun k _ => by have := sumN_mono L k; unfold sN; omega
  have HEND : Hid (∀ k, k ≤ L.length → (∀ j (hj : j < L.length), j < k → (hiV p L[j].1.toNat : Int) ≤ y) → (∀ h : k < L.length, ¬ (hiV p (L.getD k (0, 0)).1.toNat : Int) ≤ y) → ((sN L k % 18446744073709551616 : Nat) : Int) = ((amN p L y : Nat) : Int)) := fun k hk a1 a2 => by
    rw [amN_all hk a1 (fun j hj hkj => by
      have hkl : k < L.length := by omega
      have a3 := a2 hkl
      rw [show L.getD k (0, 0) = L[k] from by simp [List.getD, hkl]] at a3
      have a4 : L[k].1.toNat ≤ L[j].1.toNat := by
        by_cases e : k = j
        · subst e; exact Nat.le_refl _
        · have := HRi.out j k hj hkl (by omega); omega
      have := hiV_mono (p := p) a4
      omega)]
    have := HSS.out k hk
    omega
  obtain ⟨bn, bS⟩ := new_2 w1 (.cells #[.int .u64 0] 24) (.cells #[.slice ao L.length cap] 23)
  have hb3 := bel2 w1 (.cells #[.int .u64 0] 24) (.cells #[.slice ao L.length cap] 23)
  have hsz : ((w1.alloc (.cells #[.int .u64 0] 24)).alloc (.cells #[.slice ao L.length cap] 23)).heap.size = w1.heap.size + 2 := by simp
  have B0 := hid_keep hb3 A0
  have B1 := hid_keep hb3 A1
  have hB0 := bt hbw1 hb3
  generalize hM : w1.heap.size = M at *
  obtain ⟨W0, hW0⟩ : ∃ W0, (w1.alloc (.cells #[.int .u64 0] 24)).alloc (.cells #[.slice ao L.length cap] 23) = W0 := ⟨_, rfl⟩
  rw [hW0] at bn bS hsz B0 B1 hB0 ⊢
  clear hW0 A0 A1 H0 H1 hk HM hb3
  have hRb : L ≠ [] → b < w.heap.size := fun h => hR.lt h
  refine wpIn_rangeFunc_seq (gf := 49) (lb := #[.pointer (some ⟨M + 1, 0, none⟩)]) (n0 := w.heap.size) (B := M + 1) (N := L.length) (encs := encS L) rfl (enters_of Try.func49 (by kernel_rfl) rfl) (by omega)
    (sums_seq (5 - 1) (M + 1) w.heap.size (M + 1) ao b o cap L hao hW hl W0 (cell_b bS) (Nat.le_refl _) (hR.below hB0 hRb) hRb (by omega)) (fun _ => rfl)
    (mostI w M p L y) (mostX w M p L y)
    (fun i A A' h k => ⟨⟨bx_below h.1.1 k (by omega), bx_below h.1.2.1 k (by omega), bx_below h.1.2.2 k (by omega)⟩, h.2.1.trans (k.mono (by omega)), h.2.2⟩)
    (fun c i A A' h k => by
      obtain ⟨h1, ⟨j, h2, h3, h4⟩, h5⟩ := h
      exact ⟨h1, ⟨j, h2, h3, bx_below h4 k (by omega)⟩, h5.trans (k.mono (by omega))⟩) ⟨⟨B0.out, B1.out, by rw [show sN L 0 = 0 from rfl]; exact bn⟩, hB0, fun j hj h => by omega⟩ ?round ?done ?stop
  case round =>
    rintro l i W hi hl1 hl2 ⟨⟨h01, h11, h21⟩, hBel, hlow⟩
    have HI : Hid (∀ W, _) := HHi.out i hi
    have hgi : L.getD i (0, 0) = L[i] := by simp [List.getD, hi]
    unfold encS
    rw [hgi]
    generalize hc : L[i] = c at *
    obtain ⟨x, z⟩ := c
    dsimp only at HI ⊢
    gi_wp2
    refine ⟨bel2 _ _ _, ?_⟩
    rintro W2 ⟨⟨h02, h12, h22⟩, hBel2, _⟩ hs2 hot
    have hnb : W2.heap[W.heap.size]? = some (.cells #[.int .i64 x, .int .u64 (z : Int)] 49 (0, 0)) := (hot W.heap.size (by omega)).trans (new_2 W _ _).1
    have hnc : W2.heap[W.heap.size + 1]? = some (.cells #[.int .i64 ((sN L (i + 1) / 18446744073709551616 : Nat) : Int), .int .u64 ((sN L (i + 1) % 18446744073709551616 : Nat) : Int)] 54 (0, 0)) := (hot (W.heap.size + 1) (by omega)).trans (new_2 W _ _).2
    clear hot h01 h11 h21 hBel
    have a0 := cell_0 hnb
    have b0 := cell_b h02
    have HNC : Hid _ := hnc
    have H12 : Hid (W2.heap[w.heap.size + 1]? = some (.cells #[.int .i64 y] 2 (0, 0))) := h12
    have H22 : Hid (W2.heap[M]? = some (.cells #[.int .u64 ((sN L i % 18446744073709551616 : Nat) : Int)] 24 (0, 0))) := h22
    have H02 : Hid (W2.heap[w.heap.size]? = some (.cells #[.int .i64 (p : Int)] 3 (0, 0))) := h02
    have HB2 : Hid _ := hBel2
    clear h02 h12 h22 hBel2 hnb hnc
    by_cases hv : (hiV p x.toNat : Int) ≤ y
    · have HL2 : Hid (∀ j (hj : j < L.length), j < i + 1 → (hiV p L[j].1.toNat : Int) ≤ y) := fun j hj hji => by
        by_cases e : j = i
        · subst e; rw [hc]; exact hv
        · exact hlow.out j hj (by omega)
      have hv' : ¬ y < (hiV p x.toNat : Int) := by omega
      generalize hiV p x.toNat = h at *
      clear hv
      gi_wp2_with (refine ⟨trivial, ?_⟩; gi_at_call 44; refine (CallsIn.inRound l (callsIn_wide.2 (HI.out _))).mono ?_; rintro e w3 ⟨rfl, hk3⟩; have N3 := hid_keep hk3 HNC; have A3 := hid_keep hk3 H12; have T3 := hid_keep hk3 H22; have P3 := hid_keep hk3 H02; have g0 := cell_b A3.out; have g1 := cell_1 N3.out; have g2 := cell_b T3.out; have g3 := froz_b T3.out)
      refine ⟨((Mid.refl _ _ _).below hk3).st (by omega) (by omega) _, ⟨⟨(Below.heap_setCell _ _ _ _ (by show w.heap.size ≠ M; omega)).trans P3.out, (Below.heap_setCell _ _ _ _ (by show w.heap.size + 1 ≠ M; omega)).trans A3.out, Boxed.set _ T3.out⟩, bl_st (bt HB2.out hk3) (by omega) _, HL2⟩⟩
    · have HL2 : Hid ((∀ j (hj : j < L.length), j < i → (hiV p L[j].1.toNat : Int) ≤ y) ∧ ¬ (hiV p (L.getD i (0, 0)).1.toNat : Int) ≤ y) := ⟨hlow.out, by rw [hgi]; exact hv⟩
      have hv' : y < (hiV p x.toNat : Int) := by omega
      generalize hiV p x.toNat = h at *
      clear hv
      gi_wp2_with (refine ⟨trivial, ?_⟩; gi_at_call 44; refine (CallsIn.inRound l (callsIn_wide.2 (HI.out _))).mono ?_; rintro e w3 ⟨rfl, hk3⟩; have N3 := hid_keep hk3 HNC; have A3 := hid_keep hk3 H12; have T3 := hid_keep hk3 H22; have P3 := hid_keep hk3 H02; have g0 := cell_b A3.out; have g1 := cell_1 N3.out; have g2 := cell_b T3.out; have g3 := froz_b T3.out)
      exact ⟨(Mid.refl _ _ _).below hk3, rfl, ⟨i, hi, ⟨HL2.out.1, by have := HL2.out.2; omega⟩, T3.out⟩, bt HB2.out hk3⟩
  case done =>
    rintro D W hD ⟨⟨h01, h11, h21⟩, hBel, hlow⟩ hK
    have d0 := cell_b h21
    have he := HEND.out L.length (Nat.le_refl _) hlow.out (fun h => by omega)
    rw [he] at d0
    gi_wp2
    refine ⟨by simp, .inl ⟨_, _, rfl, run_takeDeferred hK, ?_⟩⟩
    exact ⟨_, results_tmp2 rfl _ _ _, rfl, below_put hBel (by omega)⟩
  case stop =>
    rintro D c i W hD hi ⟨hc, ⟨k, h2, h3, h4⟩, h7⟩ hK
    obtain rfl := hc.out
    have d0 := cell_b h4
    have he := HEND.out k (by omega) h3.out.1 (fun _ => h3.out.2)
    rw [he] at d0
    gi_wp2
    refine ⟨by simp, .inl ⟨_, _, rfl, run_takeDeferred hK, ?_⟩⟩
    exact ⟨_, results_tmp2 rfl _ _ _, rfl, below_put h7 (by omega)⟩
end Go.Proofs.Ythhoklgfgandpaa
