/- THE DOCUMENT's LOSSES AND PAIRS: THE WALKS. Own work of the verifier. -/
import Derived.Test.YtfilaeameofiaaaQ3
import Derived.Test.YtfilaeameofiaaaSoftMath9
namespace Go.Proofs.Ytfilaeameofiaaa
open Go.RowKit Soft

theorem bel1 (w : World) (o1 : Obj) : Below w.heap.size w (w.alloc o1) := (Below.refl _ _).alloc (Nat.le_refl _) _
theorem bel2 (w : World) (o1 o2 : Obj) : Below w.heap.size w ((w.alloc o1).alloc o2) :=
  ((Below.refl _ _).alloc (Nat.le_refl _) _).alloc (by simp) _
theorem bel3 (w : World) (o1 o2 o3 : Obj) : Below w.heap.size w (((w.alloc o1).alloc o2).alloc o3) :=
  (((Below.refl _ _).alloc (Nat.le_refl _) _).alloc (by simp) _).alloc (by simp only [World.size_alloc]; omega) _
theorem refsub_any (x y : Nat) (hx : x < 18446744073709551616) (hy : y < 18446744073709551616) (w : World) :
    Calls Try.prog 42 #[.int .u64 (x : Int), .int .u64 (y : Int)] w fun e w' => e = .returned (.int .u64 (fa x (neg y) : Nat)) ∧ w' = w := by
  have HN : Hid _ := negative_any y hy
  have HA : Hid _ := refadd_any x (neg y) hx (neg_lt hy)
  go_enter Try.func42, Try.ntmps42
  go_wp2_with (first | (go_at_call 35; with_reducible refine (HN.out _).mono ?_; rintro e w' ⟨rfl, rfl⟩) | (go_at_call 31; with_reducible refine (HA.out _).mono ?_; rintro e w' ⟨rfl, rfl⟩))
  go_ret
  exact ⟨rfl, rfl⟩
set_option maxHeartbeats 4000000 in
theorem refloss_any (x y : Nat) (hx : x < 18446744073709551616) (hy : y < 18446744073709551616) (w : World) :
    Calls Try.prog 30 #[.int .u64 (x : Int), .int .u64 (y : Int)] w fun e w' => e = .returned (.int .u64 (fl x y : Nat)) ∧ w' = w := by
  have HX : Hid _ := isNaN_any x hx
  have HY : Hid _ := isNaN_any y hy
  have c1 := clear_sign x hx
  have c2 := clear_sign y hy
  have HA : Hid _ := refadd_any x y hx hy
  have HS1 : Hid _ := refsub_any x (fa x y) hx (fa_lt _ _)
  have HS2 : Hid _ := refsub_any y (fa x y) hy (fa_lt _ _)
  have HB1 : Hid _ := refadd_any (fa x (neg (fa x y))) y (fa_lt _ _) hy
  have HB2 : Hid _ := refadd_any (fa y (neg (fa x y))) x (fa_lt _ _) hx
  have HF : Hid (fl x y = if geq x y then fa (fa x (neg (fa x y))) y else fa (fa y (neg (fa x y))) x) := rfl
  have HG : Hid (geq x y = (!isn x && !isn y && decide (y % 9223372036854775808 ≤ x % 9223372036854775808))) := rfl
  generalize fl x y = V at *
  generalize geq x y = g at *
  generalize isn x = n1 at *
  generalize isn y = n2 at *
  generalize x % 9223372036854775808 = a at *
  generalize y % 9223372036854775808 = b at *
  have hc : ((b : Int) ≤ (a : Int) ∧ decide (b ≤ a) = true) ∨ (¬ (b : Int) ≤ (a : Int) ∧ decide (b ≤ a) = false) := by
    by_cases h : b ≤ a
    · left; exact ⟨by omega, decide_eq_true h⟩
    · right; exact ⟨by omega, decide_eq_false h⟩
  rcases hc with ⟨hc, hd⟩ | ⟨hc, hd⟩
  all_goals
    rw [hd] at HG
    clear hd
    cases n1 <;> cases n2
    all_goals
      rw [HG.out] at HF
      clear HG
      simp only [Bool.not_true, Bool.not_false, Bool.and_true, Bool.and_false, Bool.and_self, if_true, Bool.false_eq_true, if_false] at HF
      go_enter Try.func30, Try.ntmps30
      go_wp2_with (first | (go_at_call 18; (first | (with_reducible refine (HX.out _).mono ?_) | (with_reducible refine (HY.out _).mono ?_)); rintro e w' ⟨rfl, rfl⟩) | (go_at_call 42; (first | (with_reducible refine (HS1.out _).mono ?_) | (with_reducible refine (HS2.out _).mono ?_)); rintro e w' ⟨rfl, rfl⟩) | (go_at_call 31; (first | (with_reducible refine (HA.out _).mono ?_) | (with_reducible refine (HB1.out _).mono ?_) | (with_reducible refine (HB2.out _).mono ?_)); rintro e w' ⟨rfl, rfl⟩))
      go_ret
      exact ⟨retI (by rw [HF.out]), rfl⟩
set_option maxHeartbeats 2000000 in
theorem refput_any (s c x : Nat) (hs : s < 18446744073709551616) (hc : c < 18446744073709551616) (hx : x < 18446744073709551616) (w : World) :
    Calls Try.prog 20 #[.agg #[.int .u64 (s : Int), .int .u64 (c : Int)], .int .u64 (x : Int)] w fun e w' => e = .returned (.agg #[.int .u64 (fa s x : Nat), .int .u64 (fa c (fl s x) : Nat)]) ∧ Below w.heap.size w w' := by
  have HL : Hid _ := refloss_any s x hs hx
  have HA : Hid _ := refadd_any s x hs hx
  have HB : Hid _ := refadd_any c (fl s x) hc (fl_lt _ _)
  go_enter Try.func20, Try.ntmps20
  go_wp2_with (first | (go_at_call 30; with_reducible refine (HL.out _).mono ?_; rintro e w' ⟨rfl, rfl⟩) | (go_at_call 31; (first | (with_reducible refine (HA.out _).mono ?_) | (with_reducible refine (HB.out _).mono ?_)); rintro e w' ⟨rfl, rfl⟩))
  go_region_held3 (fun W => W.cell? ⟨w.heap.size, 0, none⟩ = some (.int .u64 (s : Int)) ∧ W.cell? ⟨w.heap.size, 1, none⟩ = some (.int .u64 (c : Int))) (go_keep)
    (first | (go_at_call 31; (first | (with_reducible refine (HA.out _).mono ?_) | (with_reducible refine (HB.out _).mono ?_)); rintro e w' ⟨rfl, rfl⟩))
  go_wp2
  simp [bodyPost, results, Try.results20, go_sem]
  exact (bel2 _ _ _).drew
set_option maxHeartbeats 2000000 in
theorem refmerge_any (s c u d : Nat) (hs : s < 18446744073709551616) (hc : c < 18446744073709551616) (hu : u < 18446744073709551616) (hd : d < 18446744073709551616) (w : World) :
    Calls Try.prog 10 #[.agg #[.int .u64 (s : Int), .int .u64 (c : Int)], .agg #[.int .u64 (u : Int), .int .u64 (d : Int)]] w fun e w' => e = .returned (.agg #[.int .u64 (fa s u : Nat), .int .u64 (fa (fa c d) (fl s u) : Nat)]) ∧ Below w.heap.size w w' := by
  have HL : Hid _ := refloss_any s u hs hu
  have HC : Hid _ := refadd_any c d hc hd
  have HA : Hid _ := refadd_any s u hs hu
  have HB : Hid _ := refadd_any (fa c d) (fl s u) (fa_lt _ _) (fl_lt _ _)
  go_enter Try.func10, Try.ntmps10
  go_wp2_with (first | (go_at_call 30; with_reducible refine (HL.out _).mono ?_; rintro e w' ⟨rfl, rfl⟩) | (go_at_call 31; (first | (with_reducible refine (HC.out _).mono ?_) | (with_reducible refine (HA.out _).mono ?_) | (with_reducible refine (HB.out _).mono ?_)); rintro e w' ⟨rfl, rfl⟩))
  simp [bodyPost, results, Try.results10, go_sem]
  exact bel3 _ _ _ _
theorem reftotal_any (s c : Nat) (hs : s < 18446744073709551616) (hc : c < 18446744073709551616) (w : World) :
    Calls Try.prog 14 #[.agg #[.int .u64 (s : Int), .int .u64 (c : Int)]] w fun e w' => e = .returned (.int .u64 (fa s c : Nat)) ∧ Below w.heap.size w w' := by
  have HA : Hid _ := refadd_any s c hs hc
  go_enter Try.func14, Try.ntmps14
  go_wp2_with (go_at_call 31; with_reducible refine (HA.out _).mono ?_; rintro e w' ⟨rfl, rfl⟩)
  go_ret
  exact ⟨rfl, bel1 _ _⟩
/-- Whole numbers of 64 bits, one behind the other. -/
def RowU (w : World) (b o : Nat) (L : List Nat) : Prop := ∀ i (h : i < L.length), w.cell? ⟨b, o + i, none⟩ = some (.int .u64 ((L[i] : Nat) : Int))
def Small (L : List Nat) : Prop := ∀ x ∈ L, x < 18446744073709551616
theorem ofW_snoc (L : List Nat) (x : Nat) : ofW (L ++ [x]) = putW (ofW L) x := by unfold ofW; rw [List.foldl_append]; rfl
theorem ofW_take (L : List Nat) (i : Nat) (h : i < L.length) : ofW (L.take (i + 1)) = putW (ofW (L.take i)) L[i] := by
  rw [List.take_succ_eq_append_getElem h, ofW_snoc]
theorem lt_of_cell {w : World} {b o : Nat} {v : Value} (h : w.cell? ⟨b, o, none⟩ = some v) : b < w.heap.size := by
  by_cases k : b < w.heap.size
  · exact k
  · exfalso
    have : w.heap[b]? = none := by simp; omega
    simp [World.cell?, this] at h
theorem RowU.below {w w1 : World} {b o : Nat} {L : List Nat} {B : Nat} (h : RowU w b o L) (hb : Below B w w1) (hB : L ≠ [] → b < B) : RowU w1 b o L := fun i hi => by
  rw [hb.cell (p := ⟨b, o + i, none⟩) (hB (by intro k; rw [k] at hi; simp at hi))]; exact h i hi
/-- A pair that lies in memory. -/
def P2 (w : World) (k x y : Nat) : Prop := w.heap[k]? = some (.cells #[.int .u64 (x : Int), .int .u64 (y : Int)] 24 (0, 0))
theorem P2.c0 {w : World} {k x y : Nat} (h : P2 w k x y) : w.cell? ⟨k, 0, none⟩ = some (.int .u64 (x : Int)) := by unfold P2 at h; simp [World.cell?, h]
theorem P2.c1 {w : World} {k x y : Nat} (h : P2 w k x y) : w.cell? ⟨k, 1, none⟩ = some (.int .u64 (y : Int)) := by unfold P2 at h; simp [World.cell?, h]
theorem P2.fr {w : World} {k x y : Nat} (h : P2 w k x y) (o : Nat) : w.frozen? ⟨k, o, none⟩ = false := by unfold P2 at h; simp [World.frozen?, h]
theorem P2.lt {w : World} {k x y : Nat} (h : P2 w k x y) : k < w.heap.size := lt_of_cell h.c0
theorem P2.put {w : World} {k x y : Nat} (h : P2 w k x y) (x' y' : Nat) : P2 ((w.setCell ⟨k, 0, none⟩ (.int .u64 (x' : Int))).setCell ⟨k, 1, none⟩ (.int .u64 (y' : Int))) k x' y' := by
  unfold P2 at *
  have h1 := heap_setCell_same w k 0 _ _ (.int .u64 (x' : Int)) h
  have h2 := heap_setCell_same _ k 1 _ _ (.int .u64 (y' : Int)) h1
  rw [h2]; rfl
theorem P2.other {w : World} {k x y : Nat} (h : P2 w k x y) {a : Addr} (ha : k ≠ a.block) (v : Value) : P2 (w.setCell a v) k x y := by
  unfold P2 at *
  rw [heap_setCell_other w a k v ha]; exact h
theorem P2.below {w w1 : World} {k x y B : Nat} (h : P2 w k x y) (hb : Below B w w1) (hk : k < B) : P2 w1 k x y := by
  unfold P2 at *
  rw [hb.block k hk]; exact h
theorem new1 (w : World) (o1 o2 : Obj) : ((w.alloc o1).alloc o2).heap[w.heap.size]? = some o1 := by
  show ((w.heap.push o1).push o2)[w.heap.size]? = some o1
  simp [Array.getElem?_push]
theorem new2 (w : World) (o1 o2 : Obj) : ((w.alloc o1).alloc o2).heap[w.heap.size + 1]? = some o2 := by
  show ((w.heap.push o1).push o2)[w.heap.size + 1]? = some o2
  rw [show w.heap.size + 1 = (w.heap.push o1).size from by simp, Array.getElem?_push_size]
theorem RowU.lt {w : World} {b o : Nat} {L : List Nat} (h : RowU w b o L) (hL : L ≠ []) : b < w.heap.size := by
  cases L with
  | nil => exact absurd rfl hL
  | cons x l => exact lt_of_cell (h 0 (by simp))
theorem putW_lt (p : Nat × Nat) (x : Nat) : (putW p x).1 < 18446744073709551616 ∧ (putW p x).2 < 18446744073709551616 := ⟨fa_lt _ _, fa_lt _ _⟩
theorem ofW_lt (L : List Nat) (i : Nat) : (ofW (L.take i)).1 < 18446744073709551616 ∧ (ofW (L.take i)).2 < 18446744073709551616 := by
  rcases List.eq_nil_or_concat (L.take i) with h | ⟨l, x, h⟩
  · rw [h]; decide
  · rw [h, List.concat_eq_append, ofW_snoc]; exact putW_lt _ _
theorem keepOf {w W W1 : World} {b o i s c x : Nat} {L : List Nat} (hb : Below W.heap.size W W1) (_hi : i < L.length) (h : W.cell? ⟨b, o + i, none⟩ = some (.int .u64 (x : Int)) ∧ W.cell? ⟨w.heap.size + 1, 0, none⟩ = some (.int .u64 (s : Int)) ∧ W.cell? ⟨w.heap.size + 1, 1, none⟩ = some (.int .u64 (c : Int)) ∧ W.frozen? ⟨w.heap.size + 1, 0, none⟩ = false ∧ W.frozen? ⟨w.heap.size + 1, 1, none⟩ = false ∧ (RowU W b o L ∧ P2 W (w.heap.size + 1) s c ∧ P2 W w.heap.size 0 0 ∧ Below w.heap.size w W)) :
    W1.cell? ⟨b, o + i, none⟩ = some (.int .u64 (x : Int)) ∧ W1.cell? ⟨w.heap.size + 1, 0, none⟩ = some (.int .u64 (s : Int)) ∧ W1.cell? ⟨w.heap.size + 1, 1, none⟩ = some (.int .u64 (c : Int)) ∧ W1.frozen? ⟨w.heap.size + 1, 0, none⟩ = false ∧ W1.frozen? ⟨w.heap.size + 1, 1, none⟩ = false ∧ (RowU W1 b o L ∧ P2 W1 (w.heap.size + 1) s c ∧ P2 W1 w.heap.size 0 0 ∧ Below w.heap.size w W1) := by
  obtain ⟨h1, h2, h3, h4, h5, h6, h7, h8, h9⟩ := h
  have hx : b < W.heap.size := lt_of_cell h1
  have hy := h7.lt
  have hz := h8.lt
  have p7 := h7.below hb hy
  refine ⟨by rw [hb.cell (p := ⟨b, o + i, none⟩) hx, h1], p7.c0, p7.c1, p7.fr 0, p7.fr 1, h6.below hb (fun _ => hx), p7, h8.below hb hz, h9.trans (hb.mono h9.size)⟩
set_option maxHeartbeats 2000000 in
theorem refof_any (ao : Option Addr) (b o cap : Nat) (L : List Nat) (hao : L ≠ [] → ao = some ⟨b, o, none⟩) (hL : Small L) (w : World) (hlen : L.length < 9223372036854775807) (hR : RowU w b o L) :
    Calls Try.prog 17 #[.slice ao L.length cap] w fun e w' => e = .returned (.agg #[.int .u64 ((ofW L).1 : Nat), .int .u64 ((ofW L).2 : Nat)]) ∧ Below w.heap.size w w' := by
  go_enter Try.func17, Try.ntmps17
  go_wp2_with fail
  go_loopw [4] (fun a wr => ∃ i : Nat, i ≤ L.length ∧ a = .int .i64 (i : Int) ∧ RowU wr b o L ∧ P2 wr (w.heap.size + 1) (ofW (L.take i)).1 (ofW (L.take i)).2 ∧ P2 wr w.heap.size 0 0 ∧ Below w.heap.size w wr) (fun a _ => (L.length - (intOf a).toNat))
  case atStart =>
    exact ⟨0, by omega, rfl, hR.below (bel2 w _ _) (fun h => hR.lt h), new2 w _ _, new1 w _ _, bel2 w _ _⟩
  case round =>
    obtain ⟨i, hi, rfl, hr, hp, h0, hb⟩ := hrel
    by_cases hlt : i < L.length
    · obtain rfl := hao (by intro k; rw [k] at hlt; simp at hlt)
      have hx : L[i] < 18446744073709551616 := hL _ (List.getElem_mem hlt)
      have hp1 : (ofW (L.take i)).1 < 18446744073709551616 := (ofW_lt L i).1
      have hp2 : (ofW (L.take i)).2 < 18446744073709551616 := (ofW_lt L i).2
      have HP : Hid _ := refput_any _ _ _ hp1 hp2 hx
      have hc := hr i hlt
      have HN : Hid ((ofW (L.take (i + 1))).1 = fa (ofW (L.take i)).1 L[i] ∧ (ofW (L.take (i + 1))).2 = fa (ofW (L.take i)).2 (fl (ofW (L.take i)).1 L[i])) := by unfold Hid; rw [ofW_take L i hlt]; exact ⟨rfl, rfl⟩
      have q0 := hp.c0
      have q1 := hp.c1
      have f0 := hp.fr 0
      have f1 := hp.fr 1
      have hlt' : (i : Int) < (L.length : Int) := by omega
      generalize (ofW (L.take i)).1 = s at *
      generalize (ofW (L.take i)).2 = c at *
      generalize L[i] = x at *
      go_wp2_with fail
      go_region_with (go_at_call 20; with_reducible refine (HP.out _).mono ?_; rintro e w1 ⟨rfl, hb1⟩; obtain ⟨k1, k2, k3, k4, k5, k6, k7, k8, k9⟩ := keepOf hb1 hlt (keepOf (Below.drew (Below.refl _ _)) hlt ⟨hc, q0, q1, f0, f1, hr, hp, h0, hb⟩))
      all_goals
        go_wp2
        go_round
        case rel =>
          have hB := (k9.setCell (p := ⟨w.heap.size + 1, 0, none⟩) (by show w.heap.size ≤ w.heap.size + 1; omega) (.int .u64 (fa s x : Nat))).setCell (p := ⟨w.heap.size + 1, 1, none⟩) (by show w.heap.size ≤ w.heap.size + 1; omega) (.int .u64 (fa c (fl s x) : Nat))
          refine ⟨i + 1, by omega, by go_num, hR.below hB (fun h => hR.lt h), ?_, (k8.other (by show w.heap.size ≠ w.heap.size + 1; omega) _).other (by show w.heap.size ≠ w.heap.size + 1; omega) _, hB⟩
          rw [HN.out.1, HN.out.2]
          exact k7.put _ _
        case measure => simp [intOf]; omega
    · obtain rfl : i = L.length := by omega
      have q0 := hp.c0
      have q1 := hp.c1
      have f0 := h0.fr 0
      have f1 := h0.fr 1
      have r0 := h0.c0
      have r1 := h0.c1
      rw [List.take_length] at *
      have hlt' : ¬ (L.length : Int) < (L.length : Int) := by omega
      go_wp2
      have z0 : (wr.setCell ⟨w.heap.size, 0, none⟩ (.int .u64 ((ofW L).1 : Nat))).cell? ⟨w.heap.size, 0, none⟩ = some (.int .u64 ((ofW L).1 : Nat)) := World.cell?_setCell_same wr _ _ r0
      have z1 := (h0.put (ofW L).1 (ofW L).2).c1
      simp [bodyPost, results, Try.results17, go_sem, z0, z1]
      exact (hb.setCell (p := ⟨w.heap.size, 0, none⟩) (Nat.le_refl _) _).setCell (p := ⟨w.heap.size, 1, none⟩) (Nat.le_refl _) _
end Go.Proofs.Ytfilaeameofiaaa
