/- THE LAW's fixed ANSWERS. Own work of the verifier. -/
import Derived.Test.YtdlaloakochfeaaQ6
namespace Go.Proofs.Ytdlaloakochfeaa
open Go.RowKit Soft

theorem bdrew {B : Nat} {a w : World} (h : Below B a w) (n : Nat) : Below B a (w.drewN n) := ⟨h.os, h.tape, h.output, h.size, h.block⟩
theorem one_eq {r v : Nat} (h : one r = v) (hv : isn v = false) : r = v := by
  cases k : isn r
  · rw [one_of_not k] at h; exact h
  · rw [one_of_nan k] at h; rw [← h] at hv; exact absurd hv (by decide)
theorem small_of {L : List Nat} (h : L.all (fun x => decide (x < 18446744073709551616)) = true) : Small L := fun x hx => by simpa using List.all_eq_true.1 h x hx
theorem rowF_new (w : World) (b : Nat) (L : List Nat) (t : TypeId) (hb : b = w.heap.size) : RowF (w.alloc (.cells (L.map (Value.float .f64)).toArray t)) b 0 L := by
  subst hb
  intro i hi
  have h : (w.alloc (.cells (L.map (Value.float .f64)).toArray t)).heap[w.heap.size]? = some (.cells (L.map (Value.float .f64)).toArray t) := by
    show (w.heap.push _)[w.heap.size]? = _
    simp
  unfold World.cell?
  rw [h]
  simp [hi]
/-- Of, of floats that a row holds which the call has made, where no NaN comes of them. -/
theorem pof_at (b : Nat) (L : List Nat) (cap x y : Nat) (hs : L.all (fun x => decide (x < 18446744073709551616)) = true) (hl : L.length < 9223372036854775807) (hv : ofW L = (x, y)) (hx : isn x = false) (hy : isn y = false) (w : World) (hR : RowF w b 0 L) :
    Calls Try.prog 8 #[.slice (some ⟨b, 0, none⟩) L.length cap] w fun e w' => e = .returned (.complex .f64 x y) ∧ ∃ n, w' = w.drewN n := by
  refine (pof_any (some ⟨b, 0, none⟩) b 0 cap L (fun _ => rfl) (small_of hs) hl w hR).mono ?_
  rintro e w' ⟨r, d, n, rfl, rfl, _, _, e1, e2⟩
  rw [hv] at e1 e2
  rw [one_eq e1 hx, one_eq e2 hy]
  exact ⟨rfl, n, rfl⟩
theorem ptotal_at (a c x : Nat) (ha : a < 18446744073709551616) (hc : c < 18446744073709551616) (hv : fa a c = x) (hx : isn x = false) (w : World) :
    Calls Try.prog 14 #[.complex .f64 a c] w fun e w' => e = .returned (.float .f64 x) ∧ ∃ n, w' = w.drewN n := by
  refine (ptotal_any a c ha hc w).mono ?_
  rintro e w' ⟨r, n, rfl, rfl, _, e1⟩
  rw [hv] at e1
  rw [one_eq e1 hx]
  exact ⟨rfl, n, rfl⟩
theorem pmerge_at (a c u v x y : Nat) (ha : a < 18446744073709551616) (hc : c < 18446744073709551616) (hu : u < 18446744073709551616) (hv : v < 18446744073709551616) (h1 : mergeW (a, c) (u, v) = (x, y)) (hx : isn x = false) (hy : isn y = false) (w : World) :
    Calls Try.prog 7 #[.complex .f64 a c, .complex .f64 u v] w fun e w' => e = .returned (.complex .f64 x y) ∧ ∃ n, w' = w.drewN n := by
  refine (pmerge_any a c u v ha hc hu hv w).mono ?_
  rintro e w' ⟨r, d, n, rfl, rfl, _, _, e1, e2⟩
  obtain ⟨k1, k2⟩ := Prod.mk.inj h1
  rw [one_eq (e1.trans k1) hx, one_eq (e2.trans k2) hy]
  exact ⟨rfl, n, rfl⟩
theorem of_three : ofW [4607182418800017408, 4336966441157787648, 13830554455654793216] = (0, 4336966441157787648) := by decide +kernel
theorem of_one : ofW [4607182418800017408] = (4607182418800017408, 0) := by decide +kernel
theorem of_two : ofW [4611686018427387904] = (4611686018427387904, 0) := by decide +kernel
theorem tot_one : fa 0 4336966441157787648 = 4336966441157787648 := by decide +kernel
theorem mer_one : mergeW (4607182418800017408, 0) (4611686018427387904, 0) = (4613937818241073152, 0) := by decide +kernel
theorem tot_two : fa 4613937818241073152 0 = 4613937818241073152 := by decide +kernel
theorem of3_any (b : Nat) (W : World) (hb : b = W.heap.size) : Calls Try.prog 8 #[.slice (some ⟨b, 0, none⟩) 3 3] (W.alloc (.cells #[.float .f64 4607182418800017408, .float .f64 4336966441157787648, .float .f64 13830554455654793216] 42)) fun e w' => e = .returned (.complex .f64 0 4336966441157787648) ∧ ∃ n, w' = (W.alloc (.cells #[.float .f64 4607182418800017408, .float .f64 4336966441157787648, .float .f64 13830554455654793216] 42)).drewN n :=
  pof_at b [4607182418800017408, 4336966441157787648, 13830554455654793216] 3 _ _ (by decide) (by decide) of_three (by decide) (by decide) _ (rowF_new W b _ _ hb)
theorem of1_any (b : Nat) (W : World) (hb : b = W.heap.size) : Calls Try.prog 8 #[.slice (some ⟨b, 0, none⟩) 1 1] (W.alloc (.cells #[.float .f64 4607182418800017408] 42)) fun e w' => e = .returned (.complex .f64 4607182418800017408 0) ∧ ∃ n, w' = (W.alloc (.cells #[.float .f64 4607182418800017408] 42)).drewN n :=
  pof_at b [4607182418800017408] 1 _ _ (by decide) (by decide) of_one (by decide) (by decide) _ (rowF_new W b _ _ hb)
theorem of2_any (b : Nat) (W : World) (hb : b = W.heap.size) : Calls Try.prog 8 #[.slice (some ⟨b, 0, none⟩) 1 1] (W.alloc (.cells #[.float .f64 4611686018427387904] 42)) fun e w' => e = .returned (.complex .f64 4611686018427387904 0) ∧ ∃ n, w' = (W.alloc (.cells #[.float .f64 4611686018427387904] 42)).drewN n :=
  pof_at b [4611686018427387904] 1 _ _ (by decide) (by decide) of_two (by decide) (by decide) _ (rowF_new W b _ _ hb)
set_option maxHeartbeats 1000000 in
theorem fixed_any (w : World) : Calls Try.prog 6 #[] w fun e w' => e = .returned (.bool true) ∧ Below w.heap.size w w' := by
  have HT1 : Hid _ := fun W => ptotal_at 0 4336966441157787648 _ (by decide) (by decide) tot_one (by decide) W
  have HT2 : Hid _ := fun W => ptotal_at 4613937818241073152 0 _ (by decide) (by decide) tot_two (by decide) W
  have HM : Hid _ := fun W => pmerge_at 4607182418800017408 0 4611686018427387904 0 _ _ (by decide) (by decide) (by decide) (by decide) mer_one (by decide) (by decide) W
  have o1 : (FloatKind.f64.format.order 0 0 == some .eq) = true := by decide +kernel
  have o2 : (FloatKind.f64.format.order 4336966441157787648 4336966441157787648 == some .eq) = true := by decide +kernel
  have o3 : (FloatKind.f64.format.order 4613937818241073152 4613937818241073152 == some .eq) = true := by decide +kernel
  go_enter Try.func6, Try.ntmps6
  go_wp2_with (first
    | (go_at_call 8; (first
        | with_reducible refine (of3_any _ _ ?_).mono ?_
        | with_reducible refine (of1_any _ _ ?_).mono ?_
        | with_reducible refine (of2_any _ _ ?_).mono ?_); (first | rfl | simp); rintro e w' ⟨rfl, n, rfl⟩)
    | (go_at_call 14; (first | (with_reducible refine (HT1.out _).mono ?_) | (with_reducible refine (HT2.out _).mono ?_)); rintro e w' ⟨rfl, n, rfl⟩)
    | (go_at_call 7; with_reducible refine (HM.out _).mono ?_; rintro e w' ⟨rfl, n, rfl⟩))
  go_ret
  exact ⟨rfl, bdrew ((bdrew ((bdrew ((Below.refl _ _).alloc (Nat.le_refl _) _) _).alloc (by simp) _) _).alloc (by simp only [World.heap_drewN, World.size_alloc]; omega) _) _⟩
end Go.Proofs.Ytdlaloakochfeaa
