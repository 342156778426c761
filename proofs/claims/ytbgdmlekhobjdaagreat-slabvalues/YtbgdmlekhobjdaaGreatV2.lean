/- PARTS: part; the document's Merge. Own work of the verifier. -/
import Derived.Test.YtbgdmlekhobjdaaGreatV1
namespace Go.Proofs.YtbgdmlekhobjdaaGreat
open Go.RowKit

theorem eight_cells {W : World} {b : Nat} {u0 u1 u2 u3 u4 u5 u6 u7 : Value} {t : TypeId} (h : Hid (W.heap[b]? = some (.cells #[u0, u1, u2, u3, u4, u5, u6, u7] t (0, 0)))) : W.cell? ⟨b, 0, none⟩ = some u0 ∧ W.cell? ⟨b, 1, none⟩ = some u1 ∧ W.cell? ⟨b, 2, none⟩ = some u2 ∧ W.cell? ⟨b, 3, none⟩ = some u3 ∧ W.cell? ⟨b, 4, none⟩ = some u4 ∧ W.cell? ⟨b, 5, none⟩ = some u5 ∧ W.cell? ⟨b, 6, none⟩ = some u6 ∧ W.cell? ⟨b, 7, none⟩ = some u7 := by
  unfold Hid at h; simp [World.cell?, h]
theorem eight_fr {W : World} {b : Nat} {u0 u1 u2 u3 u4 u5 u6 u7 : Value} {t : TypeId} (h : Hid (W.heap[b]? = some (.cells #[u0, u1, u2, u3, u4, u5, u6, u7] t (0, 0)))) : W.frozen? ⟨b, 0, none⟩ = false ∧ W.frozen? ⟨b, 1, none⟩ = false ∧ W.frozen? ⟨b, 2, none⟩ = false ∧ W.frozen? ⟨b, 3, none⟩ = false ∧ W.frozen? ⟨b, 4, none⟩ = false ∧ W.frozen? ⟨b, 5, none⟩ = false ∧ W.frozen? ⟨b, 6, none⟩ = false ∧ W.frozen? ⟨b, 7, none⟩ = false :=
  ⟨hid_fr h 0, hid_fr h 1, hid_fr h 2, hid_fr h 3, hid_fr h 4, hid_fr h 5, hid_fr h 6, hid_fr h 7⟩
def put8 (W : World) (b : Nat) (v0 v1 v2 v3 v4 v5 v6 v7 : Value) : World := (((((((W.setCell ⟨b, 0, none⟩ v0).setCell ⟨b, 1, none⟩ v1).setCell ⟨b, 2, none⟩ v2).setCell ⟨b, 3, none⟩ v3).setCell ⟨b, 4, none⟩ v4).setCell ⟨b, 5, none⟩ v5).setCell ⟨b, 6, none⟩ v6).setCell ⟨b, 7, none⟩ v7
theorem put8_eq (W : World) (b : Nat) (v0 v1 v2 v3 v4 v5 v6 v7 : Value) : (((((((W.setCell ⟨b, 0, none⟩ v0).setCell ⟨b, 1, none⟩ v1).setCell ⟨b, 2, none⟩ v2).setCell ⟨b, 3, none⟩ v3).setCell ⟨b, 4, none⟩ v4).setCell ⟨b, 5, none⟩ v5).setCell ⟨b, 6, none⟩ v6).setCell ⟨b, 7, none⟩ v7 = put8 W b v0 v1 v2 v3 v4 v5 v6 v7 := rfl
set_option maxHeartbeats 8000000 in
theorem set_eight {W : World} {b : Nat} {u0 u1 u2 u3 u4 u5 u6 u7 v0 v1 v2 v3 v4 v5 v6 v7 : Value} {t : TypeId} (h : W.heap[b]? = some (.cells #[u0, u1, u2, u3, u4, u5, u6, u7] t (0, 0))) : (put8 W b v0 v1 v2 v3 v4 v5 v6 v7).heap[b]? = some (.cells #[v0, v1, v2, v3, v4, v5, v6, v7] t (0, 0)) := by
  unfold put8
  rw [heap_setCell_same _ b 7 _ _ _ (heap_setCell_same _ b 6 _ _ _ (heap_setCell_same _ b 5 _ _ _ (heap_setCell_same _ b 4 _ _ _ (heap_setCell_same _ b 3 _ _ _ (heap_setCell_same _ b 2 _ _ _ (heap_setCell_same _ b 1 _ _ _ (heap_setCell_same _ b 0 _ _ _ (h))))))))]; rfl
set_option maxHeartbeats 4000000 in
theorem mid_put8 (W : World) (k : Nat) (v0 v1 v2 v3 v4 v5 v6 v7 : Value) : Mid k (k + 1) W (put8 W k v0 v1 v2 v3 v4 v5 v6 v7) := by
  have hk : (k ≤ k ∧ k < k + 1) ∨ W.heap.size ≤ k := Or.inl ⟨Nat.le_refl _, Nat.lt_succ_self _⟩
  unfold put8
  exact (((((((((Mid.refl k (k + 1) W)).setCell (p := ⟨k, 0, none⟩) hk _).setCell (p := ⟨k, 1, none⟩) hk _).setCell (p := ⟨k, 2, none⟩) hk _).setCell (p := ⟨k, 3, none⟩) hk _).setCell (p := ⟨k, 4, none⟩) hk _).setCell (p := ⟨k, 5, none⟩) hk _).setCell (p := ⟨k, 6, none⟩) hk _).setCell (p := ⟨k, 7, none⟩) hk _
theorem put8_size (W : World) (b : Nat) (v0 v1 v2 v3 v4 v5 v6 v7 : Value) : (put8 W b v0 v1 v2 v3 v4 v5 v6 v7).heap.size = W.heap.size := by unfold put8; simp
set_option maxRecDepth 10000 in
set_option maxHeartbeats 4000000 in
theorem part_any (hi lo : Int) (ao : Option Addr) (m cap n s c mn mx : Nat) (w : World) : Calls Tryz.prog 11 #[part hi lo (.slice ao m cap) n s c mn mx] w fun e w' => e = .returned (rpart hi lo (.slice ao m cap) n s c mn mx) ∧ Below w.heap.size w w' := by
  have HB : Hid (∀ x W, _) := bits_any
  go_enter Tryz.func11, Tryz.ntmps11
  go_wp2_with fail
  go_region_held3 (fun W => W.cell? ⟨w.heap.size, 0, none⟩ = some (.int .i64 hi) ∧ W.cell? ⟨w.heap.size, 1, none⟩ = some (.int .u64 lo) ∧ W.cell? ⟨w.heap.size, 2, none⟩ = some (.slice ao m cap) ∧ W.cell? ⟨w.heap.size, 3, none⟩ = some (.int .u64 (n : Int)) ∧ W.cell? ⟨w.heap.size, 4, none⟩ = some (.complex .f64 s c) ∧ W.cell? ⟨w.heap.size, 5, none⟩ = some (.float .f64 mn) ∧ W.cell? ⟨w.heap.size, 6, none⟩ = some (.float .f64 mx)) (go_keep)
    (first | (go_at_call 35; with_reducible refine Calls.mono (HB.out _ _) ?_; rintro e w1 ⟨rfl, rfl⟩))
  all_goals
    go_wp2_with fail
    simp [bodyPost, results, Tryz.results11, go_sem]
    exact (bel2 _ _ _).drew
end Go.Proofs.YtbgdmlekhobjdaaGreat
