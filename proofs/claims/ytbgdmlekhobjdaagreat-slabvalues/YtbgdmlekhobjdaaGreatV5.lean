/- copy over counts (two cells each). Own work of the verifier. -/
import Derived.Test.YtbgdmlekhobjdaaGreatV2
import Derived.Laws.CopyOwn
namespace Go.Proofs.YtbgdmlekhobjdaaGreat
open Go.RowKit

theorem run_copy2 (w : World) (ty : TypeId) (g dLen dCap : Nat) (a : Addr) (sLen sCap : Nat) (cur : Array Value) (t : TypeId) (cs : List Value)
    (hg : w.heap[g]? = some (.cells cur t (0, 0))) (hn : cs.length = Nat.min sLen dLen * 2)
    (hsrc : ∀ j v, cs[j]? = some v → w.cell? (a.add j) = some v) (hfit : cs.length ≤ cur.size) (h1 : ∀ v ∈ cs, v.oneCell' = true) :
    (Builtin.copy_ #[25, 25] ty #[.slice (some ⟨g, 0, none⟩) dLen dCap, .slice (some a) sLen sCap]).run Tryz.prog w =
      .ok (goInt (Nat.min sLen dLen)) (w.setRow g (cs ++ cur.toList.drop cs.length).toArray) := by
  obtain ⟨i, hi, hz0, hz1, hz2⟩ := info_parts infoC
  have hl := run_loadCells_list (P := Tryz.prog) w a cs hsrc
  have hst := run_storeCells_at Tryz.prog g 0 t cs 0 cur w hg (by simpa using hfit) h1
  simp only [Nat.zero_add, List.take_zero, List.nil_append] at hst
  rw [hn] at hl
  simp [Builtin.copy_, run_underlying Tryz.underlying25, Builtin.lenOf, Builtin.firstCells, sizeOf, typeInfo, hi, hz1, hl, hst]
theorem run_copy2_nil (w : World) (ty : TypeId) (a : Addr) (dLen dCap : Nat) :
    (Builtin.copy_ #[25, 25] ty #[.slice (some a) dLen dCap, .slice none 0 0]).run Tryz.prog w = .ok (goInt 0) w := by
  obtain ⟨i, hi, hz0, hz1, hz2⟩ := info_parts infoC
  simp [Builtin.copy_, run_underlying Tryz.underlying25, Builtin.lenOf, Builtin.firstCells, sizeOf, typeInfo, hi, storeCells]
/-- A list of counts is copied into the head of a row. -/
theorem copy_counts {w : World} (ty : TypeId) (g dLen dCap : Nat) (v : Value) (L : List Cn) (hv : SN w v L) (hle : L.length ≤ dLen) (cur : Array Value) (t : TypeId) (hg : w.heap[g]? = some (.cells cur t (0, 0))) (hc : L.length * 2 ≤ cur.size) :
    ∃ w', (Builtin.copy_ #[25, 25] ty #[.slice (some ⟨g, 0, none⟩) dLen dCap, v]).run Tryz.prog w = .ok (.int .i64 (L.length : Int)) w' ∧ Put g (fl L ++ cur.toList.drop (L.length * 2)).toArray t w w' := by
  rcases hv with ⟨rfl, rfl⟩ | ⟨b, off, cap, rfl, hcap, hr⟩
  · refine ⟨w, run_copy2_nil w ty ⟨g, 0, none⟩ dLen dCap, ?_⟩
    have e : (fl [] ++ cur.toList.drop (([] : List Cn).length * 2)).toArray = cur := by simp [fl]
    rw [e]
    exact ⟨rfl, rfl, rfl, rfl, hg, fun _ _ => rfl⟩
  · have hm : Nat.min L.length dLen = L.length := Nat.min_eq_left hle
    have hrun := run_copy2 w ty g dLen dCap ⟨b, off, none⟩ L.length cap cur t (fl L) hg (by rw [fl_length, hm]) hr.cells (by rw [fl_length]; exact hc) (fl_one L)
    rw [hm, fl_length] at hrun
    exact ⟨_, hrun, put_row hg _⟩
/-- Counts with four cells behind them. -/
def Tl (w : World) (g : Nat) (L : List Cn) (r0 r1 r2 r3 : Value) : Prop := w.heap[g]? = some (.cells (fl L ++ [r0, r1, r2, r3]).toArray 45 (0, 0))
theorem Tl.facts {w : World} {g : Nat} {L : List Cn} {r0 r1 r2 r3 : Value} (h : Hid (Tl w g L r0 r1 r2 r3)) : w.cell? ⟨g, L.length * 2, none⟩ = some r0 ∧ w.cell? ⟨g, L.length * 2 + 1, none⟩ = some r1 ∧ w.cell? ⟨g, (L.length + 1) * 2, none⟩ = some r2 ∧ w.cell? ⟨g, (L.length + 1) * 2 + 1, none⟩ = some r3 ∧ ∀ j, w.frozen? ⟨g, j, none⟩ = false := by
  have h' : w.heap[g]? = some (.cells (fl L ++ [r0, r1, r2, r3]).toArray 45 (0, 0)) := h
  have hl := fl_length L
  have hat : ∀ j (hj : j < 4), w.cell? ⟨g, L.length * 2 + j, none⟩ = [r0, r1, r2, r3][j]? := fun j hj => by
    simp only [World.cell?, h']
    simp only [Option.isSome_none, Bool.false_eq_true, if_false]
    rw [List.getElem?_toArray, List.getElem?_append_right (by omega), hl, Nat.add_sub_cancel_left]
  refine ⟨hat 0 (by decide), hat 1 (by decide), ?_, ?_, fun j => by simp [World.frozen?, h']⟩
  · have := hat 2 (by decide); rw [show (L.length + 1) * 2 = L.length * 2 + 2 by omega]; exact this
  · have := hat 3 (by decide); rw [show (L.length + 1) * 2 + 1 = L.length * 2 + 3 by omega]; exact this
theorem set_tail (l : List Value) (n j : Nat) (hl : l.length = n) (t : List Value) (u : Value) : ((l ++ t).toArray.setIfInBounds (n + j) u) = (l ++ t.set j u).toArray := by
  subst hl
  simp [List.set_append_right]
theorem Tl.set0 {w : World} {g : Nat} {L : List Cn} {r0 r1 r2 r3 : Value} (h : Tl w g L r0 r1 r2 r3) (u v : Value) : Tl ((w.setCell ⟨g, L.length * 2, none⟩ u).setCell ⟨g, L.length * 2 + 1, none⟩ v) g L u v r2 r3 := by
  have hl := fl_length L
  unfold Tl at *
  have e0 := set_tail (fl L) _ 0 hl [r0, r1, r2, r3] u
  rw [Nat.add_zero] at e0
  rw [heap_setCell_same _ g _ _ _ v (heap_setCell_same w g _ _ _ u h), e0, set_tail _ _ 1 hl]
  rfl
theorem Tl.set1 {w : World} {g : Nat} {L : List Cn} {r0 r1 r2 r3 : Value} (h : Tl w g L r0 r1 r2 r3) (u v : Value) : Tl ((w.setCell ⟨g, (L.length + 1) * 2, none⟩ u).setCell ⟨g, (L.length + 1) * 2 + 1, none⟩ v) g L r0 r1 u v := by
  have hl := fl_length L
  unfold Tl at *
  rw [show (L.length + 1) * 2 + 1 = L.length * 2 + 3 by omega, show (L.length + 1) * 2 = L.length * 2 + 2 by omega, heap_setCell_same _ g _ _ _ v (heap_setCell_same w g _ _ _ u h), set_tail _ _ 2 hl, set_tail _ _ 3 hl]
  rfl
theorem Tl.row {w : World} {g : Nat} {L : List Cn} (h : Tl w g L (.int .i64 91) (.int .u64 0) (.int .i64 92) (.int .u64 0)) : w.heap[g]? = some (.cells (fl (L ++ [(91, 0), (92, 0)])).toArray 45 (0, 0)) := by
  unfold Tl at h
  rw [h, fl_append]
  rfl
theorem make_counts (n : Nat) (hn : n ≤ 16777216) (w : World) : (Instr.makeSlice 25 (.int .i64 (n : Int)) (.int .i64 (n : Int))).run Tryz.prog w = .ok (.slice (some ⟨w.heap.size, 0, none⟩) n n) (w.alloc (.cells (madeCells #[.int .i64 0, .int .u64 0] (n * 2)) 45)) := by
  obtain ⟨i, hi, hz, hs, hb⟩ := info_parts infoC
  have hr := run_make (P := Tryz.prog) w 25 45 i (.agg #[.int .i64 0, .int .u64 0]) Tryz.underlying25 hi hz .i64 .i64 (n : Int) (n : Int) (by omega) (Int.le_refl _) (by rw [hb]; omega) (by omega)
  rw [hr, hs, Int.toNat_natCast]
  rfl
theorem tl_of {w : World} {g : Nat} {L : List Cn} {cs : Array Value} (hs : cs.size = (L.length + 2) * 2) (h : w.heap[g]? = some (.cells (fl L ++ cs.toList.drop (L.length * 2)).toArray 45 (0, 0))) : ∃ r0 r1 r2 r3, Tl w g L r0 r1 r2 r3 := by
  have hl : (cs.toList.drop (L.length * 2)).length = 4 := by rw [List.length_drop, Array.length_toList, hs]; omega
  match hd : cs.toList.drop (L.length * 2), hl with
  | [r0, r1, r2, r3], _ => exact ⟨r0, r1, r2, r3, by unfold Tl; rw [hd] at h; exact h⟩
end Go.Proofs.YtbgdmlekhobjdaaGreat
