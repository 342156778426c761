/- Merge, the code's: its parts. Own work of the verifier. -/
import Derived.Test.YthhoklgfgandpaaE7
import Derived.Test.YthhoklgfgandpaaShelf
import Derived.Test.YthhoklgfgandpaaShelf2
import Derived.Lib.AppendZerosOnto
import Derived.Lib.SliceRun
namespace Go.Proofs.Ythhoklgfgandpaa
open Go.RowKit Go.Shelf Go.Lib Go.Sort

theorem new_1 (w : World) (o : Obj) : (w.alloc o).heap[w.heap.size]? = some o := by
  show (w.heap.push _)[w.heap.size]? = _
  simp
theorem bt' {B : Nat} {w A C : World} (h : Below B w A) (k : Below B A C) : Below B w C := h.trans k
/-- How long the run at a list's beginning is. -/
structure RunIs (L : List Cn) (k : Nat) : Prop where
  pos : 1 ≤ k
  le : k ≤ L.length
  same : ∀ t (h : t < L.length), t < k → L[t].1 = (L.getD 0 (0, 0)).1
  stop : ∀ h : k < L.length, L[k].1 ≠ (L.getD 0 (0, 0)).1
set_option maxRecDepth 10000 in
set_option maxHeartbeats 2000000 in
theorem run_any (b o cap : Nat) (L : List Cn) (hne : L ≠ []) (hl : L.length ≤ 4194304) (w : World) (hR : RowC w b o L) :
    Calls Try.prog 38 #[.slice (some ⟨b, o, none⟩) L.length cap] w fun e w' => ∃ k : Nat, e = .returned (.int .i64 (k : Int)) ∧ RunIs L k ∧ Below w.heap.size w w' := by
  have h0 : 0 < L.length := List.length_pos_iff.2 hne
  have h0' : (0 : Int) < (L.length : Int) := by omega
  have HR : Hid (RowC w b o L) := hR
  have hg0 : L.getD 0 (0, 0) = L[0] := by simp [List.getD, h0]
  have HX : Hid (∀ t (h : t < L.length), L[t].1 = (L.getD 0 (0, 0)).1 ↔ L[t].1 = (L.getD 0 (0, 0)).1) := fun t h => Iff.rfl
  have HC0 : Hid (∀ W, Below w.heap.size w W → W.cell? ⟨b, o, none⟩ = some (.int .i64 (L.getD 0 (0, 0)).1)) := fun W hb => by
    have := ((HR.out.below hb (fun k => HR.out.lt k)) 0 h0).1
    rw [hg0]; simpa using this
  have HIs : Hid (∀ k, 1 ≤ k → k ≤ L.length → (∀ t (h : t < L.length), t < k → L[t].1 = (L.getD 0 (0, 0)).1) → (∀ h : k < L.length, L[k].1 ≠ (L.getD 0 (0, 0)).1) → RunIs L k) := fun k a b c d => ⟨a, b, c, d⟩
  have H00 : Hid (L[0].1 = (L.getD 0 (0, 0)).1) := by unfold Hid; rw [hg0]
  clear hR hne hg0 HX
  generalize (L.getD 0 (0, 0)).1 = x0 at *
  go_enter Try.func38, Try.ntmps38
  go_wp2_with fail
  go_loopw [7] (fun a wr => ∃ k : Nat, k ≤ L.length ∧ a = .int .i64 (k : Int) ∧ Hid (Below w.heap.size w wr) ∧ Hid (∀ t (h : t < L.length), t < k → L[t].1 = x0)) (fun a _ => L.length - (intOf a).toNat)
  case atStart => exact ⟨0, by omega, rfl, Below.refl _ _, fun t h ht => by omega⟩
  case round =>
    obtain ⟨k, hk, rfl, hB, hS⟩ := hrel
    by_cases hlt : k < L.length
    · have hlt' : (k : Int) < (L.length : Int) := by omega
      obtain ⟨q1, q2⟩ := (HR.out.below hB.out (fun k => HR.out.lt k)) k hlt
      have hbA : Below w.heap.size w (wr.alloc (.cells #[.int .i64 L[k].1, .int .u64 (L[k].2 : Int)] 49)) := hB.out.alloc hB.out.size _
      have q0 := HC0.out _ hbA
      have hnew : (wr.alloc (.cells #[.int .i64 L[k].1, .int .u64 (L[k].2 : Int)] 49)).heap[wr.heap.size]? = some (.cells #[.int .i64 L[k].1, .int .u64 (L[k].2 : Int)] 49 (0, 0)) := new_1 wr _
      have HBA : Hid _ := hbA
      have HIk : Hid (L[k].1 = x0 → ∀ t (h : t < L.length), t < k + 1 → L[t].1 = x0) := fun e t h ht => by
        by_cases e2 : t = k
        · subst e2; exact e
        · exact hS.out t h (by omega)
      have HRt : Hid (L[k].1 ≠ x0 → RunIs L k) := fun e => HIs.out k (by
        rcases Nat.eq_zero_or_pos k with e0 | e0
        · subst e0; exact absurd H00.out e
        · exact e0) hk hS.out (fun _ => e)
      generalize L[k].1 = x at *
      generalize (L[k].2 : Int) = y at *
      clear hbA
      go_upto_region 4 with fail
      generalize hWA : wr.alloc (.cells #[.int .i64 x, .int .u64 y] 49) = WA at *
      have c0 : WA.cell? ⟨wr.heap.size, 0, none⟩ = some (.int .i64 x) := by simp [World.cell?, hnew]
      have HWA : Hid _ := HBA
      clear hWA hnew
      by_cases hxx : x = x0
      · have hbx : (x != x0) = false := by rw [bne_eq_false_iff_eq]; exact hxx
        have HIk2 : Hid _ := HIk.out hxx
        subst hxx
        go_region_with fail
        all_goals
          go_wp2_with fail
          exact ⟨⟨k + 1, by omega, by go_num, HBA.out.drew, HIk2⟩, by simp [intOf]; omega⟩
      · have hbx : (x != x0) = true := by rw [bne_iff_ne]; exact hxx
        have HRt2 : Hid _ := HRt.out hxx
        clear hxx
        go_region_with fail
        all_goals
          go_wp2_with fail
          go_ret
          exact ⟨k, rfl, HRt2.out, HBA.out.drew⟩
    · obtain rfl : k = L.length := by omega
      have hlt' : ¬ (L.length : Int) < (L.length : Int) := by omega
      go_wp2_with fail
      go_ret
      exact ⟨L.length, rfl, HIs.out _ (by omega) (Nat.le_refl _) hS.out (fun h => absurd h (Nat.lt_irrefl _)), hB.out⟩
set_option maxRecDepth 10000 in
set_option maxHeartbeats 2000000 in
/-- slices.Grow of a slice that is none. -/
theorem grow_nil (n : Nat) (hn : n ≤ 2097152) (w : World) : Calls Try.prog 53 #[.slice none 0 0, .int .i64 (n : Int)] w fun e w' => ∃ v, e = .returned v ∧ GC w.heap.size w v [] w' := by
  obtain ⟨i0, hi, hz0, hz1, hz2⟩ := info_parts infoC
  by_cases h0 : n = 0
  · subst h0
    go_enter Try.func53, Try.ntmps53
    go_wp2_with fail
    go_ret
    exact ⟨_, rfl, own_nil _ _, Below.refl _ _, Nat.le_refl _⟩
  · have h1 : ¬ (n : Int) < 0 := by omega
    have h2 : (0 : Int) < (n : Int) := by omega
    have hrz : ∀ ty, (Builtin.append_ #[23, 3] ty #[.slice none 0 0, .int .i64 (n : Int)]).run Try.prog w =
        .ok (.slice (some ⟨w.heap.size, 0, none⟩) (0 + n) (grownCap w (0 + n) 0 49)) (w.drew.alloc (.cells (([] : List Value).toArray ++ Builtin.zeroCells (Value.agg #[.int .i64 0, .int .u64 0]).cells n ++ Builtin.zeroCells (Value.agg #[.int .i64 0, .int .u64 0]).cells (grownCap w (0 + n) 0 49 - (0 + n))) 49)) := fun ty =>
      Lib.run_append_grow_zeros w 23 3 ty 49 i0 (.agg #[.int .i64 0, .int .u64 0]) .i64 .i64 Try.underlying23 Try.underlying3 hi hz0 none 0 0 [] (run_firstCells_none w.drew i0.size 0 0 0) n (by omega) (by omega) (by omega) (by omega) (by rw [hz2]; omega) (growslice_fits (by omega) (by rw [hz2]; omega))
    simp only [Nat.zero_add] at hrz
    have hGn : n ≤ grownCap w n 0 49 := grownCap_ge w _ _ _
    have hGm : grownCap w n 0 49 ≤ maxLen := grownCap_le_maxLen w n 0 49 (by unfold maxLen; omega)
    generalize grownCap w n 0 49 = G at *
    have hG63 : G ≤ 9223372036854775807 := by unfold maxLen at hGm; omega
    obtain ⟨cur, hcur⟩ : ∃ cur, ([] : List Value).toArray ++ Builtin.zeroCells (Value.agg #[.int .i64 0, .int .u64 0]).cells n ++ Builtin.zeroCells (Value.agg #[.int .i64 0, .int .u64 0]).cells (G - n) = cur := ⟨_, rfl⟩
    have hsz : cur.size = G * 2 := by
      rw [← hcur]
      simp [size_zeroCells, Value.cells]
      omega
    rw [hcur] at hrz
    clear hcur
    have hfin : GC w.heap.size w (.slice (some ⟨w.heap.size, 0, none⟩) 0 G) [] (w.drew.alloc (.cells cur 49)) :=
      ⟨⟨rfl, Or.inr ⟨w.heap.size, G, cur, rfl, Nat.le_refl _, new_1 w.drew _, Nat.zero_le _, hGm, hsz, rfl⟩⟩, ((Below.refl _ _).drew).alloc (Nat.le_refl _) _, by simp⟩
    have HF : Hid _ := hfin
    clear hfin hsz
    go_enter Try.func53, Try.ntmps53
    go_wp2_with (at_builtin; refine Lib.wpList_append_run _ rfl _ _ _ _ rfl _ _ rfl rfl _ _ (hrz _) ?_)
    all_goals
      go_ret
      exact ⟨_, rfl, HF.out⟩
end Go.Proofs.Ythhoklgfgandpaa
