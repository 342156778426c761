/- Merge, the code's: its parts. Own work of the verifier. -/
import Derived.Test.YtgkdggcpplmnaaaGreatZAC
import Derived.Test.YtgkdggcpplmnaaaGreatShelf
import Derived.Test.YtgkdggcpplmnaaaGreatShelf2
import Derived.Lib.AppendZerosOnto
import Derived.Lib.SliceRun
namespace Go.Proofs.YtgkdggcpplmnaaaGreat
open Go.RowKit Go.Shelf Go.Lib Go.Sort

theorem new_1 (w : World) (o : Obj) : (w.alloc o).heap[w.heap.size]? = some o := by
  show (w.heap.push _)[w.heap.size]? = _
  simp
theorem bt' {B : Nat} {w A C : World} (h : Below B w A) (k : Below B A C) : Below B w C := h.trans k
/-- How long the run at a list's beginning is. -/
structure RunIs (L : List Cn) (k : Nat) : Prop where
  pos : 1 ≤ k
  le : k ≤ L.length
  same : ∀ t (h : t < L.length), t < k → L[t].1 = (L.getD 0 (0, 0)).1
  stop : ∀ h : k < L.length, L[k].1 ≠ (L.getD 0 (0, 0)).1
set_option maxRecDepth 10000 in
set_option maxHeartbeats 2000000 in
theorem run_any (b o cap : Nat) (L : List Cn) (hne : L ≠ []) (hl : L.length ≤ 4194304) (w : World) (hR : RowC w b o L) :
    Calls Tryz.prog 104 #[.slice (some ⟨b, o, none⟩) L.length cap] w fun e w' => ∃ k : Nat, e = .returned (.int .i64 (k : Int)) ∧ RunIs L k ∧ Below w.heap.size w w' := by
  have h0 : 0 < L.length := List.length_pos_iff.2 hne
  have h0' : (0 : Int) < (L.length : Int) := by omega
  have HR : Hid (RowC w b o L) := hR
  have hg0 : L.getD 0 (0, 0) = L[0] := by simp [List.getD, h0]
  have HX : Hid (∀ t (h : t < L.length), L[t].1 = (L.getD 0 (0, 0)).1 ↔ L[t].1 = (L.getD 0 (0, 0)).1) := fun t h => Iff.rfl
  have HC0 : Hid (∀ W, Below w.heap.size w W → W.cell? ⟨b, o, none⟩ = some (.int .i64 (L.getD 0 (0, 0)).1)) := fun W hb => by
    have := ((HR.out.below hb (fun k => HR.out.lt k)) 0 h0).1
    rw [hg0]; simpa using this
  have HIs : Hid (∀ k, 1 ≤ k → k ≤ L.length → (∀ t (h : t < L.length), t < k → L[t].1 = (L.getD 0 (0, 0)).1) → (∀ h : k < L.length, L[k].1 ≠ (L.getD 0 (0, 0)).1) → RunIs L k) := fun k a b c d => ⟨a, b, c, d⟩
  have H00 : Hid (L[0].1 = (L.getD 0 (0, 0)).1) := by unfold Hid; rw [hg0]
  clear hR hne hg0 HX
  generalize (L.getD 0 (0, 0)).1 = x0 at *
  go_enter Tryz.func104, Tryz.ntmps104
  go_wp2_with fail
  go_loopw [7] (fun a wr => ∃ k : Nat, k ≤ L.length ∧ a = .int .i64 (k : Int) ∧ Hid (Below w.heap.size w wr) ∧ Hid (∀ t (h : t < L.length), t < k → L[t].1 = x0)) (fun a _ => L.length - (intOf a).toNat)
  case atStart => exact ⟨0, by omega, rfl, Below.refl _ _, fun t h ht => by omega⟩
  case round =>
    obtain ⟨k, hk, rfl, hB, hS⟩ := hrel
    by_cases hlt : k < L.length
    · have hlt' : (k : Int) < (L.length : Int) := by omega
      obtain ⟨q1, q2⟩ := (HR.out.below hB.out (fun k => HR.out.lt k)) k hlt
      have hbA : Below w.heap.size w (wr.alloc (.cells #[.int .i64 L[k].1, .int .u64 (L[k].2 : Int)] 124)) := hB.out.alloc hB.out.size _
      have q0 := HC0.out _ hbA
      have hnew : (wr.alloc (.cells #[.int .i64 L[k].1, .int .u64 (L[k].2 : Int)] 124)).heap[wr.heap.size]? = some (.cells #[.int .i64 L[k].1, .int .u64 (L[k].2 : Int)] 124 (0, 0)) := new_1 wr _
      have HBA : Hid _ := hbA
      have HIk : Hid (L[k].1 = x0 → ∀ t (h : t < L.length), t < k + 1 → L[t].1 = x0) := fun e t h ht => by
        by_cases e2 : t = k
        · subst e2; exact e
        · exact hS.out t h (by omega)
      have HRt : Hid (L[k].1 ≠ x0 → RunIs L k) := fun e => HIs.out k (by
        rcases Nat.eq_zero_or_pos k with e0 | e0
        · subst e0; exact absurd H00.out e
        · exact e0) hk hS.out (fun _ => e)
      generalize L[k].1 = x at *
      generalize (L[k].2 : Int) = y at *
      clear hbA
      go_upto_region 4 with fail
      generalize hWA : wr.alloc (.cells #[.int .i64 x, .int .u64 y] 124) = WA at *
      have c0 : WA.cell? ⟨wr.heap.size, 0, none⟩ = some (.int .i64 x) := by simp [World.cell?, hnew]
      have HWA : Hid _ := HBA
      clear hWA hnew
      by_cases hxx : x = x0
      · have hbx : (x != x0) = false := by rw [bne_eq_false_iff_eq]; exact hxx
        have HIk2 : Hid _ := HIk.out hxx
        subst hxx
        go_region_with fail
        all_goals
          go_wp2_with fail
          exact ⟨⟨k + 1, by omega, by go_num, HBA.out.drew, HIk2⟩, by simp [intOf]; omega⟩
      · have hbx : (x != x0) = true := by rw [bne_iff_ne]; exact hxx
        have HRt2 : Hid _ := HRt.out hxx
        clear hxx
        go_region_with fail
        all_goals
          go_wp2_with fail
          go_ret
          exact ⟨k, rfl, HRt2.out, HBA.out.drew⟩
    · obtain rfl : k = L.length := by omega
      have hlt' : ¬ (L.length : Int) < (L.length : Int) := by omega
      go_wp2_with fail
      go_ret
      exact ⟨L.length, rfl, HIs.out _ (by omega) (Nat.le_refl _) hS.out (fun h => absurd h (Nat.lt_irrefl _)), hB.out⟩
set_option maxRecDepth 10000 in
set_option maxHeartbeats 2000000 in
/-- slices.Grow of a slice that is none. -/
theorem grow_nil (n : Nat) (hn : n ≤ 2097152) (w : World) : Calls Tryz.prog 113 #[.slice none 0 0, .int .i64 (n : Int)] w fun e w' => ∃ v, e = .returned v ∧ GC w.heap.size w v [] w' := by
  obtain ⟨i0, hi, hz0, hz1, hz2⟩ := info_parts infoC
  by_cases h0 : n = 0
  · subst h0
    go_enter Tryz.func113, Tryz.ntmps113
    go_wp2_with fail
    go_ret
    exact ⟨_, rfl, own_nil _ _, Below.refl _ _, Nat.le_refl _⟩
  · have h1 : ¬ (n : Int) < 0 := by omega
    have h2 : (0 : Int) < (n : Int) := by omega
    have hrz : ∀ ty, (Builtin.append_ #[43, 3] ty #[.slice none 0 0, .int .i64 (n : Int)]).run Tryz.prog w =
        .ok (.slice (some ⟨w.heap.size, 0, none⟩) (0 + n) (grownCap w (0 + n) 0 124)) (w.drew.alloc (.cells (([] : List Value).toArray ++ Builtin.zeroCells (Value.agg #[.int .i64 0, .int .u64 0]).cells n ++ Builtin.zeroCells (Value.agg #[.int .i64 0, .int .u64 0]).cells (grownCap w (0 + n) 0 124 - (0 + n))) 124)) := fun ty =>
      Lib.run_append_grow_zeros w 43 3 ty 124 i0 (.agg #[.int .i64 0, .int .u64 0]) .i64 .i64 Tryz.underlying43 Tryz.underlying3 hi hz0 none 0 0 [] (run_firstCells_none w.drew i0.size 0 0 0) n (by omega) (by omega) (by omega) (by omega) (by rw [hz2]; omega) (growslice_fits (by omega) (by rw [hz2]; omega))
    simp only [Nat.zero_add] at hrz
    have hGn : n ≤ grownCap w n 0 124 := grownCap_ge w _ _ _
    have hGm : grownCap w n 0 124 ≤ maxLen := grownCap_le_maxLen w n 0 124 (by unfold maxLen; omega)
    generalize grownCap w n 0 124 = G at *
    have hG63 : G ≤ 9223372036854775807 := by unfold maxLen at hGm; omega
    obtain ⟨cur, hcur⟩ : ∃ cur, ([] : List Value).toArray ++ Builtin.zeroCells (Value.agg #[.int .i64 0, .int .u64 0]).cells n ++ Builtin.zeroCells (Value.agg #[.int .i64 0, .int .u64 0]).cells (G - n) = cur := ⟨_, rfl⟩
    have hsz : cur.size = G * 2 := by
      rw [← hcur]
      simp [size_zeroCells, Value.cells]
      omega
    rw [hcur] at hrz
    clear hcur
    have hfin : GC w.heap.size w (.slice (some ⟨w.heap.size, 0, none⟩) 0 G) [] (w.drew.alloc (.cells cur 124)) :=
      ⟨⟨rfl, Or.inr ⟨w.heap.size, G, cur, rfl, Nat.le_refl _, new_1 w.drew _, Nat.zero_le _, hGm, hsz, rfl⟩⟩, ((Below.refl _ _).drew).alloc (Nat.le_refl _) _, by simp⟩
    have HF : Hid _ := hfin
    clear hfin hsz
    go_enter Tryz.func113, Tryz.ntmps113
    go_wp2_with (at_builtin; refine Lib.wpList_append_run _ rfl _ _ _ _ rfl _ _ rfl rfl _ _ (hrz _) ?_)
    all_goals
      go_ret
      exact ⟨_, rfl, HF.out⟩
end Go.Proofs.YtgkdggcpplmnaaaGreat
/- Merge, the code's: sorting. Own work of the verifier. -/
namespace Go.Proofs.YtgkdggcpplmnaaaGreat
open Go.RowKit Go.Shelf Go.Lib
open Go.Sort (SWO PermIn SortedIn HoldsK flatK size_flatK get_flatK putRowK putRow grow ahead mapBlock holdsK_grow holdsK_ahead holdsK_putRowK alloc_eq_grow grow_grow)

/-- A count's two cells. -/
def encC (x : Cn) : List Value := [.int .i64 x.1, .int .u64 (x.2 : Int)]
set_option maxHeartbeats 1000000 in
theorem clos_any (x y : Cn) (W : World) : Calls Tryz.prog 102 #[.agg #[.int .i64 x.1, .int .u64 (x.2 : Int)], .agg #[.int .i64 y.1, .int .u64 (y.2 : Int)]] W fun e w' => e = .returned (.int .i64 (Lib.compareInt x.1 y.1)) ∧ ∃ q os', w' = grow (W.drewN q) os' := by
  have hcon := fun W' => Tryz.cmp_Compare_int x.1 y.1 W'
  generalize Lib.compareInt x.1 y.1 = r at hcon ⊢
  go_enter Tryz.func102, Tryz.ntmps102
  go_wp2_with (go_at_call 103; refine (hcon _).mono ?_; rintro e w' ⟨rfl, rfl⟩)
  go_ret
  exact ⟨rfl, 0, _, by rw [alloc_eq_grow, alloc_eq_grow, grow_grow]; rfl⟩
theorem ltC (x y : Cn) : ltOf (fun x y : Cn => Lib.compareInt x.1 y.1) x y = decide (x.1 < y.1) := by
  unfold ltOf Lib.compareInt
  by_cases h1 : x.1 < y.1
  · simp [h1]
  · by_cases h2 : y.1 < x.1 <;> simp [h1, h2]
theorem swoC : SWO (ltOf fun x y : Cn => Lib.compareInt x.1 y.1) where
  irrefl x := by rw [ltC]; simp
  trans x y z h1 h2 := by rw [ltC] at *; simp at *; omega
  ntrans x y z h1 h2 := by rw [ltC] at *; simp at *; omega
theorem holds_of {w : World} {g : Nat} {cur : Array Value} {L : List Cn} (hh : w.heap[g]? = some (.cells cur 124 (0, 0))) (hR : RowC w g 0 L) : HoldsK encC 2 w g 0 L.toArray := by
  intro j hj
  rw [size_flatK] at hj
  have hj' : j < L.length * 2 := by simpa using hj
  have hi : j / 2 < L.length := by omega
  rw [get_flatK _ _ _ _ (by simpa using hj')]
  have hg : (L.toArray[j / 2]!) = L[j / 2] := by simp [hi]
  rw [hg]
  obtain ⟨r1, r2⟩ := hR (j / 2) hi
  refine ⟨?_, by simp [World.frozen?, hh]⟩
  rcases Nat.mod_two_eq_zero_or_one j with e | e
  · rw [show 0 + j / 2 * 2 = 0 + j by omega] at r1
    rw [r1, e]; rfl
  · rw [show 0 + j / 2 * 2 + 1 = 0 + j by omega] at r2
    rw [r2, e]; rfl
theorem row_of {w : World} {g : Nat} {d : Array Cn} (h : HoldsK encC 2 w g 0 d) : RowC w g 0 d.toList := by
  intro i hi
  have hi' : i < d.size := by simpa using hi
  have h0 := (h.cell hi' (c := 0) (by decide)).1
  have h1 := (h.cell hi' (c := 1) (by decide)).1
  have hg : d[i]! = d.toList[i] := by simp [hi']
  rw [hg] at h0 h1
  exact ⟨h0, h1⟩
theorem below_sort {B : Nat} {w : World} {g n : Nat} {d : Array Cn} {os : Array Obj} (hB : B ≤ g) (hs : B ≤ w.heap.size) : Below B w (sortWorldK encC 2 w g 0 n d os) := by
  refine ⟨rfl, rfl, rfl, ?_, fun k hk => ?_⟩
  · show w.heap.size ≤ ((w.heap.modify g _) ++ os).size
    simp
  · show ((w.heap.modify g _) ++ os)[k]? = w.heap[k]?
    rw [Array.getElem?_append_left (by rw [Array.size_modify]; omega), Array.getElem?_modify, if_neg (by omega)]
/-- slices.SortFunc of a row of one's own. -/
theorem sort_gc {B : Nat} {W0 w : World} {v : Value} {L : List Cn} (h : GC B W0 v L w) (hl : L.length ≤ 4194304) :
    Calls Tryz.prog 101 #[v, .func (.func 102) #[] #[]] w fun e w' => e = .returned (.tuple #[]) ∧ ∃ S, Srt S ∧ S.Perm L ∧ SN w' v S ∧ Below B W0 w' := by
  obtain ⟨ao, b, o, cap, hv, hao, hR⟩ := h.sc
  have hsz := h.size
  have hbl := h.below
  rcases h.own.2 with ⟨rfl, hn⟩ | ⟨g, cap', cur, rfl, hB, hh, hc, hm, _⟩
  · have hL : L = [] := List.length_eq_zero_iff.1 hn
    subst hL
    refine (AnyF.slices_SortFunc_none Tryz.sortC none 0 _ w).mono ?_
    rintro e w' ⟨rfl, rfl⟩
    exact ⟨rfl, [], List.Pairwise.nil, List.Perm.refl _, Or.inl ⟨rfl, rfl⟩, hbl⟩
  · by_cases hne : L = []
    · subst hne
      refine (AnyF.slices_SortFunc_none Tryz.sortC (some ⟨g, 0, none⟩) cap' _ w).mono ?_
      rintro e w' ⟨rfl, rfl⟩
      exact ⟨rfl, [], List.Pairwise.nil, List.Perm.refl _, Or.inr ⟨⟨g, 0, none⟩, cap', rfl, Nat.zero_le _, RowA.nil _ _⟩, hbl⟩
    · have hao' := hao hne
      subst hao'
      obtain ⟨rfl, rfl⟩ : g = b ∧ o = 0 := by cases hv; exact ⟨rfl, rfl⟩
      clear hv
      have hlt : g < w.heap.size := hR.lt hne
      have hH : HoldsK encC 2 w g 0 L.toArray := holds_of hh hR
      have eg : ∀ args w, (callFunc 102 args).run Tryz.prog w = .ok (.enter 102 args) w := enters_of Tryz.func102 (by kernel_rfl) rfl
      have hcon := AnyQ.slices_SortFunc Tryz.sortC 2 Tryz.isAgg124 Tryz.sizeOf124 encC (fun _ => rfl) (fun x v hv => by simp [encC] at hv; rcases hv with rfl | rfl <;> rfl) (fun x y => Lib.compareInt x.1 y.1) swoC 102 #[] g 0 cap' L.toArray w eg (fun _ _ _ _ x y => clos_any x y _) hH hlt (by simp; omega)
      rw [show L.toArray.size = L.length by simp] at hcon
      refine hcon.mono ?_
      rintro e w' ⟨rfl, d', n, os, hp, hs, rfl⟩
      have hds : d'.size = L.length := by have := hp.1; simpa using this
      have hpm : d'.toList.Perm L := by
        have := hp.2.2
        rw [Array.extract_eq_self_of_le (by omega), Array.extract_eq_self_of_le (by simp)] at this
        simpa using this
      refine ⟨rfl, d'.toList, ?_, hpm, Or.inr ⟨⟨g, 0, none⟩, cap', by simp [hds], by simp [hds]; exact hc, RowC.cells ?_⟩, bt' hbl (below_sort hB hsz)⟩
      · refine List.pairwise_iff_getElem.2 fun i j hi hj hij => ?_
        have h1 := hs i j (Nat.zero_le _) hij (by simpa [hds] using hj)
        rw [ltC] at h1
        have e1 : d'[i]! = d'.toList[i] := by simp [show i < d'.size by simpa using hi]
        have e2 : d'[j]! = d'.toList[j] := by simp [show j < d'.size by simpa using hj]
        rw [e1, e2] at h1
        have := of_decide_eq_false h1
        omega
      · refine row_of ?_
        exact holdsK_grow encC 2 _ _ _ _ _ (by show g < (w.heap.modify g _).size; rw [Array.size_modify]; exact hlt) (holdsK_putRowK encC 2 _ _ _ L.toArray d' (holdsK_ahead encC 2 _ _ _ _ _ hH) (by simp [hds]))
end Go.Proofs.YtgkdggcpplmnaaaGreat
/- Merge, the code's: joining two lists. Own work of the verifier. -/
namespace Go.Proofs.YtgkdggcpplmnaaaGreat
open Go.RowKit Go.Shelf

set_option maxRecDepth 10000 in
set_option maxHeartbeats 4000000 in
theorem concat_any (sb : Nat) (v v' : Value) (A C : List Cn) (hlA : A.length ≤ 1048576) (hlC : C.length ≤ 1048576) (w : World) (c0 : w.cell? ⟨sb, 0, none⟩ = some v) (c1 : w.cell? ⟨sb, 1, none⟩ = some v') (hA : SN w v A) (hC : SN w v' C) :
    Calls Tryz.prog 100 #[.slice (some ⟨sb, 0, none⟩) 2 2] w fun e w' => ∃ m, e = .returned m ∧ GC w.heap.size w m (A ++ C) w' := by
  obtain ⟨i0, hi, hz0, hz1, hz2⟩ := info_parts infoC
  have HG : Hid (∀ W, _) := grow_nil (A.length + C.length) (by omega)
  have HA : Hid (SN w v A) := hA
  have HC : Hid (SN w v' C) := hC
  have HC0 : Hid (∀ W, Below w.heap.size w W → W.cell? ⟨sb, 0, none⟩ = some v) := fun W hb => (hb.cell (p := ⟨sb, 0, none⟩) (lt_of_cell c0)).trans c0
  have HC1 : Hid (∀ W, Below w.heap.size w W → W.cell? ⟨sb, 1, none⟩ = some v') := fun W hb => (hb.cell (p := ⟨sb, 1, none⟩) (lt_of_cell c1)).trans c1
  obtain ⟨ao, b, o, cap, hv, _⟩ := hA.sc
  obtain ⟨ao', b', o', cap', hv', _⟩ := hC.sc
  subst hv hv'
  clear hA hC
  have s0 : wrap64 ((0 : Int) + (A.length : Int)) = (A.length : Int) := by unfold wrap64; omega
  have s1 : wrap64 ((A.length : Int) + (C.length : Int)) = ((A.length + C.length : Nat) : Int) := by unfold wrap64; omega
  have n0 : ¬ (A.length : Int) < 0 := by omega
  have n1 : ¬ ((A.length + C.length : Nat) : Int) < 0 := by omega
  go_enter Tryz.func100, Tryz.ntmps100
  go_wp2_with fail
  go_loopw [3, 11] (fun a c wr => ∃ k : Nat, wr = w ∧ c = .int .i64 (k : Int) ∧ ((k = 0 ∧ a = .int .i64 0) ∨ (k = 1 ∧ a = .int .i64 (A.length : Int)) ∨ (k = 2 ∧ a = .int .i64 ((A.length + C.length : Nat) : Int)))) (fun _ c _ => 2 - (intOf c).toNat)
  case atStart => exact ⟨0, rfl, rfl, Or.inl ⟨rfl, rfl⟩⟩
  case round =>
    obtain ⟨k, hwr, rfl, (⟨rfl, rfl⟩ | ⟨rfl, rfl⟩ | ⟨rfl, rfl⟩)⟩ := hrel <;> obtain rfl : w = wr := hwr.symm <;> clear hwr
    · go_wp2_with fail
      exact ⟨⟨1, True.intro, by first | rfl | simp, Or.inr (Or.inl ⟨rfl, by first | rfl | simp⟩)⟩, by simp [intOf]⟩
    · go_wp2_with fail
      exact ⟨⟨2, True.intro, by first | rfl | simp, Or.inr (Or.inr ⟨rfl, by first | rfl | simp⟩)⟩, by simp [intOf]⟩
    · generalize A.length + C.length = n at *
      go_wp2_with (go_at_call 113; refine (HG.out _).mono ?_; rintro e w1 ⟨m, rfl, hg⟩)
      have HGm : Hid (GC w.heap.size w m [] w1) := hg
      clear hg
      go_loopw [6, 27] (fun a c w2 => ∃ (k : Nat) (D : List Cn), c = .int .i64 (k : Int) ∧ Hid (GC w.heap.size w a D w2) ∧ Hid ((k = 0 ∧ D = []) ∨ (k = 1 ∧ D = A) ∨ (k = 2 ∧ D = A ++ C))) (fun _ c _ => 2 - (intOf c).toNat)
      case atStart => exact ⟨0, [], rfl, HGm, Or.inl ⟨rfl, rfl⟩⟩
      case round =>
        obtain ⟨k, D, rfl, hG, hk⟩ := hrel
        have d0 := HC0.out _ hG.out.below
        have d1 := HC1.out _ hG.out.below
        rcases hk.out with ⟨rfl, rfl⟩ | ⟨rfl, hD⟩ | ⟨rfl, hD⟩
        · rcases HA.out with ⟨hv0, hL0⟩ | ⟨aA, cA, hvA, hcA, hRA⟩
          · rw [hv0] at d0
            rcases gc_form2 hG.out with ⟨rfl, hD0⟩ | ⟨gv, cv, rfl, hcv⟩
            · have HG2 : Hid (GC w.heap.size w (.slice none 0 0) A wr) := by unfold Hid; rw [hL0]; simpa using hG.out
              clear hG
              go_wp2_with fail
              exact ⟨⟨1, _, by first | rfl | simp, HG2, Or.inr (Or.inl ⟨rfl, rfl⟩)⟩, by simp [intOf]⟩
            · have HG2 : Hid (GC w.heap.size w (.slice (some ⟨gv, 0, none⟩) ([] : List Cn).length cv) A wr) := by unfold Hid; rw [hL0]; simpa using hG.out
              clear hG
              go_wp2_with fail
              exact ⟨⟨1, _, by first | rfl | simp, HG2, Or.inr (Or.inl ⟨rfl, rfl⟩)⟩, by simp [intOf]⟩
          · obtain ⟨rfl, rfl⟩ : ao = some aA ∧ cA = cap := by have h := hvA; simp at h; exact ⟨h.1, h.2.symm⟩
            clear hvA
            have HcA : Hid _ := hRA.below hG.out.below
            have hgs := hG.out.size
            go_wp2_with (at_builtin; refine wpList_append_own _ rfl _ _ 43 rfl w.heap.size 124 i0 (.agg #[.int .i64 0, .int .u64 0]) 2 16 Tryz.underlying43 hi hz0 hz1 hz2 rfl (by decide) _ _ _ rfl hG.out.own aA A.length cA (fl A) rfl (fl_length A) HcA.out (fl_one A) (by unfold maxLen; first | omega | (simp; omega)) (by first | omega | (simp; omega)) hgs ?_; intro v2 w2 hown hgrow hnil; have hg2 := hG.out.grow (ys := A) hG.out.below hgs hown hgrow; clear hown hgrow hnil)
            exact ⟨⟨1, _, by first | rfl | simp, hg2, Or.inr (Or.inl ⟨rfl, List.nil_append _⟩)⟩, by simp [intOf]⟩
        · subst hD
          rcases HC.out with ⟨hv0, hL0⟩ | ⟨aA, cA, hvA, hcA, hRA⟩
          · rw [hv0] at d1
            rcases gc_form2 hG.out with ⟨rfl, hD0⟩ | ⟨gv, cv, rfl, hcv⟩
            · have HG2 : Hid (GC w.heap.size w (.slice none 0 0) (D ++ C) wr) := by unfold Hid; rw [hL0]; simpa using hG.out
              clear hG
              go_wp2_with fail
              exact ⟨⟨2, _, by first | rfl | simp, HG2, Or.inr (Or.inr ⟨rfl, rfl⟩)⟩, by simp [intOf]⟩
            · have HG2 : Hid (GC w.heap.size w (.slice (some ⟨gv, 0, none⟩) D.length cv) (D ++ C) wr) := by unfold Hid; rw [hL0]; simpa using hG.out
              clear hG
              go_wp2_with fail
              exact ⟨⟨2, _, by first | rfl | simp, HG2, Or.inr (Or.inr ⟨rfl, rfl⟩)⟩, by simp [intOf]⟩
          · obtain ⟨rfl, rfl⟩ : ao' = some aA ∧ cA = cap' := by have h := hvA; simp at h; exact ⟨h.1, h.2.symm⟩
            clear hvA
            have HcA : Hid _ := hRA.below hG.out.below
            have hgs := hG.out.size
            go_wp2_with (at_builtin; refine wpList_append_own _ rfl _ _ 43 rfl w.heap.size 124 i0 (.agg #[.int .i64 0, .int .u64 0]) 2 16 Tryz.underlying43 hi hz0 hz1 hz2 rfl (by decide) _ _ _ rfl hG.out.own aA C.length cA (fl C) rfl (fl_length C) HcA.out (fl_one C) (by unfold maxLen; first | omega | (simp; omega)) (by first | omega | (simp; omega)) hgs ?_; intro v2 w2 hown hgrow hnil; have hg2 := hG.out.grow (ys := C) hG.out.below hgs hown hgrow; clear hown hgrow hnil)
            exact ⟨⟨2, _, by first | rfl | simp, hg2, Or.inr (Or.inr ⟨rfl, rfl⟩)⟩, by simp [intOf]⟩
        · go_wp2_with fail
          go_ret
          exact ⟨_, rfl, hD ▸ hG.out⟩
end Go.Proofs.YtgkdggcpplmnaaaGreat
