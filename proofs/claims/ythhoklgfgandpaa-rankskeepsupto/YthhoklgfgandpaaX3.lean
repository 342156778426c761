/- Merge, the code's: sorting. Own work of the verifier. -/
import Derived.Test.YthhoklgfgandpaaX2
namespace Go.Proofs.Ythhoklgfgandpaa
open Go.RowKit Go.Shelf Go.Lib
open Go.Sort (SWO PermIn SortedIn HoldsK flatK size_flatK get_flatK putRowK putRow grow ahead mapBlock holdsK_grow holdsK_ahead holdsK_putRowK alloc_eq_grow grow_grow)

/-- A count's two cells. -/
def encC (x : Cn) : List Value := [.int .i64 x.1, .int .u64 (x.2 : Int)]
set_option maxHeartbeats 1000000 in
theorem clos_any (x y : Cn) (W : World) : Calls Try.prog 36 #[.agg #[.int .i64 x.1, .int .u64 (x.2 : Int)], .agg #[.int .i64 y.1, .int .u64 (y.2 : Int)]] W fun e w' => e = .returned (.int .i64 (Lib.compareInt x.1 y.1)) ∧ ∃ q os', w' = grow (W.drewN q) os' := by
  have hcon := fun W' => Try.cmp_Compare_int x.1 y.1 W'
  generalize Lib.compareInt x.1 y.1 = r at hcon ⊢
  go_enter Try.func36, Try.ntmps36
  go_wp2_with (go_at_call 37; refine (hcon _).mono ?_; rintro e w' ⟨rfl, rfl⟩)
  go_ret
  exact ⟨rfl, 0, _, by rw [alloc_eq_grow, alloc_eq_grow, grow_grow]; rfl⟩
theorem ltC (x y : Cn) : ltOf (fun x y : Cn => Lib.compareInt x.1 y.1) x y = decide (x.1 < y.1) := by
  unfold ltOf Lib.compareInt
  by_cases h1 : x.1 < y.1
  · simp [h1]
  · by_cases h2 : y.1 < x.1 <;> simp [h1, h2]
theorem swoC : SWO (ltOf fun x y : Cn => Lib.compareInt x.1 y.1) where
  irrefl x := by rw [ltC]; simp
  trans x y z h1 h2 := by rw [ltC] at *; simp at *; omega
  ntrans x y z h1 h2 := by rw [ltC] at *; simp at *; omega
theorem holds_of {w : World} {g : Nat} {cur : Array Value} {L : List Cn} (hh : w.heap[g]? = some (.cells cur 49 (0, 0))) (hR : RowC w g 0 L) : HoldsK encC 2 w g 0 L.toArray := by
  intro j hj
  rw [size_flatK] at hj
  have hj' : j < L.length * 2 := by simpa using hj
  have hi : j / 2 < L.length := by omega
  rw [get_flatK _ _ _ _ (by simpa using hj')]
  have hg : (L.toArray[j / 2]!) = L[j / 2] := by simp [hi]
  rw [hg]
  obtain ⟨r1, r2⟩ := hR (j / 2) hi
  refine ⟨?_, by simp [World.frozen?, hh]⟩
  rcases Nat.mod_two_eq_zero_or_one j with e | e
  · rw [show 0 + j / 2 * 2 = 0 + j by omega] at r1
    rw [r1, e]; rfl
  · rw [show 0 + j / 2 * 2 + 1 = 0 + j by omega] at r2
    rw [r2, e]; rfl
theorem row_of {w : World} {g : Nat} {d : Array Cn} (h : HoldsK encC 2 w g 0 d) : RowC w g 0 d.toList := by
  intro i hi
  have hi' : i < d.size := by simpa using hi
  have h0 := (h.cell hi' (c := 0) (by decide)).1
  have h1 := (h.cell hi' (c := 1) (by decide)).1
  have hg : d[i]! = d.toList[i] := by simp [hi']
  rw [hg] at h0 h1
  exact ⟨h0, h1⟩
theorem below_sort {B : Nat} {w : World} {g n : Nat} {d : Array Cn} {os : Array Obj} (hB : B ≤ g) (hs : B ≤ w.heap.size) : Below B w (sortWorldK encC 2 w g 0 n d os) := by
  refine ⟨rfl, rfl, rfl, ?_, fun k hk => ?_⟩
  · show w.heap.size ≤ ((w.heap.modify g _) ++ os).size
    simp
  · show ((w.heap.modify g _) ++ os)[k]? = w.heap[k]?
    rw [Array.getElem?_append_left (by rw [Array.size_modify]; omega), Array.getElem?_modify, if_neg (by omega)]
/-- slices.SortFunc of a row of one's own. -/
theorem sort_gc {B : Nat} {W0 w : World} {v : Value} {L : List Cn} (h : GC B W0 v L w) (hl : L.length ≤ 4194304) :
    Calls Try.prog 35 #[v, .func (.func 36) #[] #[]] w fun e w' => e = .returned (.tuple #[]) ∧ ∃ S, Srt S ∧ S.Perm L ∧ SN w' v S ∧ Below B W0 w' := by
  obtain ⟨ao, b, o, cap, hv, hao, hR⟩ := h.sc
  have hsz := h.size
  have hbl := h.below
  rcases h.own.2 with ⟨rfl, hn⟩ | ⟨g, cap', cur, rfl, hB, hh, hc, hm, _⟩
  · have hL : L = [] := List.length_eq_zero_iff.1 hn
    subst hL
    refine (AnyF.slices_SortFunc_none Try.sortC none 0 _ w).mono ?_
    rintro e w' ⟨rfl, rfl⟩
    exact ⟨rfl, [], List.Pairwise.nil, List.Perm.refl _, Or.inl ⟨rfl, rfl⟩, hbl⟩
  · by_cases hne : L = []
    · subst hne
      refine (AnyF.slices_SortFunc_none Try.sortC (some ⟨g, 0, none⟩) cap' _ w).mono ?_
      rintro e w' ⟨rfl, rfl⟩
      exact ⟨rfl, [], List.Pairwise.nil, List.Perm.refl _, Or.inr ⟨g, 0, cap', rfl, Nat.zero_le _, fun i hi => by simp at hi⟩, hbl⟩
    · have hao' := hao hne
      subst hao'
      obtain ⟨rfl, rfl⟩ : g = b ∧ o = 0 := by cases hv; exact ⟨rfl, rfl⟩
      clear hv
      have hlt : g < w.heap.size := hR.lt hne
      have hH : HoldsK encC 2 w g 0 L.toArray := holds_of hh hR
      have eg : ∀ args w, (callFunc 36 args).run Try.prog w = .ok (.enter 36 args) w := enters_of Try.func36 (by kernel_rfl) rfl
      have hcon := AnyQ.slices_SortFunc Try.sortC 2 Try.isAgg49 Try.sizeOf49 encC (fun _ => rfl) (fun x v hv => by simp [encC] at hv; rcases hv with rfl | rfl <;> rfl) (fun x y => Lib.compareInt x.1 y.1) swoC 36 #[] g 0 cap' L.toArray w eg (fun _ _ _ _ x y => clos_any x y _) hH hlt (by simp; omega)
      rw [show L.toArray.size = L.length by simp] at hcon
      refine hcon.mono ?_
      rintro e w' ⟨rfl, d', n, os, hp, hs, rfl⟩
      have hds : d'.size = L.length := by have := hp.1; simpa using this
      have hpm : d'.toList.Perm L := by
        have := hp.2.2
        rw [Array.extract_eq_self_of_le (by omega), Array.extract_eq_self_of_le (by simp)] at this
        simpa using this
      refine ⟨rfl, d'.toList, ?_, hpm, Or.inr ⟨g, 0, cap', by simp [hds], by simp [hds]; exact hc, ?_⟩, bt' hbl (below_sort hB hsz)⟩
      · refine List.pairwise_iff_getElem.2 fun i j hi hj hij => ?_
        have h1 := hs i j (Nat.zero_le _) hij (by simpa [hds] using hj)
        rw [ltC] at h1
        have e1 : d'[i]! = d'.toList[i] := by simp [show i < d'.size by simpa using hi]
        have e2 : d'[j]! = d'.toList[j] := by simp [show j < d'.size by simpa using hj]
        rw [e1, e2] at h1
        have := of_decide_eq_false h1
        omega
      · refine row_of ?_
        exact holdsK_grow encC 2 _ _ _ _ _ (by show g < (w.heap.modify g _).size; rw [Array.size_modify]; exact hlt) (holdsK_putRowK encC 2 _ _ _ L.toArray d' (holdsK_ahead encC 2 _ _ _ _ _ hH) (by simp [hds]))
end Go.Proofs.Ythhoklgfgandpaa
