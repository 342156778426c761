/- COUNTED, the law's own. Own work of the verifier. -/
import Derived.Test.YtfnohbalkpponaaGreatDoorE3
import Derived.Test.YtfnohbalkpponaaGreatDoorZAE
import Derived.Laws.OwnMore
import Derived.Test.YtfnohbalkpponaaGreatDoorShelf
import Derived.Test.YtfnohbalkpponaaGreatDoorShelf2
import Derived.Lib.AppendZerosOnto
import Derived.Lib.SliceRun
namespace Go.Proofs.YtfnohbalkpponaaGreatDoor
open Go.RowKit

/-- Counts, value by value. -/
def ex (O : List Cn) : List Int := O.flatMap (fun c => List.replicate c.2 c.1)
/-- Counts that stand for a rising list of buckets. -/
structure CI (ks : List Int) (O : List Cn) : Prop where
  rise : Rise O
  pos : ∀ c ∈ O, 1 ≤ c.2
  all : ex O = ks
theorem ex_append (A B : List Cn) : ex (A ++ B) = ex A ++ ex B := List.flatMap_append
theorem ex_one (c : Cn) : ex [c] = List.replicate c.2 c.1 := by unfold ex; simp
theorem ex_length (O : List Cn) : (ex O).length = (O.map (·.2)).sum := by
  induction O with
  | nil => rfl
  | cons c O ih =>
    show (List.replicate c.2 c.1 ++ ex O).length = _
    rw [List.length_append, List.length_replicate, ih, List.map_cons, List.sum_cons]
theorem CI.len {ks : List Int} {O : List Cn} (h : CI ks O) : O.length ≤ ks.length := by
  rw [← h.all, ex_length]
  have hp := h.pos
  clear h
  induction O with
  | nil => exact Nat.le_refl _
  | cons c O ih =>
    rw [List.map_cons, List.sum_cons, List.length_cons]
    have := hp c List.mem_cons_self
    have := ih (fun d hd => hp d (List.mem_cons_of_mem _ hd))
    omega
theorem CI.top {ks : List Int} {P : List Cn} {k : Int} {n : Nat} (h : CI ks (P ++ [(k, n)])) : n ≤ ks.length := by
  rw [← h.all, ex_append, ex_one, List.length_append, List.length_replicate]
  omega
theorem fl_set (P : List Cn) (a : Int) (b c : Nat) : (fl (P ++ [(a, b)])).set (P.length * 2 + 1) (.int .u64 (c : Int)) = fl (P ++ [(a, c)]) := by
  induction P with
  | nil => rfl
  | cons d P ih =>
    rw [List.length_cons, show (P.length + 1) * 2 + 1 = P.length * 2 + 1 + 1 + 1 by omega, List.cons_append, List.cons_append]
    simp only [fl, List.set_cons_succ]
    rw [ih]
theorem GC.last {B : Nat} {W0 w : World} {g cap m : Nat} {P : List Cn} {a : Int} {b : Nat} (h : GC B W0 (.slice (some ⟨g, 0, none⟩) m cap) (P ++ [(a, b)]) w) : w.cell? ⟨g, P.length * 2, none⟩ = some (.int .i64 a) ∧ w.cell? ⟨g, P.length * 2 + 1, none⟩ = some (.int .u64 (b : Int)) ∧ (∀ o, w.frozen? ⟨g, o, none⟩ = false) ∧ B ≤ g := by
  obtain ⟨ao, b', o, cap', hv, hao, hr⟩ := h.sc
  have hne : P ++ [(a, b)] ≠ [] := by simp
  obtain rfl := hao hne
  cases hv
  have hi : P.length < (P ++ [(a, b)]).length := by simp
  have h1 := hr P.length hi
  have hg : (P ++ [(a, b)])[P.length] = (a, b) := by simp
  rw [hg, Nat.zero_add] at h1
  refine ⟨h1.1, h1.2, ?_, ?_⟩
  · rcases h.own.2 with ⟨k, _⟩ | ⟨g2, cap2, cur, hv2, hB, hh, _⟩
    · cases k
    · cases hv2
      intro o
      unfold World.frozen?
      rw [hh]
      simp
  · rcases h.own.2 with ⟨k, _⟩ | ⟨g2, cap2, cur, hv2, hB, hh, _⟩
    · cases k
    · cases hv2
      exact hB
theorem GC.put {B : Nat} {W0 w : World} {g cap m : Nat} {P : List Cn} {a : Int} {b : Nat} (h : GC B W0 (.slice (some ⟨g, 0, none⟩) m cap) (P ++ [(a, b)]) w) (c : Nat) : GC B W0 (.slice (some ⟨g, 0, none⟩) m cap) (P ++ [(a, c)]) (w.setCell ⟨g, P.length * 2 + 1, none⟩ (.int .u64 (c : Int))) := by
  obtain ⟨ao, b', o, cap', hv, hao, hr⟩ := h.sc
  cases hv
  have hs := h.own.stored (P.length * 2 + 1) (.int .u64 (c : Int))
  rw [fl_set] at hs
  refine ⟨?_, h.below.setCell h.last.2.2.2 _, ?_⟩
  · have := hs.1
    have e1 : (P ++ [(a, c)]).length = (P ++ [(a, b)]).length := by rw [List.length_append, List.length_append]; rfl
    rw [e1]
    exact this
  · have := hs.2.size
    have := h.size
    omega
end Go.Proofs.YtfnohbalkpponaaGreatDoor
/- WHAT COUNTED COUNTS COME TO: ranks, quantiles. Own work of the verifier. -/
namespace Go.Proofs.YtfnohbalkpponaaGreatDoor
open Go.RowKit

theorem ex_cons (c : Cn) (O : List Cn) : ex (c :: O) = List.replicate c.2 c.1 ++ ex O := List.flatMap_cons
theorem atF_ex : ∀ (O : List Cn) (r : Nat) (_ : 1 ≤ r) (h : r - 1 < (ex O).length), atF O r = ((ex O)[r - 1], 0)
  | [], r, _, h => by simp [ex] at h
  | c :: O, r, h1, h => by
    simp only [atF]
    rw [if_neg (by omega)]
    have e := ex_cons c O
    by_cases k : r ≤ c.2
    · rw [if_pos k]
      have g : (ex (c :: O))[r - 1] = c.1 := by
        rw [List.getElem_of_eq e, List.getElem_append_left (by rw [List.length_replicate]; omega), List.getElem_replicate]
      rw [g]
    · rw [if_neg k]
      have hl : (ex (c :: O)).length = c.2 + (ex O).length := by rw [e, List.length_append, List.length_replicate]
      rw [atF_ex O (r - c.2) (by omega) (by omega)]
      have g : (ex (c :: O))[r - 1] = (ex O)[r - c.2 - 1]'(by omega) := by
        rw [List.getElem_of_eq e, List.getElem_append_right (by rw [List.length_replicate]; omega)]
        congr 1
        rw [List.length_replicate]
        omega
      rw [g]
theorem CI.sum {ks : List Int} {O : List Cn} (h : CI ks O) : sumN O = ks.length := by rw [← h.all, ex_length]; rfl
theorem CI.at {ks : List Int} {O : List Cn} (h : CI ks O) {r : Nat} (h1 : 1 ≤ r) (h2 : r - 1 < ks.length) : atF O r = (ks[r - 1], 0) := by
  have e := h.all
  subst e
  exact atF_ex O r h1 h2
end Go.Proofs.YtfnohbalkpponaaGreatDoor
/- WITHIN, the law's own, for whatever AtMost does. Own work of the verifier. -/
namespace Go.Proofs.YtfnohbalkpponaaGreatDoor
open Go.RowKit

end Go.Proofs.YtfnohbalkpponaaGreatDoor
/- THE WALK OF THE QUANTILES' LAW, for whatever keeps the document's answers. Own work of the verifier. -/
namespace Go.Proofs.YtfnohbalkpponaaGreatDoor
open Go.RowKit

/-- A slice of counts, as it is handed in. -/
def SN (w : World) (v : Value) (L : List Cn) : Prop := (v = .slice none 0 0 ∧ L = []) ∨ ∃ b o cap, v = .slice (some ⟨b, o, none⟩) L.length cap ∧ L.length ≤ cap ∧ RowC w b o L
theorem SN.sc {w : World} {v : Value} {L : List Cn} (h : SN w v L) : SC w v L := by
  rcases h with ⟨rfl, rfl⟩ | ⟨b, o, cap, rfl, _, hr⟩
  · exact ⟨none, 0, 0, 0, rfl, fun k => absurd rfl k, fun i hi => by simp at hi⟩
  · exact ⟨_, b, o, cap, rfl, fun _ => rfl, hr⟩
theorem SN.below {w w1 : World} {v : Value} {L : List Cn} (h : SN w v L) (hb : Below w.heap.size w w1) : SN w1 v L := by
  rcases h with h | ⟨b, o, cap, h1, h2, hr⟩
  · exact Or.inl h
  · exact Or.inr ⟨b, o, cap, h1, h2, hr.below hb (fun k => hr.lt k)⟩
theorem GC.sn {B : Nat} {W0 w : World} {v : Value} {xs : List Cn} (h : GC B W0 v xs w) : SN w v xs := by
  rcases gc_form2 h with ⟨rfl, rfl⟩ | ⟨g, cap, rfl, hc⟩
  · exact Or.inl ⟨rfl, rfl⟩
  · obtain ⟨ao, b, o, c, hv, hao, hr⟩ := h.sc
    refine Or.inr ⟨g, 0, cap, rfl, hc, fun i hi => ?_⟩
    have hne : xs ≠ [] := fun e => by rw [e] at hi; simp at hi
    have := hao hne
    subst this
    cases hv
    exact hr i hi
end Go.Proofs.YtfnohbalkpponaaGreatDoor
/- Merge, the code's: its parts. Own work of the verifier. -/
namespace Go.Proofs.YtfnohbalkpponaaGreatDoor
open Go.RowKit Go.Shelf Go.Lib Go.Sort

theorem new_1 (w : World) (o : Obj) : (w.alloc o).heap[w.heap.size]? = some o := by
  show (w.heap.push _)[w.heap.size]? = _
  simp
theorem bt' {B : Nat} {w A C : World} (h : Below B w A) (k : Below B A C) : Below B w C := h.trans k
/-- How long the run at a list's beginning is. -/
structure RunIs (L : List Cn) (k : Nat) : Prop where
  pos : 1 ≤ k
  le : k ≤ L.length
  same : ∀ t (h : t < L.length), t < k → L[t].1 = (L.getD 0 (0, 0)).1
  stop : ∀ h : k < L.length, L[k].1 ≠ (L.getD 0 (0, 0)).1
set_option maxRecDepth 10000 in
set_option maxHeartbeats 2000000 in
theorem run_any (b o cap : Nat) (L : List Cn) (hne : L ≠ []) (hl : L.length ≤ 4194304) (w : World) (hR : RowC w b o L) :
    Calls Tryz.prog 199 #[.slice (some ⟨b, o, none⟩) L.length cap] w fun e w' => ∃ k : Nat, e = .returned (.int .i64 (k : Int)) ∧ RunIs L k ∧ Below w.heap.size w w' := by
  have h0 : 0 < L.length := List.length_pos_iff.2 hne
  have h0' : (0 : Int) < (L.length : Int) := by omega
  have HR : Hid (RowC w b o L) := hR
  have hg0 : L.getD 0 (0, 0) = L[0] := by simp [List.getD, h0]
  have HX : Hid (∀ t (h : t < L.length), L[t].1 = (L.getD 0 (0, 0)).1 ↔ L[t].1 = (L.getD 0 (0, 0)).1) := fun t h => Iff.rfl
  have HC0 : Hid (∀ W, Below w.heap.size w W → W.cell? ⟨b, o, none⟩ = some (.int .i64 (L.getD 0 (0, 0)).1)) := fun W hb => by
    have := ((HR.out.below hb (fun k => HR.out.lt k)) 0 h0).1
    rw [hg0]; simpa using this
  have HIs : Hid (∀ k, 1 ≤ k → k ≤ L.length → (∀ t (h : t < L.length), t < k → L[t].1 = (L.getD 0 (0, 0)).1) → (∀ h : k < L.length, L[k].1 ≠ (L.getD 0 (0, 0)).1) → RunIs L k) := fun k a b c d => ⟨a, b, c, d⟩
  have H00 : Hid (L[0].1 = (L.getD 0 (0, 0)).1) := by unfold Hid; rw [hg0]
  clear hR hne hg0 HX
  generalize (L.getD 0 (0, 0)).1 = x0 at *
  go_enter Tryz.func199, Tryz.ntmps199
  go_wp2_with fail
  go_loopw [7] (fun a wr => ∃ k : Nat, k ≤ L.length ∧ a = .int .i64 (k : Int) ∧ Hid (Below w.heap.size w wr) ∧ Hid (∀ t (h : t < L.length), t < k → L[t].1 = x0)) (fun a _ => L.length - (intOf a).toNat)
  case atStart => exact ⟨0, by omega, rfl, Below.refl _ _, fun t h ht => by omega⟩
  case round =>
    obtain ⟨k, hk, rfl, hB, hS⟩ := hrel
    by_cases hlt : k < L.length
    · have hlt' : (k : Int) < (L.length : Int) := by omega
      obtain ⟨q1, q2⟩ := (HR.out.below hB.out (fun k => HR.out.lt k)) k hlt
      have hbA : Below w.heap.size w (wr.alloc (.cells #[.int .i64 L[k].1, .int .u64 (L[k].2 : Int)] 160)) := hB.out.alloc hB.out.size _
      have q0 := HC0.out _ hbA
      have hnew : (wr.alloc (.cells #[.int .i64 L[k].1, .int .u64 (L[k].2 : Int)] 160)).heap[wr.heap.size]? = some (.cells #[.int .i64 L[k].1, .int .u64 (L[k].2 : Int)] 160 (0, 0)) := new_1 wr _
      have HBA : Hid _ := hbA
      have HIk : Hid (L[k].1 = x0 → ∀ t (h : t < L.length), t < k + 1 → L[t].1 = x0) := fun e t h ht => by
        by_cases e2 : t = k
        · subst e2; exact e
        · exact hS.out t h (by omega)
      have HRt : Hid (L[k].1 ≠ x0 → RunIs L k) := fun e => HIs.out k (by
        rcases Nat.eq_zero_or_pos k with e0 | e0
        · subst e0; exact absurd H00.out e
        · exact e0) hk hS.out (fun _ => e)
      generalize L[k].1 = x at *
      generalize (L[k].2 : Int) = y at *
      clear hbA
      go_upto_region 4 with fail
      generalize hWA : wr.alloc (.cells #[.int .i64 x, .int .u64 y] 160) = WA at *
      have c0 : WA.cell? ⟨wr.heap.size, 0, none⟩ = some (.int .i64 x) := by simp [World.cell?, hnew]
      have HWA : Hid _ := HBA
      clear hWA hnew
      by_cases hxx : x = x0
      · have hbx : (x != x0) = false := by rw [bne_eq_false_iff_eq]; exact hxx
        have HIk2 : Hid _ := HIk.out hxx
        subst hxx
        go_region_with fail
        all_goals
          go_wp2_with fail
          exact ⟨⟨k + 1, by omega, by go_num, HBA.out.drew, HIk2⟩, by simp [intOf]; omega⟩
      · have hbx : (x != x0) = true := by rw [bne_iff_ne]; exact hxx
        have HRt2 : Hid _ := HRt.out hxx
        clear hxx
        go_region_with fail
        all_goals
          go_wp2_with fail
          go_ret
          exact ⟨k, rfl, HRt2.out, HBA.out.drew⟩
    · obtain rfl : k = L.length := by omega
      have hlt' : ¬ (L.length : Int) < (L.length : Int) := by omega
      go_wp2_with fail
      go_ret
      exact ⟨L.length, rfl, HIs.out _ (by omega) (Nat.le_refl _) hS.out (fun h => absurd h (Nat.lt_irrefl _)), hB.out⟩
set_option maxRecDepth 10000 in
set_option maxHeartbeats 2000000 in
/-- slices.Grow of a slice that is none. -/
theorem grow_nil (n : Nat) (hn : n ≤ 2097152) (w : World) : Calls Tryz.prog 236 #[.slice none 0 0, .int .i64 (n : Int)] w fun e w' => ∃ v, e = .returned v ∧ GC w.heap.size w v [] w' := by
  obtain ⟨i0, hi, hz0, hz1, hz2⟩ := info_parts infoC
  by_cases h0 : n = 0
  · subst h0
    go_enter Tryz.func236, Tryz.ntmps236
    go_wp2_with fail
    go_ret
    exact ⟨_, rfl, own_nil _ _, Below.refl _ _, Nat.le_refl _⟩
  · have h1 : ¬ (n : Int) < 0 := by omega
    have h2 : (0 : Int) < (n : Int) := by omega
    have hrz : ∀ ty, (Builtin.append_ #[71, 3] ty #[.slice none 0 0, .int .i64 (n : Int)]).run Tryz.prog w =
        .ok (.slice (some ⟨w.heap.size, 0, none⟩) (0 + n) (grownCap w (0 + n) 0 160)) (w.drew.alloc (.cells (([] : List Value).toArray ++ Builtin.zeroCells (Value.agg #[.int .i64 0, .int .u64 0]).cells n ++ Builtin.zeroCells (Value.agg #[.int .i64 0, .int .u64 0]).cells (grownCap w (0 + n) 0 160 - (0 + n))) 160)) := fun ty =>
      Lib.run_append_grow_zeros w 71 3 ty 160 i0 (.agg #[.int .i64 0, .int .u64 0]) .i64 .i64 Tryz.underlying71 Tryz.underlying3 hi hz0 none 0 0 [] (run_firstCells_none w.drew i0.size 0 0 0) n (by omega) (by omega) (by omega) (by omega) (by rw [hz2]; omega) (growslice_fits (by omega) (by rw [hz2]; omega))
    simp only [Nat.zero_add] at hrz
    have hGn : n ≤ grownCap w n 0 160 := grownCap_ge w _ _ _
    have hGm : grownCap w n 0 160 ≤ maxLen := grownCap_le_maxLen w n 0 160 (by unfold maxLen; omega)
    generalize grownCap w n 0 160 = G at *
    have hG63 : G ≤ 9223372036854775807 := by unfold maxLen at hGm; omega
    obtain ⟨cur, hcur⟩ : ∃ cur, ([] : List Value).toArray ++ Builtin.zeroCells (Value.agg #[.int .i64 0, .int .u64 0]).cells n ++ Builtin.zeroCells (Value.agg #[.int .i64 0, .int .u64 0]).cells (G - n) = cur := ⟨_, rfl⟩
    have hsz : cur.size = G * 2 := by
      rw [← hcur]
      simp [size_zeroCells, Value.cells]
      omega
    rw [hcur] at hrz
    clear hcur
    have hfin : GC w.heap.size w (.slice (some ⟨w.heap.size, 0, none⟩) 0 G) [] (w.drew.alloc (.cells cur 160)) :=
      ⟨⟨rfl, Or.inr ⟨w.heap.size, G, cur, rfl, Nat.le_refl _, new_1 w.drew _, Nat.zero_le _, hGm, hsz, rfl⟩⟩, ((Below.refl _ _).drew).alloc (Nat.le_refl _) _, by simp⟩
    have HF : Hid _ := hfin
    clear hfin hsz
    go_enter Tryz.func236, Tryz.ntmps236
    go_wp2_with (at_builtin; refine Lib.wpList_append_run _ rfl _ _ _ _ rfl _ _ rfl rfl _ _ (hrz _) ?_)
    all_goals
      go_ret
      exact ⟨_, rfl, HF.out⟩
end Go.Proofs.YtfnohbalkpponaaGreatDoor
