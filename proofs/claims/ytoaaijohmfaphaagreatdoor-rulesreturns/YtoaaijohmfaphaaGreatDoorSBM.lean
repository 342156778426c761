/- RULES: THE DOOR: a rule that is handed in, opened. Own work of the verifier. -/
import Derived.Test.YtoaaijohmfaphaaGreatDoorSBL
import Derived.Test.YtoaaijohmfaphaaGreatDoorSBJ
import Derived.Lib.SmallJoins
import Derived.Carry
import Derived.SizedLaws
import Derived.ProofKit
import Derived.OpenShut
import Derived.ChangeSlices
import Derived.Deep.SlicePairs
import Derived.Deep.Slices
import Derived.JoinedCond
import Derived.ChangeArms
import Derived.Test.YtoaaijohmfaphaaGreatDoorSBI
import Derived.Test.YtoaaijohmfaphaaGreatDoorSAU
import Derived.Test.YtoaaijohmfaphaaGreatDoorSAB
import Derived.Deep.RegionHeld3
import Derived.Test.YtoaaijohmfaphaaGreatDoorSBK
import Derived.Lib.ItoaLen
namespace Go.Proofs.YtoaaijohmfaphaaGreatDoor.Ru
open Go.ChangeShapes Go.WideShapes Go.ChangeAt Go.RowKit Go.Joins Me

theorem dcellsI64 : Tryz.prog.cellsOf 2 = 1 := by kernel_rfl
theorem dcellsInt : Tryz.prog.cellsOf 3 = 1 := by kernel_rfl
theorem dcellsS : Tryz.prog.cellsOf 9 = 1 := by kernel_rfl
theorem dcellsF : Tryz.prog.cellsOf 22 = 1 := by kernel_rfl
theorem dcellsLb : Tryz.prog.cellsOf 64 = 2 := by kernel_rfl
theorem dcellsSL : Tryz.prog.cellsOf 23 = 1 := by kernel_rfl
theorem dcellsR : Tryz.prog.cellsOf 26 = 8 := by kernel_rfl
theorem dcellsSR : Tryz.prog.cellsOf 24 = 1 := by kernel_rfl
theorem dbytesLb : Tryz.prog.bytesOf 64 = 32 := by kernel_rfl
theorem dlaidOut : laidOutB Tryz.prog = true := by kernel_rfl
theorem drange {n : Int} (h : (Lit.int .i64 n).wf = true) : -9223372036854775808 ≤ n ∧ n ≤ 9223372036854775807 := by
  simpa [Lit.wf, IntKind.min, IntKind.max, IntKind.signed, IntKind.bits] using h
def strV (v : Value) : List UInt8 := match v with | .string s => s.data.toList | _ => []
def szA (s : RT) : Prop := szN s ∧ szI s ∧ szB s
section
variable {H : Type} {enc : TypeId × Value → H}
theorem dall_mem {l : List Nat} {B n : Nat} (h : l.all (· ≤ B) = true) (hn : n ∈ l) : n ≤ B := by
  have := List.all_eq_true.1 h n hn
  simpa using this
theorem dw_aggs (P : Program) (e : TypeId) (D : Nat → DataW H) (n i : Nat) (hi : i < n) (k : Nat) (hk : k ∈ (D i).weights P e) : k ∈ DataW.weightsAll P e ((List.range n).map D) := by
  have key : ∀ l : List Nat, i ∈ l → k ∈ DataW.weightsAll P e (l.map D) := fun l hl => by
    induction l with
    | nil => cases hl
    | cons x r ih =>
      rw [List.map_cons, DataW.weightsAll, List.mem_append]
      rcases List.mem_cons.1 hl with rfl | h
      · exact Or.inl hk
      · exact Or.inr (ih h)
  exact key _ (List.mem_range.2 hi)
theorem dw_mem (P : Program) (e : TypeId) {k : Nat} {d : DataW H} : ∀ {l : List (DataW H)}, d ∈ l → k ∈ d.weights P e → k ∈ DataW.weightsAll P e l
  | [], h, _ => by cases h
  | x :: r, h, hk => by
    rw [DataW.weightsAll, List.mem_append]
    rcases List.mem_cons.1 h with rfl | h
    · exact Or.inl hk
    · exact Or.inr (dw_mem P e h hk)
theorem dtrod_f64 {P : Program} {w : World} {base : Nat} {spare : Nat → Bool} {held : Bool} {fuel : Nat} {t : TypeId} {cs : List Value} {x : DataW H × List MemPlace} (ht : P.underlying t = some (.float .f64)) (h : DataW.trod enc P w base spare held fuel t cs = some x) : ∃ b : Nat, cs = [.float .f64 b] ∧ b < 18446744073709551616 := by
  cases fuel with
  | zero => simp [DataW.trod] at h
  | succ n =>
    unfold DataW.trod at h
    rw [ht] at h
    split at h <;> simp_all
    rename_i k k' b e
    subst e
    simpa [Lit.wf] using h.1.2
set_option maxRecDepth 100000 in
theorem dopen_labels {W : World} {fuel : Nat} {v : Value} {x : DataW H × List MemPlace} (h : DataW.trod enc Tryz.prog W 0 (fun _ => true) true fuel 23 [v] = some x) (hw : (x.1.weights Tryz.prog 23).all (· ≤ reachBytes) = true) :
    ∃ (L : List La.Lb) (la : Option Addr) (lc : Nat), v = .slice la L.length lc ∧ LbV 0 W v L ∧ (la = none → lc = 0) ∧ L.length ≤ 140737488355328 ∧ (∀ a ∈ L, a.1.length ≤ 140737488351232 ∧ a.2.length ≤ 140737488351232) := by
  rcases Deep.open_slice_pairs Tryz.underlying23 Tryz.underlying64 dcellsLb rfl rfl dcellsS dcellsS h with ⟨hcs, _⟩ | ⟨a, len, cap, m, n, V0, V1, D0, D1, P0, P1, hcs, _, hl, hm, hmm, rfl, hx⟩
  · simp at hcs
    subst hcs
    exact ⟨[], none, 0, rfl, LbV.nil _ _, fun _ => rfl, by simp, fun a ha => by cases ha⟩
  · simp at hcs
    subst hcs
    simp only [if_true] at hmm
    subst hmm
    have hcap : m ≤ 9223372036854775807 := by unfold maxLen at hm; omega
    have key : ∀ i, i < m → ∃ (s t : List UInt8), V0 i = .string ⟨s.toArray⟩ ∧ V1 i = .string ⟨t.toArray⟩ ∧ D0 i = .lit (.string s) ∧ D1 i = .lit (.string t) := fun i hi => by
      obtain ⟨_, _, h0, h1⟩ := hx i hi
      obtain ⟨s, e0, f0, _⟩ := DataW.trod_string Tryz.underlying9 h0
      obtain ⟨t, e1, f1, _⟩ := DataW.trod_string Tryz.underlying9 h1
      simp at e0 e1
      exact ⟨s.data.toList, t.data.toList, e0, e1, (Prod.mk.inj f0).1, (Prod.mk.inj f1).1⟩
    have hLlen : ((List.range len).map fun i => ((strV (V0 i), strV (V1 i)) : La.Lb)).length = len := by simp
    have hbnd : ∀ c ∈ ((List.range len).map fun i => ((strV (V0 i), strV (V1 i)) : La.Lb)), c.1.length ≤ 140737488351232 ∧ c.2.length ≤ 140737488351232 := fun c hc => by
      obtain ⟨i, hi, rfl⟩ := List.mem_map.1 hc
      have hi' := List.mem_range.1 hi
      obtain ⟨s, t, e0, e1, e2, e3⟩ := key i (by omega)
      simp only [DataW.weights, Tryz.underlying23] at hw
      have hin : ∀ k, k ∈ (DataW.agg [D0 i, D1 i] : DataW H).weights Tryz.prog 64 → k ≤ reachBytes := fun k hk => dall_mem hw (List.mem_cons_of_mem _ (List.mem_append_left _ (dw_aggs Tryz.prog 64 (fun i => DataW.agg [D0 i, D1 i]) len i hi' k hk)))
      rw [e2, e3] at hin
      simp only [DataW.weights, Tryz.underlying64, DataW.weightsEach, List.map_cons, List.map_nil] at hin
      unfold reachBytes at hin
      simp only [e0, e1]
      have es : s.length ≤ 140737488351232 := hin s.length (by simp)
      have et : t.length ≤ 140737488351232 := hin t.length (by simp)
      exact ⟨es, et⟩
    have hn : len ≤ 140737488355328 := by
      simp only [DataW.weights, Tryz.underlying23, dbytesLb, List.all_cons, Bool.and_eq_true, decide_eq_true_eq, List.length_map, List.length_range] at hw
      have := hw.1
      unfold reachBytes at this
      omega
    refine ⟨(List.range len).map fun i => ((strV (V0 i), strV (V1 i)) : La.Lb), some a, m, by rw [hLlen], ?_, (fun e => by cases e), (by rw [hLlen]; exact hn), hbnd⟩
    rcases Nat.eq_zero_or_pos len with k0 | k0
    · subst k0
      exact ⟨some a, 0, 0, m, rfl, fun e => absurd rfl e, Nat.zero_le _, hcap, fun i hi => by simp at hi⟩
    · obtain ⟨b, off, spot⟩ := a
      have hspot : spot = none := by
        have := World.cell?_spot (hx 0 (by omega)).1
        simpa [Addr.add] using this
      subst hspot
      refine ⟨_, b, off, m, by rw [hLlen], fun _ => ⟨rfl, Nat.zero_le _⟩, by rw [hLlen]; exact hl, hcap, fun i hi => ?_⟩
      rw [hLlen] at hi
      obtain ⟨c0, c1, _, _⟩ := hx i (by omega)
      obtain ⟨s, t, e0, e1, _⟩ := key i (by omega)
      rw [Addr.add_lit] at c0 c1
      simp only [List.getElem_map, List.getElem_range]
      rw [e0] at c0 ⊢
      rw [e1] at c1 ⊢
      exact ⟨c0, by rw [← Nat.add_assoc] at c1; exact c1⟩
theorem rvhs_of {b : Nat} {W : World} : ∀ (ar : List RT) (o : Nat), (∀ j (h : j < ar.length), ∃ u : Array Value, u.size = 8 ∧ (∀ q (k : q < u.size), W.cell? ⟨b, o + j * 8 + q, none⟩ = some u[q]) ∧ RVh W ar[j] (.agg u)) → RVhs W b o ar
  | [], _, _ => by unfold RVhs; trivial
  | t :: ar, o, h => by
    unfold RVhs
    obtain ⟨u, h1, h2, h3⟩ := h 0 (by simp)
    refine ⟨⟨u, h3, h1, fun j hj => by have := h2 j hj; rw [Nat.zero_mul, Nat.add_zero] at this; exact this⟩, rvhs_of ar (o + 8) fun j hj => ?_⟩
    obtain ⟨u', k1, k2, k3⟩ := h (j + 1) (by simpa using hj)
    exact ⟨u', k1, fun q k => by rw [show o + 8 + j * 8 + q = o + (j + 1) * 8 + q by omega]; exact k2 q k, k3⟩
theorem ndsL_ex {s : RT} : ∀ {ar : List RT}, s ∈ ndsL ar → ∃ a ∈ ar, s ∈ nds a
  | [], h => by unfold ndsL at h; cases h
  | t :: ar, h => by
    unfold ndsL at h
    rcases List.mem_append.1 h with h | h
    · exact ⟨t, List.mem_cons_self, h⟩
    · obtain ⟨a, h1, h2⟩ := ndsL_ex h
      exact ⟨a, List.mem_cons_of_mem _ h1, h2⟩
set_option maxRecDepth 100000 in
set_option maxHeartbeats 1000000 in
theorem open_rulec : ∀ (fuel : Nat) {W : World} {cs : List Value} {x : DataW H × List MemPlace}, DataW.trod enc Tryz.prog W 0 (fun _ => true) true fuel 26 cs = some x → (x.1.weights Tryz.prog 26).all (· ≤ reachBytes) = true →
    ∃ (t : RT) (u : Array Value), cs = u.toList ∧ u.size = 8 ∧ RVh W t (.agg u) ∧ ∀ s ∈ nds t, szA s := by
  intro fuel
  induction fuel using Nat.strongRecOn with
  | ind fuel ih =>
  intro W cs x h hw
  obtain ⟨xs, m, hfu, hx, hl, hlen, hfs⟩ := DataW.trod_struct Tryz.underlying26 h
  rw [dcellsR] at hl
  match cs, hl, xs, hlen with
  | [c0, c1, c2, c3, c4, c5, c6, c7], _, [y0, y1, y2, y3, y4, y5, y6, y7], _ =>
    have g0 := hfs 0 _ rfl
    have g1 := hfs 1 _ rfl
    have g2 := hfs 2 _ rfl
    have g3 := hfs 3 _ rfl
    have g4 := hfs 4 _ rfl
    have g5 := hfs 5 _ rfl
    have g6 := hfs 6 _ rfl
    have g7 := hfs 7 _ rfl
    simp [dcellsInt, dcellsF, dcellsS, dcellsSL, dcellsI64, dcellsSR] at g0 g1 g2 g3 g4 g5 g6 g7
    have hxx := Prod.ext_iff.1 hx
    rw [hxx.1] at hw
    simp only [List.map_cons, List.map_nil, DataW.weights, Tryz.underlying26, DataW.weightsEach, List.all_append, Bool.and_eq_true] at hw
    obtain ⟨_, _, k2, k3, _, _, _, k7, _⟩ := hw
    obtain ⟨z0, e0, _, _⟩ := DataW.trod_int Tryz.underlying3 g0
    obtain ⟨z1, e1, w1⟩ := dtrod_f64 Tryz.underlying22 g1
    obtain ⟨s2, e2, r2, _⟩ := DataW.trod_string Tryz.underlying9 g2
    obtain ⟨L, la, lc, e3, hL, hn, hLl, hLb⟩ := dopen_labels g3 k3
    obtain ⟨z4, e4, _, w4⟩ := DataW.trod_int Tryz.underlying2 g4
    obtain ⟨z5, e5, _, w5⟩ := DataW.trod_int Tryz.underlying2 g5
    obtain ⟨z6, e6, _, w6⟩ := DataW.trod_int Tryz.underlying2 g6
    simp at e0 e1 e2 e4 e5 e6
    subst e0 e1 e2 e3 e4 e5 e6
    rw [r2] at k2
    unfold reachBytes at k2
    simp [DataW.weights] at k2
    have hs2 : s2.data.toList.length ≤ 140737488351232 := by have e : s2.data.toList.length = s2.size := rfl; omega
    have hA0 : ∀ ar, szA (.mk z0 z1 s2.data.toList L z4 z5 z6 ar) := fun ar => ⟨⟨w1, by show s2.data.toList.length ≤ _; omega, by show (0 : Nat) ≤ _; omega, fun a ha => by have := hLb a ha; omega⟩, ⟨drange w4, drange w5, drange w6⟩, hLl⟩
    rcases DataW.trod_slice Tryz.underlying24 g7 with ⟨hcs, _⟩ | ⟨a, len, cap, elems, rest, n, hmn, hcs, hxe, -, hl7, hm7, hle, hel, -⟩
    · simp at hcs
      subst hcs
      refine ⟨.mk z0 z1 s2.data.toList L z4 z5 z6 [], #[.int .i64 z0, .float .f64 z1, .string s2, .slice la L.length lc, .int .i64 z4, .int .i64 z5, .int .i64 z6, .slice none 0 0], rfl, rfl, ?_, fun s hs => ?_⟩
      · unfold RVh
        exact ⟨la, lc, none, 0, 0, 0, rfl, hL, hn, fun e => absurd rfl e, Nat.le_refl _, by decide, by unfold RVhs; trivial⟩
      · have : s = .mk z0 z1 s2.data.toList L z4 z5 z6 [] := by simpa [nds, ndsL] using hs
        subst this
        exact hA0 _
    · simp at hcs
      subst hcs
      rw [(Prod.ext_iff.1 hxe).1] at k7
      simp only [DataW.weights, Tryz.underlying24] at k7
      have each : ∀ i, i < len → ∃ (t : RT) (u : Array Value), (∀ q (k : q < u.size), W.cell? (a.add (i * 8 + q)) = some u[q]) ∧ u.size = 8 ∧ RVh W t (.agg u) ∧ ∀ s ∈ nds t, szA s := fun i hi => by
        have hE := hel i hi
        rw [dcellsR, List.getElem?_eq_getElem (by omega)] at hE
        obtain ⟨cs1, h1, h2⟩ := Option.bind_eq_some_iff.1 hE
        obtain ⟨t, u, rfl, hu8, hv, hs⟩ := ih n (by omega) h2 (List.all_eq_true.2 fun k hk => List.all_eq_true.1 k7 k (List.mem_cons_of_mem _ (List.mem_append_left _ (dw_mem Tryz.prog 26 (List.mem_map.2 ⟨elems[i]'(by omega), List.getElem_mem _, rfl⟩) hk))))
        obtain ⟨_, _, h3⟩ := World.cells?_some h1
        refine ⟨t, u, fun q k => ?_, hu8, hv, hs⟩
        have := h3 q (by omega)
        rw [Addr.add_add] at this
        rw [this, Array.getElem?_toList]
        exact Array.getElem?_eq_getElem k
      obtain ⟨f, hf⟩ : ∃ f : Nat → RT, ∀ i, i < len → ∃ u : Array Value, (∀ q (k : q < u.size), W.cell? (a.add (i * 8 + q)) = some u[q]) ∧ u.size = 8 ∧ RVh W (f i) (.agg u) ∧ ∀ s ∈ nds (f i), szA s := by
        refine ⟨fun i => if hi : i < len then Classical.choose (each i hi) else .zero, fun i hi => ?_⟩
        simp only [hi, dif_pos]
        exact Classical.choose_spec (each i hi)
      have hlen7 : ((List.range len).map f).length = len := by simp
      refine ⟨.mk z0 z1 s2.data.toList L z4 z5 z6 ((List.range len).map f), #[.int .i64 z0, .float .f64 z1, .string s2, .slice la L.length lc, .int .i64 z4, .int .i64 z5, .int .i64 z6, .slice (some a) len cap], rfl, rfl, ?_, fun s hs => ?_⟩
      · unfold RVh
        have hcap : cap ≤ 9223372036854775807 := by unfold maxLen at hm7; omega
        rcases Nat.eq_zero_or_pos len with k0 | k0
        · subst k0
          exact ⟨la, lc, some a, 0, 0, cap, rfl, hL, hn, fun e => absurd rfl e, Nat.zero_le _, hcap, by show RVhs W 0 0 []; unfold RVhs; trivial⟩
        · obtain ⟨b, off, spot⟩ := a
          have hspot : spot = none := by
            obtain ⟨u, q1, q2, -⟩ := hf 0 k0
            have := World.cell?_spot (q1 0 (by omega))
            simpa [Addr.add] using this
          subst hspot
          refine ⟨la, lc, some ⟨b, off, none⟩, b, off, cap, by rw [hlen7], hL, hn, fun _ => rfl, by rw [hlen7]; exact hl7, hcap, rvhs_of _ _ fun j hj => ?_⟩
          rw [hlen7] at hj
          obtain ⟨u, q1, q2, q3, -⟩ := hf j hj
          refine ⟨u, q2, fun q k => ?_, by simpa using q3⟩
          have := q1 q k
          rw [Addr.add_lit, ← Nat.add_assoc] at this
          exact this
      · unfold nds at hs
        rcases List.mem_cons.1 hs with rfl | hs
        · exact hA0 _
        · obtain ⟨a', h1, h2⟩ := ndsL_ex hs
          obtain ⟨i, hi, rfl⟩ := List.mem_map.1 h1
          obtain ⟨u, -, -, -, h3⟩ := hf i (List.mem_range.1 hi)
          exact h3 s h2
set_option maxRecDepth 100000 in
theorem open_rule {W : World} {base : Nat} {v : Value} {d : DataW H} {pl : List MemPlace} (hv : Value.okWide Tryz.prog W .any base 26 v) (h : DataW.Trod enc Tryz.prog W 0 (fun _ => true) true 26 v d pl) (hw : (d.weights Tryz.prog 26).all (· ≤ reachBytes) = true) :
    ∃ t : RT, RVh W t v ∧ ∀ s ∈ nds t, szA s := by
  obtain ⟨cs, rfl, hsz⟩ := okWide_struct Tryz.underlying26 hv
  obtain ⟨fuel, hf⟩ := h
  obtain ⟨t, u, e, -, h1, h2⟩ := open_rulec fuel hf hw
  have hu : cs = u := by
    apply Array.ext'
    simpa [Value.cells] using e
  subst hu
  exact ⟨t, h1, h2⟩
end
end Go.Proofs.YtoaaijohmfaphaaGreatDoor.Ru
/- RULES: THE DOCUMENT'S SAME OF ANY TWO RULES (printed by gen_vq.py). Own work of the verifier. -/
namespace Go.Proofs.YtoaaijohmfaphaaGreatDoor.Ru
open Go.RowKit Me

set_option maxHeartbeats 4000000 in
set_option maxRecDepth 100000 in
theorem dsame_any : ∀ (t t2 : RT) (v v2 : Value) (w : World), RV 0 w t v → RV 0 w t2 v2 → (∀ s ∈ nds t, szX s) → (∀ s ∈ nds t2, szX s) →
    Calls Tryz.prog 11 #[v, v2] w fun e w' => e = .returned (.bool (smB t t2)) ∧ Below w.heap.size w w' := by
  refine RT.ind ?_
  intro k x nm lb wi n d ar ih t2 v v2 w hv hv2 hz hz2
  obtain ⟨k2, x2, nm2, lb2, wi2, n2, d2, ar2⟩ := t2
  have hx : x < 18446744073709551616 := hz _ (nds_self _)
  have hx2 : x2 < 18446744073709551616 := hz2 _ (nds_self _)
  have hch : ∀ i (hi : i < ar.length), ∀ s ∈ nds ar[i], szX s := fun i hi s hs => hz s (by
    unfold nds
    exact List.mem_cons_of_mem _ (ndsL_mem (List.getElem_mem hi) hs))
  have hch2 : ∀ i (hi : i < ar2.length), ∀ s ∈ nds ar2[i], szX s := fun i hi s hs => hz2 s (by
    unfold nds
    exact List.mem_cons_of_mem _ (ndsL_mem (List.getElem_mem hi) hs))
  unfold RV at hv hv2
  obtain ⟨lv, qa, ab, ao, qc, rfl, ⟨la, b1, o1, lc, rfl, hl1, hl2, hl3, hl4⟩, haa, hac, hac2, hrs⟩ := hv
  obtain ⟨lv2, qa2, ab2, ao2, qc2, rfl, ⟨la2, b2, o2, lc2, rfl, hm1, hm2, hm3, hm4⟩, hba, hbc, hbc2, hrs2⟩ := hv2
  obtain ⟨W0, hW0⟩ : ∃ W0, W0 = (w.alloc (.cells (rc k x nm (.slice la lb.length lc) wi n d (.slice qa ar.length qc)) 26)).alloc (.cells (rc k2 x2 nm2 (.slice la2 lb2.length lc2) wi2 n2 d2 (.slice qa2 ar2.length qc2)) 26) := ⟨_, rfl⟩
  have hb0 : Below w.heap.size w W0 := by rw [hW0]; exact La.bel2 w _ _
  have hn0 : W0.heap[w.heap.size]? = some (.cells (rc k x nm (.slice la lb.length lc) wi n d (.slice qa ar.length qc)) 26) := by rw [hW0]; exact heap_alloc2_old w _ _
  have hz0 : W0.heap[w.heap.size + 1]? = some (.cells (rc k2 x2 nm2 (.slice la2 lb2.length lc2) wi2 n2 d2 (.slice qa2 ar2.length qc2)) 26) := by
    rw [hW0]
    have := new_1 (w.alloc (.cells (rc k x nm (.slice la lb.length lc) wi n d (.slice qa ar.length qc)) 26)) (.cells (rc k2 x2 nm2 (.slice la2 lb2.length lc2) wi2 n2 d2 (.slice qa2 ar2.length qc2)) 26)
    rw [show (w.alloc (.cells (rc k x nm (.slice la lb.length lc) wi n d (.slice qa ar.length qc)) 26)).heap.size = w.heap.size + 1 by simp] at this
    exact this
  have HS : Hid (∀ W, Calls Tryz.prog 24 #[.float .f64 x, .float .f64 x2] W fun e w' => e = .returned (.bool (Re.sF x x2)) ∧ w' = W) := fun W => Re.refsame_any x x2 hx hx2 W
  have HE : Hid (∀ W, Below w.heap.size w W → Calls Tryz.prog 25 #[.slice la lb.length lc, .slice la2 lb2.length lc2] W fun e w' => e = .returned (.bool (decide (lb = lb2))) ∧ Below W.heap.size W w') := fun W hb => (La.samel_any la b1 o1 lc lb (fun e => (hl1 e).1) la2 b2 o2 lc2 lb2 (fun e => (hm1 e).1) (by omega) W (hl4.below hb) (hm4.below hb)).mono (by
    rintro e w1 ⟨rfl, m, rfl⟩
    exact ⟨rfl, bel_dn' _ _⟩)
  have HCC : Hid (∀ i (hi : i < ar.length) (hj : i < ar2.length), ∃ u u2 : Array Value, IsRc u ∧ IsRc u2 ∧ (∀ W, Below w.heap.size w W → ∀ j (h : j < u.size), W.cell? ⟨ab, ao + i * 8 + j, none⟩ = some u[j]) ∧ (∀ W, Below w.heap.size w W → ∀ j (h : j < u2.size), W.cell? ⟨ab2, ao2 + i * 8 + j, none⟩ = some u2[j]) ∧ ∀ W, Below w.heap.size w W → Calls Tryz.prog 11 #[.agg u, .agg u2] W fun e w' => e = .returned (.bool (smB ar[i] ar2[i])) ∧ Below W.heap.size W w') := fun i hi hj => by
    obtain ⟨u, h1, h2, h3⟩ := hrs.at_ i hi
    obtain ⟨u2, g1, g2, g3⟩ := hrs2.at_ i hj
    refine ⟨u, u2, ?_, ?_, fun W1 h j hj => cellH' h (h3 j hj), fun W1 h j hj => cellH' h (g3 j hj), fun W1 h => ih ar[i] (List.getElem_mem hi) ar2[i] (.agg u) (.agg u2) W1 (h1.below h) (g1.below h) (hch i hi) (hch2 i hj)⟩
    · obtain ⟨k', x', nm', la', ln', lc', w', n', d', aa', an', ac', e⟩ := h1.form
      exact ⟨k', x', nm', la', ln', lc', w', n', d', aa', an', ac', by cases e; rfl⟩
    · obtain ⟨k', x', nm', la', ln', lc', w', n', d', aa', an', ac', e⟩ := g1.form
      exact ⟨k', x', nm', la', ln', lc', w', n', d', aa', an', ac', by cases e; rfl⟩
  have hQ : smB (.mk k x nm lb wi n d ar) (.mk k2 x2 nm2 lb2 wi2 n2 d2 ar2) = ((k == k2) && Re.sF x x2 && (nm == nm2) && decide (lb = lb2) && (wi == wi2) && (n == n2) && (d == d2) && smL ar ar2) := by rw [smB]
  rw [hQ]
  have HW0 := hid_of hW0
  have Hb0 := hid_of hb0
  have HN0 := hid_of hn0
  have HZ0 := hid_of hz0
  have HA := hid_of haa
  have HB := hid_of hba
  have hal : (ar.length : Int) ≤ 9223372036854775807 := by omega
  have hal2 : (ar2.length : Int) ≤ 9223372036854775807 := by omega
  have sF := store_f
  clear hW0 hb0 hn0 hz0 hQ ih hch hch2 hz hz2 hx hx2 hrs hrs2 hl1 hl2 hl3 hl4 hm1 hm2 hm3 hm4 haa hba hac hac2 hbc hbc2
  obtain ⟨e0, he0⟩ : ∃ b, b = (k == k2) := ⟨_, rfl⟩
  obtain ⟨e2, he2⟩ : ∃ b, b = (nm == nm2) := ⟨_, rfl⟩
  obtain ⟨e4, he4⟩ : ∃ b, b = (wi == wi2) := ⟨_, rfl⟩
  obtain ⟨e5, he5⟩ : ∃ b, b = (n == n2) := ⟨_, rfl⟩
  obtain ⟨e6, he6⟩ : ∃ b, b = (d == d2) := ⟨_, rfl⟩
  rw [← he0, ← he2, ← he4, ← he5, ← he6]
  have H0 : Hid ((k != k2) = !e0) := by show _ = _; rw [he0]; rfl
  have H2 : Hid ((nm != nm2) = !e2) := by show _ = _; rw [he2]; rfl
  have H2b : Hid ((nm == nm2) = e2) := he2.symm
  have H4 : Hid ((wi != wi2) = !e4) := by show _ = _; rw [he4]; rfl
  have H5 : Hid ((n != n2) = !e5) := by show _ = _; rw [he5]; rfl
  have H6 : Hid ((d != d2) = !e6) := by show _ = _; rw [he6]; rfl
  clear he0 he2 he4 he5 he6
  generalize Re.sF x x2 = e1 at *
  generalize decide (lb = lb2) = e3 at *
  obtain ⟨e7, he7⟩ : ∃ b, b = smL ar ar2 := ⟨_, rfl⟩
  rw [← he7]
  have H7 := hid_of he7
  clear he7
  obtain ⟨RR, hRR⟩ : ∃ b, b = (e0 && e1 && e2 && e3 && e4 && e5 && e6 && e7) := ⟨_, rfl⟩
  rw [← hRR]
  have HQ := hid_of hRR
  clear hRR
  go_enter Tryz.func11, Tryz.ntmps11
  go_upto_region 1 with fail
  rw [← HW0.out]
  clear HW0
  obtain ⟨y0, y1, y2, y3, y4, y5, y6, y7⟩ := eight HN0.out
  obtain ⟨z0, z1, z2, z3, z4, z5, z6, z7⟩ := eight HZ0.out
  clear y2 z2 y3 z3 y4 z4 y5 z5 y6 z6 y7 z7
  have he := H0.out
  cases e0
  · rw [Bool.not_false] at he
    clear H2 H2b H4 H5 H6 HS HE HN0 HZ0 y1 z1 HA HB HCC
    have HR : Hid (RR = false) := by
      show _ = _
      have := HQ.out
      simpa using this
    clear HQ H7
    go_wp2_with fail
    go_ret
    exact ⟨congrArg (fun b : Bool => Ending.returned (.bool b)) HR.out.symm, Hb0.out⟩
  · rw [Bool.not_true] at he
    clear H0
    go_wp2_with fail
    refine Calls.mono (HS.out _) ?_
    rintro e w1 ⟨rfl, hw⟩
    subst hw
    clear HS he y0 z0 y1 z1
    cases e1
    · clear H2 H2b H4 H5 H6 HE HN0 HZ0 HA HB HCC
      have HR : Hid (RR = false) := by
        show _ = _
        have := HQ.out
        simpa using this
      clear HQ H7
      go_wp2_with fail
      go_ret
      exact ⟨congrArg (fun b : Bool => Ending.returned (.bool b)) HR.out.symm, Hb0.out⟩
    ·
      obtain ⟨y0, y1, y2, y3, y4, y5, y6, y7⟩ := eight HN0.out
      obtain ⟨z0, z1, z2, z3, z4, z5, z6, z7⟩ := eight HZ0.out
      clear y0 z0 y1 z1 y4 z4 y5 z5 y6 z6 y7 z7
      have he := H2.out
      have heb := H2b.out
      clear H2b
      cases e2
      · rw [Bool.not_false] at he
        clear H4 H5 H6 HE HN0 HZ0 y3 z3 HA HB HCC
        have HR : Hid (RR = false) := by
          show _ = _
          have := HQ.out
          simpa using this
        clear HQ H7
        go_wp2_with fail
        go_ret
        exact ⟨congrArg (fun b : Bool => Ending.returned (.bool b)) HR.out.symm, Hb0.out⟩
      · rw [Bool.not_true] at he
        clear H2
        go_wp2_with fail
        refine Calls.mono (HE.out _ Hb0.out) ?_
        rintro e w1 ⟨rfl, hb1⟩
        have HN1 := hid_of ((hb1.block _ (Array.getElem?_eq_some_iff.1 HN0.out).1).trans HN0.out)
        have HZ1 := hid_of ((hb1.block _ (Array.getElem?_eq_some_iff.1 HZ0.out).1).trans HZ0.out)
        have HB1 := hid_of (bt Hb0.out hb1)
        clear HE hb1 HN0 HZ0 Hb0 he heb y2 z2 y3 z3
        cases e3
        · clear H4 H5 H6 HN1 HZ1 HA HB HCC
          have HR : Hid (RR = false) := by
            show _ = _
            have := HQ.out
            simpa using this
          clear HQ H7
          go_wp2_with fail
          go_ret
          exact ⟨congrArg (fun b : Bool => Ending.returned (.bool b)) HR.out.symm, HB1.out⟩
        ·
          obtain ⟨y0, y1, y2, y3, y4, y5, y6, y7⟩ := eight HN1.out
          obtain ⟨z0, z1, z2, z3, z4, z5, z6, z7⟩ := eight HZ1.out
          clear y0 z0 y1 z1 y2 z2 y3 z3
          have he := H4.out
          cases e4
          · rw [Bool.not_false] at he
            clear H5 H6 y5 z5 y6 z6 y7 z7 HA HB HCC
            have HR : Hid (RR = false) := by
              show _ = _
              have := HQ.out
              simpa using this
            clear HQ H7
            go_wp2_with fail
            go_ret
            exact ⟨congrArg (fun b : Bool => Ending.returned (.bool b)) HR.out.symm, HB1.out⟩
          · rw [Bool.not_true] at he
            have h4 := he
            clear H4 he
            have he := H5.out
            cases e5
            · rw [Bool.not_false] at he
              clear H6 y6 z6 y7 z7 HA HB HCC
              have HR : Hid (RR = false) := by
                show _ = _
                have := HQ.out
                simpa using this
              clear HQ H7
              go_wp2_with fail
              go_ret
              exact ⟨congrArg (fun b : Bool => Ending.returned (.bool b)) HR.out.symm, HB1.out⟩
            · rw [Bool.not_true] at he
              have h5 := he
              clear H5 he
              have he := H6.out
              cases e6
              · rw [Bool.not_false] at he
                clear y7 z7 HA HB HCC
                have HR : Hid (RR = false) := by
                  show _ = _
                  have := HQ.out
                  simpa using this
                clear HQ H7
                go_wp2_with fail
                go_ret
                exact ⟨congrArg (fun b : Bool => Ending.returned (.bool b)) HR.out.symm, HB1.out⟩
              · rw [Bool.not_true] at he
                by_cases hlen : ar.length = ar2.length
                · have ht : ((ar.length : Int) != (ar2.length : Int)) = false := by rw [bne_eq_false_iff_eq]; omega
                  have HR : Hid (RR = smL (ar.drop 0) (ar2.drop 0)) := by
                    show _ = _
                    rw [List.drop_zero, List.drop_zero, ← H7.out]
                    have := HQ.out
                    simpa using this
                  have HL := hid_of hlen
                  clear HQ H7 H6 hlen
                  go_upto_region 3 with fail
                  clear he h4 h5 y4 z4 y5 z5 y6 z6 y7 z7 ht
                  go_wp2_with fail
                  go_loopw [5] (fun a W => ∃ i : Nat, i ≤ ar.length ∧ a = .int .i64 (i : Int) ∧ Hid (Below w.heap.size w W) ∧ Hid (W.heap[w.heap.size]? = some (.cells (rc k x nm (.slice la lb.length lc) wi n d (.slice qa ar.length qc)) 26)) ∧ Hid (W.heap[w.heap.size + 1]? = some (.cells (rc k2 x2 nm2 (.slice la2 lb2.length lc2) wi2 n2 d2 (.slice qa2 ar2.length qc2)) 26)) ∧ Hid (RR = smL (ar.drop i) (ar2.drop i))) (fun a _ => ar.length - (intOf a).toNat)
                  case atStart => exact ⟨0, by omega, rfl, HB1, HN1, HZ1, HR⟩
                  case round =>
                    clear HB1 HN1 HZ1 HR
                    obtain ⟨i, hi, rfl, HW, HN, HZ, HR⟩ := hrel
                    obtain ⟨y0, y1, y2, y3, y4, y5, y6, y7⟩ := eight HN.out
                    obtain ⟨z0, z1, z2, z3, z4, z5, z6, z7⟩ := eight HZ.out
                    clear y0 y1 y2 y3 y4 y5 y6 z0 z1 z2 z3 z4 z5 z6
                    by_cases hlt : i < ar.length
                    · have hlt2 : i < ar2.length := by have := HL.out; omega
                      obtain ⟨rfl, -⟩ := HA.out (by intro e; rw [e] at hlt; simp at hlt)
                      obtain ⟨rfl, -⟩ := HB.out (by intro e; rw [e] at hlt2; simp at hlt2)
                      have hlt' : (i : Int) < (ar.length : Int) := by omega
                      have hlt2' : (i : Int) < (ar2.length : Int) := by omega
                      obtain ⟨u, v, ⟨k', x', nm', la', ln', lc', wi', n', d', qa', qn', qc', rfl⟩, ⟨k3, x3, nm3, la3, ln3, lc3, wi3, n3, d3, qa3, qn3, qc3, rfl⟩, hu, hv, hcall⟩ := HCC.out i hlt hlt2
                      have hz := HR.out
                      rw [smL_drop _ _ _ hlt hlt2] at hz
                      have HZ1 := hid_of hz
                      have hix1 := index_rl ab ao ar.length qc i (i : Int) rfl hlt
                      have hix2 := index_rl ab2 ao2 ar2.length qc2 i (i : Int) rfl hlt2
                      obtain ⟨p1, hp1⟩ : ∃ p, p = ao + i * 8 := ⟨_, rfl⟩
                      obtain ⟨p2, hp2⟩ : ∃ p, p = ao2 + i * 8 := ⟨_, rfl⟩
                      rw [← hp1] at hix1 hu
                      rw [← hp2] at hix2 hv
                      have D : Hid (∀ W, Below w.heap.size w W → Calls Tryz.prog 11 #[.agg (rc k' x' nm' (.slice la' ln' lc') wi' n' d' (.slice qa' qn' qc')), .agg (rc k3 x3 nm3 (.slice la3 ln3 lc3) wi3 n3 d3 (.slice qa3 qn3 qc3))] W fun e w' => e = .returned (.bool (smB ar[i] ar2[i])) ∧ Below W.heap.size W w') := hcall
                      have cs := hu wr HW.out
                      have ct := hv wr HW.out
                      have x0 := cs 0 (by show 0 < 8; decide)
                      have x1 := cs 1 (by show 1 < 8; decide)
                      have x2 := cs 2 (by show 2 < 8; decide)
                      have x3 := cs 3 (by show 3 < 8; decide)
                      have x4 := cs 4 (by show 4 < 8; decide)
                      have x5 := cs 5 (by show 5 < 8; decide)
                      have x6 := cs 6 (by show 6 < 8; decide)
                      have x7 := cs 7 (by show 7 < 8; decide)
                      have t0 := ct 0 (by show 0 < 8; decide)
                      have t1 := ct 1 (by show 1 < 8; decide)
                      have t2 := ct 2 (by show 2 < 8; decide)
                      have t3 := ct 3 (by show 3 < 8; decide)
                      have t4 := ct 4 (by show 4 < 8; decide)
                      have t5 := ct 5 (by show 5 < 8; decide)
                      have t6 := ct 6 (by show 6 < 8; decide)
                      have t7 := ct 7 (by show 7 < 8; decide)
                      try simp only [Nat.add_zero] at x0 t0
                      clear cs ct hu hv hp1 hp2 hcall hz HCC HR
                      generalize smB ar[i] ar2[i] = bt1 at *
                      go_upto_region 6 with fail
                      go_region_with (go_at_call 11; (with_reducible refine Calls.mono (D.out _ (by repeat (first | exact HW.out | with_reducible refine bel_drewB ?_))) ?_); rintro e w9 ⟨rfl, hb9⟩; have HB9 := hid_of (bt (show Below w.heap.size w _ by repeat (first | exact HW.out | with_reducible refine bel_drewB ?_)) hb9); have HN9 := hid_of ((hb9.block _ (Array.getElem?_eq_some_iff.1 HN.out).1).trans HN.out); have HZ9 := hid_of ((hb9.block _ (Array.getElem?_eq_some_iff.1 HZ.out).1).trans HZ.out))
                      all_goals
                        clear D HW HN HZ y7 z7 x0 x1 x2 x3 x4 x5 x6 x7 t0 t1 t2 t3 t4 t5 t6 t7 hix1 hix2 hb9
                        cases bt1
                        · have HE : Hid (RR = false) := by show _ = _; rw [HZ1.out, Bool.false_and]
                          clear HZ1
                          go_wp2_with fail
                          go_ret
                          exact ⟨congrArg (fun b : Bool => Ending.returned (.bool b)) HE.out.symm, HB9.out⟩
                        · have HE : Hid (RR = smL (ar.drop (i + 1)) (ar2.drop (i + 1))) := by show _ = _; rw [HZ1.out, Bool.true_and]
                          clear HZ1
                          go_wp2_with fail
                          exact ⟨⟨i + 1, by omega, by go_num, HB9, HN9, HZ9, HE⟩, by simp [intOf]; omega⟩
                    · obtain rfl : i = ar.length := by omega
                      have hlt' : ¬ (ar.length : Int) < (ar.length : Int) := by omega
                      have HE : Hid (RR = true) := by show _ = _; rw [HR.out, smL_end _ _ HL.out]
                      clear HR HCC HA HB
                      go_wp2_with fail
                      go_ret
                      exact ⟨congrArg (fun b : Bool => Ending.returned (.bool b)) HE.out.symm, HW.out⟩
                · have ht : ((ar.length : Int) != (ar2.length : Int)) = true := by rw [bne_iff_ne]; omega
                  have HR : Hid (RR = false) := by
                    show _ = _
                    have h7 := H7.out
                    rw [smL_ne _ _ hlen] at h7
                    have := HQ.out
                    rw [h7] at this
                    simpa using this
                  clear HQ H7 hlen HA HB HCC H6
                  go_wp2_with fail
                  go_ret
                  exact ⟨congrArg (fun b : Bool => Ending.returned (.bool b)) HR.out.symm, HB1.out⟩
end Go.Proofs.YtoaaijohmfaphaaGreatDoor.Ru
/- RULES: RulesSames' walk. Own work of the verifier. -/
namespace Go.Proofs.YtoaaijohmfaphaaGreatDoor.Ru
open Go.RowKit Go.Sort Me

theorem lfF_lt : ∀ (t : RT) (n : Int), lfF t n ≤ n - 1 := by
  intro t n
  obtain ⟨k, x, nm, lb, w, nn, d, ar⟩ := t
  unfold lfF
  have := lfL_le' ar (n - (1 + (lb.length : Int))) (fun a _ n => lfF_le a n)
  omega
theorem lfL_all : ∀ (ar : List RT) (n : Int), 0 ≤ lfL ar n → (ar.length : Int) ≤ n ∧ ∀ a ∈ ar, ∃ n', n' ≤ n ∧ 0 ≤ lfF a n'
  | [], n, h => by unfold lfL at h; exact ⟨by simpa using h, fun a ha => by cases ha⟩
  | t :: ar, n, h => by
    unfold lfL at h
    by_cases q : 0 ≤ n
    · rw [if_pos q] at h
      obtain ⟨h1, h2⟩ := lfL_all ar _ h
      have h3 := lfF_lt t n
      refine ⟨by rw [List.length_cons]; omega, fun a ha => ?_⟩
      rcases List.mem_cons.1 ha with rfl | ha
      · exact ⟨n, by omega, by omega⟩
      · obtain ⟨n', k1, k2⟩ := h2 a ha
        exact ⟨n', by omega, k2⟩
    · rw [if_neg q] at h; exact absurd h q
theorem lf_small : ∀ (t : RT) (n : Int), n ≤ 32768 → 0 ≤ lfF t n → ∀ s ∈ nds t, szO s := by
  refine RT.ind ?_
  intro k x nm lb w nn d ar ih n hn h s hs
  unfold lfF at h
  obtain ⟨h1, h2⟩ := lfL_all ar _ h
  unfold nds at hs
  rcases List.mem_cons.1 hs with rfl | hs
  · exact ⟨by omega, by omega⟩
  · obtain ⟨a, ha, hsa⟩ := ndsL_ex hs
    obtain ⟨n', k1, k2⟩ := h2 a ha
    exact ih a ha n' (by omega) k2 s hsa
theorem smL_refl' : ∀ (ar : List RT), (∀ a ∈ ar, smB a a = true) → smL ar ar = true
  | [], _ => by rw [smL]; rfl
  | t :: ar, h => by rw [smL, h t List.mem_cons_self, smL_refl' ar (fun a ha => h a (List.mem_cons_of_mem _ ha))]; rfl
theorem smB_refl : ∀ t : RT, smB t t = true := by
  refine RT.ind ?_
  intro k x nm lb w n d ar ih
  rw [smB, smL_refl' ar ih]
  have e1 : Re.sF x x = true := by
    unfold Re.sF Re.sg
    rw [if_neg (Nat.lt_irrefl _), if_neg (Nat.lt_irrefl _)]
    rfl
  simp [e1]
end Go.Proofs.YtoaaijohmfaphaaGreatDoor.Ru
/- RULES: how long a rule's text is. Own work of the verifier. -/
namespace Go.Proofs.YtoaaijohmfaphaaGreatDoor.Ru
open Go.RowKit Me

theorem ck_nodes {t : RT} (h : ckE t = 0) : ∀ s ∈ nds t, okN s = 0 := by
  have hk : chkE t = 0 := by
    unfold ckE at h
    by_cases q : chkE t = 0
    · exact q
    · rw [if_pos q] at h; exact h
  exact chkE_zero hk
theorem escL_len (q : Bool) (l : List UInt8) : (La.escL q l).length ≤ 2 * l.length := by
  induction l with
  | nil => simp [La.escL]
  | cons b r ih =>
    rw [La.escL, List.length_append, List.length_cons]
    have : (La.esc1 q b).length ≤ 2 := by
      unfold La.esc1
      split
      · simp
      · split <;> simp
    omega
theorem prB_len (L : List La.Lb) : ∀ f, (∀ a ∈ L, a.1.length ≤ 2000 ∧ a.2.length ≤ 2000) → (La.prB f L).length ≤ L.length * 6004 := by
  induction L with
  | nil => intro f _; simp [La.prB]
  | cons a r ih =>
    intro f h
    have h1 := ih false (fun x hx => h x (List.mem_cons_of_mem _ hx))
    have h2 := h a List.mem_cons_self
    have h3 := escL_len true a.2
    rw [La.prB, List.length_cons, List.length_append, List.length_cons, La.lbT]
    simp only [List.length_append, List.length_cons, List.length_nil]
    omega
theorem sgn_len (s : Bool) : (Rl.sgn s).length ≤ 1 := by cases s <;> simp [Rl.sgn]
theorem text_len (x : Nat) : (Rl.pText x).length ≤ 1000 := by
  unfold Rl.pText
  split
  · rename_i he
    have he' := of_decide_eq_true he
    have h0 : x % 9223372036854775808 ≠ 0 := by omega
    have h1 : x % 9223372036854775808 < 9218868437227405312 := by omega
    obtain ⟨s1, s2, s3, s4⟩ := Rl.sd_bounds x h0 h1
    obtain ⟨p0, p1⟩ := Rl.pt_bounds x h0 h1
    have h3 : (Lib.decDigits (Rl.sd x).1).length ≤ 20 := by rw [Lib.decDigits_length]; exact Lib.nDigits_le20 _ (by omega)
    have h4 := Lib.itoa_length_le (Rl.pt x - 1) (by omega) (by omega)
    have h5 := sgn_len (decide (9223372036854775808 ≤ x))
    unfold Rl.xText Rl.eHead
    split
    · simp only [List.length_append, List.length_cons, List.length_nil]
      omega
    · simp only [List.length_append, List.length_cons, List.length_nil, List.length_drop, List.length_take]
      omega
  · unfold Rl.fText
    split
    · split <;> decide
    · rename_i h0
      split
      · decide
      · split
        · split <;> decide
        · rename_i h1 h2
          obtain ⟨s1, s2, s3, s4⟩ := Rl.sd_bounds x h0 (by omega)
          obtain ⟨p0, p1⟩ := Rl.pt_bounds x h0 (by omega)
          have h3 : (Lib.decDigits (Rl.sd x).1).length ≤ 20 := by rw [Lib.decDigits_length]; exact Lib.nDigits_le20 _ (by omega)
          have h5 := sgn_len (decide (9223372036854775808 ≤ x))
          unfold Rl.fB
          split
          · simp only [List.length_append, List.length_cons, List.length_nil, List.length_take, List.length_replicate]
            omega
          · split
            · simp only [List.length_append, List.length_take, List.length_replicate]
              omega
            · simp only [List.length_append, List.length_cons, List.length_nil, List.length_take, List.length_drop]
              omega
theorem plain_len {c : Bool} {l : List UInt8} (h : La.plainB c l = true) : l.length ≤ 64 := by
  unfold La.plainB at h
  simp only [Bool.and_eq_true, decide_eq_true_eq] at h
  omega
theorem chkL_len : ∀ (L : List La.Lb) (p : Option (List UInt8)), La.chkL L p = 0 → ∀ a ∈ L, a.1.length ≤ 2000 ∧ a.2.length ≤ 2000
  | [], _, _, a, ha => by cases ha
  | b :: r, p, h, a, ha => by
    have h1 : La.lnameB b.1 = true ∧ La.txE b.2 = 0 ∧ ∃ q, La.chkL r q = 0 := by
      unfold La.chkL at h
      by_cases k : La.lnameB b.1 = false
      · rw [if_pos k] at h; exact absurd h (by decide)
      · rw [if_neg k] at h
        by_cases k2 : La.txE b.2 ≠ 0
        · rw [if_pos k2] at h; exact absurd h k2
        · rw [if_neg k2] at h
          refine ⟨by simpa using k, by simpa using k2, ?_⟩
          cases p with
          | none => exact ⟨_, h⟩
          | some q =>
            dsimp only at h
            split at h
            · rename_i k3; exact absurd h k3
            · exact ⟨_, h⟩
    obtain ⟨h1, h2, q, h3⟩ := h1
    rcases List.mem_cons.1 ha with rfl | ha
    · refine ⟨?_, ?_⟩
      · unfold La.lnameB at h1
        simp only [Bool.and_eq_true] at h1
        have := plain_len h1.1.1.1
        omega
      · unfold La.txE at h2
        split at h2
        · exact absurd h2 (by decide)
        · omega
    · exact chkL_len r q h3 a ha
theorem chkD_len {nm : List UInt8} {lb : List La.Lb} (h : La.chkD ⟨1, nm, [], lb⟩ = 0) : nm.length ≤ 64 ∧ lb.length ≤ 16 ∧ (∀ a ∈ lb, a.1.length ≤ 2000 ∧ a.2.length ≤ 2000) ∧ (La.printT nm lb).length ≤ 100000 := by
  unfold La.chkD at h
  dsimp only at h
  rw [if_neg (by decide)] at h
  split at h
  · exact absurd h (by decide)
  rename_i k
  split at h
  · rename_i k2; exact absurd h k2
  split at h
  · exact absurd h (by decide)
  rename_i k3
  have hn : La.nameB nm = true := by simpa using k
  unfold La.nameB at hn
  simp only [Bool.and_eq_true] at hn
  have h1 := plain_len hn.1.1.1
  have h2 := chkL_len lb none h
  have h3 := prB_len lb true h2
  have h4 : lb.length ≤ 16 := by omega
  refine ⟨h1, h4, h2, ?_⟩
  unfold La.printT
  rw [List.length_append, List.length_append]
  split
  · simp; omega
  · simp; omega
theorem ms_len {q : Nat × List UInt8} {nm : List UInt8} {lb : List La.Lb} {w n d : Int} (hq : q.2.length ≤ 8) (hk : La.chkD ⟨1, nm, [], lb⟩ = 0) (hw : -9223372036854775808 ≤ w ∧ w ≤ 9223372036854775807) (hn : -9223372036854775808 ≤ n ∧ n ≤ 9223372036854775807) (hd : -9223372036854775808 ≤ d ∧ d ≤ 9223372036854775807) : (msT q nm lb w n d).length ≤ 200000 := by
  have h1 := (chkD_len hk).2.2.2
  have h2 := Lib.itoa_length_le w hw.1 hw.2
  have h3 := Lib.itoa_length_le n hn.1 hn.2
  have h4 := Lib.itoa_length_le d hd.1 hd.2
  unfold msT
  simp only [List.length_append, List.length_cons, List.length_nil]
  split
  · simp only [List.length_append, List.length_cons, List.length_nil]; omega
  · simp only [List.length_nil]; omega
theorem ndsL_two (a b : RT) : (ndsL [a, b]).length = (nds a).length + (nds b).length := by simp [ndsL]
set_option maxHeartbeats 1000000 in
/-- A rule's text is no longer than its nodes let it be. -/
theorem wr_len : ∀ t : RT, (∀ s ∈ nds t, okN s = 0 ∧ szI s) → (wrT t).length ≤ 300000 * (nds t).length := by
  refine RT.ind ?_
  intro k x nm lb w n d ar ih hok
  obtain ⟨h0, hw, hn, hd⟩ := hok _ (nds_self _)
  have hr : 1 ≤ k ∧ k ≤ 21 := ok_range h0
  obtain ⟨hne, l2, l1, -⟩ := okN_len h0
  have hs := shp_val k hr
  have hkw := kw_len k
  have hkid : ∀ a ∈ ar, (wrT a).length ≤ 300000 * (nds a).length := fun a ha => ih a ha fun s hs => hok s (by
    unfold nds
    exact List.mem_cons_of_mem _ (ndsL_mem ha hs))
  have hnn : (nds (.mk k x nm lb w n d ar)).length = (ndsL ar).length + 1 := by rw [nds, List.length_cons]
  rw [hnn]
  by_cases s1 : shp k = 1
  · rw [wrT, if_pos s1]
    have := text_len x
    omega
  by_cases s23 : shp k = 2 ∨ shp k = 3
  · rw [wrT, if_neg s1, if_pos s23]
    have := ms_len (q := kwI k) hkw (ok_chk h0 s23) hw hn hd
    omega
  by_cases s7 : shp k = 7
  · rw [wrT, if_neg s1, if_neg s23, if_pos s7]
    have hlen := l1 s7
    obtain ⟨a, rfl⟩ : ∃ a, ar = [a] := by
      match ar, hlen with
      | [a], _ => exact ⟨a, rfl⟩
    have h1 := hkid a (by simp)
    have h2 : (ndsL [a]).length = (nds a).length := by simp [ndsL]
    have h3 : (wrTs [a]).getD 0 [] = wrT a := by rw [wrTs]; rfl
    rw [h3, h2]
    simp only [List.length_append, List.length_cons, List.length_nil]
    omega
  · rw [wrT, if_neg s1, if_neg s23, if_neg s7]
    have e456 : shp k = 4 ∨ shp k = 5 ∨ shp k = 6 := by
      have := kwI_le k
      omega
    have hlen := l2 e456
    obtain ⟨a, b, rfl⟩ : ∃ a b, ar = [a, b] := by
      match ar, hlen with
      | [a, b], _ => exact ⟨a, b, rfl⟩
    have h1 := hkid a (by simp)
    have h2 := hkid b (by simp)
    have h3 : (wrTs [a, b]).getD 0 [] = wrT a := by rw [wrTs]; rfl
    have h4 : (wrTs [a, b]).getD 1 [] = wrT b := by rw [wrTs, wrTs]; rfl
    rw [h3, h4, ndsL_two]
    simp only [List.length_append, List.length_cons, List.length_nil]
    omega
/-- A rule that may be has a short text. -/
theorem wr_short {t : RT} (h : ckE t = 0) (hz : ∀ s ∈ nds t, szN s ∧ szI s) : (wrT t).length ≤ 200000000 := by
  have h1 := wr_len t fun s hs => ⟨ck_nodes h s hs, (hz s hs).2⟩
  have h2 : (nds t).length ≤ 512 := by
    have hk : chkE t = 0 := by
      unfold ckE at h
      by_cases q : chkE t = 0
      · exact q
      · rw [if_pos q] at h; exact h
    unfold chkE at hk
    split at hk
    · exact absurd hk (by decide)
    · omega
  omega
/-- THE CODE'S, likewise. -/
theorem rpr_any (t : RT) (v : Value) (w : World) (hv : RV 0 w t v) (hz : ∀ s ∈ nds t, szN s ∧ szI s) (he : Env w) :
    Calls Tryz.prog 8 #[v] w fun e w' => PnQ t e ∧ Below w.heap.size w w' :=
  rprint_any t v w hv hz (fun h => by have := wr_short h hz; omega) he
end Go.Proofs.YtoaaijohmfaphaaGreatDoor.Ru
