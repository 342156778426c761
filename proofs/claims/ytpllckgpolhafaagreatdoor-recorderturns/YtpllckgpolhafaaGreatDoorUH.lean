/- THE DOOR for lists of lists of whole numbers. Own work of the verifier. -/
import Derived.Test.YtpllckgpolhafaaGreatDoorPC
import Derived.Lib.SmallJoins
import Derived.Carry
import Derived.SizedLaws
import Derived.ProofKit
import Derived.OpenShut
import Derived.ChangeSlices
import Derived.Deep.Slices
namespace Go.Proofs.YtpllckgpolhafaaGreatDoor
open Go.ChangeShapes Go.WideShapes Go.ChangeAt Go.RowKit Go.Joins

theorem own : ownKnob Tryz.prog.godebug = none := by kernel_rfl
theorem laidOut : laidOutB Tryz.prog = true := by kernel_rfl
theorem cellsI64 : Tryz.prog.cellsOf 2 = 1 := by kernel_rfl
theorem bytesI64 : Tryz.prog.bytesOf 2 = 8 := by kernel_rfl
theorem cellsLI : Tryz.prog.cellsOf 53 = 1 := by kernel_rfl
/-- A list of whole numbers, as it is handed in. -/
def RI (W : World) (v : Value) (L : List Int) : Prop := ∃ ao b o cap, v = .slice ao L.length cap ∧ (L ≠ [] → ao = some ⟨b, o, none⟩) ∧ RowI W b o L ∧ (∀ x ∈ L, -9223372036854775808 ≤ x ∧ x < 9223372036854775808) ∧ L.length ≤ 17592186044416
/-- A list of things, each in a cell. -/
def RS {α : Type} (R : Value → α → Prop) (W : World) (v : Value) (xs : List α) : Prop := ∃ ao b o cap, v = .slice ao xs.length cap ∧ (xs ≠ [] → ao = some ⟨b, o, none⟩) ∧ ∀ i (h : i < xs.length), ∃ u, W.cell? ⟨b, o + i, none⟩ = some u ∧ R u xs[i]
theorem RI.below {W W1 : World} {v : Value} {L : List Int} (h : RI W v L) (hb : Below W.heap.size W W1) : RI W1 v L := by
  obtain ⟨ao, b, o, cap, h1, h2, h3, h4⟩ := h
  exact ⟨ao, b, o, cap, h1, h2, h3.below hb (fun k => h3.lt k), h4⟩
theorem RS.below {α : Type} {R R' : Value → α → Prop} {W W1 : World} {v : Value} {xs : List α} (h : RS R W v xs) (hb : Below W.heap.size W W1) (hR : ∀ u x, R u x → R' u x) : RS R' W1 v xs := by
  obtain ⟨ao, b, o, cap, h1, h2, h3⟩ := h
  refine ⟨ao, b, o, cap, h1, h2, fun i hi => ?_⟩
  obtain ⟨u, k1, k2⟩ := h3 i hi
  exact ⟨u, by rw [hb.cell (p := ⟨b, o + i, none⟩) (lt_of_cell k1)]; exact k1, hR _ _ k2⟩
theorem weights_mem {H : Type} {P : Program} {e : TypeId} {p : Nat → Bool} : ∀ {l : List (DataW H)} {d : DataW H}, d ∈ l → (DataW.weightsAll P e l).all p = true → (d.weights P e).all p = true
  | [], _, h, _ => by cases h
  | x :: r, d, h, k => by
    simp only [DataW.weightsAll, List.all_append, Bool.and_eq_true] at k
    rcases List.mem_cons.1 h with rfl | h
    · exact k.1
    · exact weights_mem h k.2
theorem range_64 {z : Int} (h : (Lit.int .i64 z).wf = true) : -9223372036854775808 ≤ z ∧ z < 9223372036854775808 := by
  have hx : -9223372036854775808 ≤ z ∧ z ≤ 9223372036854775807 := by simpa [Lit.wf, IntKind.min, IntKind.max, IntKind.signed, IntKind.bits] using h
  omega
section
variable {H : Type} {enc : TypeId × Value → H}
theorem open_any {α : Type} [Inhabited α] {R : Value → α → Prop} {Q : α → Prop} {t e : TypeId} {W : World} (ht : Tryz.prog.underlying t = some (.slice e)) (hc : Tryz.prog.cellsOf e = 1)
    (each : ∀ n v (d : DataW H) pl, DataW.trod enc Tryz.prog W 0 (fun _ => true) true n e [v] = some (d, pl) → (d.weights Tryz.prog e).all (· ≤ reachBytes) = true → ∃ x, R v x ∧ Q x) {fuel : Nat} {v : Value} {d : DataW H} {pl : List MemPlace}
    (h : DataW.trod enc Tryz.prog W 0 (fun _ => true) true fuel t [v] = some (d, pl)) (hw : (d.weights Tryz.prog t).all (· ≤ reachBytes) = true) : ∃ xs, RS R W v xs ∧ (∀ x ∈ xs, Q x) ∧ xs.length ≤ maxLen := by
  rcases Deep.open_slice1 ht hc h with ⟨hcs, hx⟩ | ⟨a, len, cap, m, n, V, D, Pl, hcs, hb, hl, hm, hmm, hx, hV⟩
  · obtain rfl := List.cons.inj hcs |>.1
    exact ⟨[], ⟨none, 0, 0, 0, rfl, fun k => absurd rfl k, fun i hi => by simp at hi⟩, (fun x hx => by cases hx), Nat.zero_le _⟩
  · obtain rfl := List.cons.inj hcs |>.1
    simp only [if_true] at hmm
    subst hmm
    obtain ⟨rfl, rfl⟩ := Prod.mk.inj hx
    simp only [DataW.weights, ht, List.all_cons, List.all_append, Bool.and_eq_true] at hw
    obtain ⟨f, hf⟩ := Deep.choose_lt (n := len) (p := fun i x => R (V i) x ∧ Q x) (fun i hi => each n (V i) (D i) (Pl i) (hV i (by omega)).2 (weights_mem (List.mem_map.2 ⟨i, List.mem_range.2 hi, rfl⟩) hw.2.1))
    have hlen : ((List.range len).map f).length = len := by simp
    obtain ⟨b, off, spot⟩ := a
    refine ⟨(List.range len).map f, ⟨some ⟨b, off, spot⟩, b, off, m, by rw [hlen], ?_, ?_⟩, ?_, by rw [hlen]; omega⟩
    · intro hne
      have h0 : 0 < len := by
        rcases Nat.eq_zero_or_pos len with k | k
        · exact absurd (by rw [k]; rfl) hne
        · exact k
      have hs : spot = none := by simpa [Addr.add] using World.cell?_spot (hV 0 (by omega)).1
      rw [hs]
    · intro i hi
      rw [hlen] at hi
      have hs : spot = none := by simpa [Addr.add] using World.cell?_spot (hV 0 (by omega)).1
      have hcl := (hV i (by omega)).1
      subst hs
      rw [Addr.add_lit] at hcl
      exact ⟨V i, hcl, by simpa using (hf i hi).1⟩
    · intro x hx
      obtain ⟨i, hi, rfl⟩ := List.mem_map.1 hx
      exact (hf i (List.mem_range.1 hi)).2
theorem open_inner {W : World} (n : Nat) (v : Value) (d : DataW H) (pl : List MemPlace) (h : DataW.trod enc Tryz.prog W 0 (fun _ => true) true n 53 [v] = some (d, pl)) (hw : (d.weights Tryz.prog 53).all (· ≤ reachBytes) = true) :
    ∃ L, RI W v L ∧ True := by
  have hv : ∃ a len cap, v = .slice a len cap := by
    rcases open_ints Tryz.underlying53 Tryz.underlying2 cellsI64 h with ⟨hcs, _⟩ | ⟨a, len', cap', zs, hcs, _⟩
    · exact ⟨_, _, _, List.cons.inj hcs |>.1⟩
    · exact ⟨_, _, _, List.cons.inj hcs |>.1⟩
  obtain ⟨a0, len, cap, rfl⟩ := hv
  rcases open_ints Tryz.underlying53 Tryz.underlying2 cellsI64 h with ⟨hcs, hx⟩ | ⟨a, len', cap', zs, hcs, _, hl, hm, hz, hx, hcell, hwz⟩
  · simp at hcs
    obtain ⟨rfl, rfl, rfl⟩ := hcs
    exact ⟨[], ⟨none, 0, 0, 0, rfl, fun k => absurd rfl k, (fun i hi => by simp at hi), (fun x hx => by cases hx), by simp⟩, trivial⟩
  · simp at hcs
    obtain ⟨rfl, rfl, rfl⟩ := hcs
    simp only [Prod.mk.injEq] at hx
    obtain ⟨rfl, rfl⟩ := hx
    simp only [if_true] at hz
    have hlen : (zs.take len).length = len := by simp; omega
    obtain ⟨b, off, spot⟩ := a
    refine ⟨zs.take len, ⟨some ⟨b, off, spot⟩, b, off, cap, by rw [hlen], ?_, ?_, ?_, ?_⟩, trivial⟩
    · intro hne
      have h0 : 0 < zs.length := by
        rcases Nat.eq_zero_or_pos zs.length with k | k
        · exact absurd (by rw [List.length_eq_zero_iff.1 k]; simp) hne
        · exact k
      have hs : spot = none := by simpa [Addr.add] using World.cell?_spot (hcell 0 h0)
      rw [hs]
    · intro i hi
      rw [hlen] at hi
      have hi' : i < zs.length := by omega
      have hs : spot = none := by simpa [Addr.add] using World.cell?_spot (hcell 0 (by omega))
      have hc := hcell i hi'
      subst hs
      rw [Addr.add_lit] at hc
      rw [hc]
      simp [List.getD, hi']
    · intro x hx
      exact range_64 (hwz x (List.mem_of_mem_take hx))
    · rw [hlen]
      simp only [DataW.weights, Tryz.underlying53, bytesI64, List.all_cons, Bool.and_eq_true, decide_eq_true_eq, lits, List.length_map, List.length_take, List.length_drop] at hw
      have := hw.1
      unfold reachBytes at this
      omega
set_option maxRecDepth 100000 in
theorem open_two {W : World} {base : Nat} {v : Value} {d : DataW H} {p : List MemPlace} (hv : Value.okWide Tryz.prog W .any base 48 v) (h : DataW.Trod enc Tryz.prog W 0 (fun _ => true) true 48 v d p)
    (hw : (d.weights Tryz.prog 48).all (· ≤ reachBytes) = true) : ∃ L, RS (RI W) W v L ∧ L.length ≤ maxLen := by
  obtain ⟨a0, len, cap, rfl⟩ := okWide_slice Tryz.underlying48 hv
  obtain ⟨fuel, hf⟩ := h
  have hf' : DataW.trod enc Tryz.prog W 0 (fun _ => true) true fuel 48 [.slice a0 len cap] = some (d, p) := by simpa [Value.cells] using hf
  obtain ⟨G, k1, k2, k3⟩ := open_any (R := RI W) (Q := fun _ => True) Tryz.underlying48 cellsLI open_inner hf' hw
  exact ⟨G, k1, k3⟩
end
end Go.Proofs.YtpllckgpolhafaaGreatDoor
