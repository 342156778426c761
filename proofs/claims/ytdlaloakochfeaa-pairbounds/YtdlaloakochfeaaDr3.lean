/- THE DOOR for lists of lists of lists. Own work of the verifier. -/
import Derived.Test.YtdlaloakochfeaaDr
import Derived.Test.YtdlaloakochfeaaB12
import Derived.Deep.Slices
namespace Go.Proofs.Ytdlaloakochfeaa
open Go.ChangeShapes Go.WideShapes Go.ChangeAt Go.RowKit Go.Joins Soft

theorem weights_mem {H : Type} {P : Program} {e : TypeId} {p : Nat → Bool} : ∀ {l : List (DataW H)} {d : DataW H}, d ∈ l → (DataW.weightsAll P e l).all p = true → (d.weights P e).all p = true
  | [], _, h, _ => by cases h
  | x :: r, d, h, k => by
    simp only [DataW.weightsAll, List.all_append, Bool.and_eq_true] at k
    rcases List.mem_cons.1 h with rfl | h
    · exact k.1
    · exact weights_mem h k.2
section
variable {H : Type} {enc : TypeId × Value → H}
theorem open_any {α : Type} [Inhabited α] {R : Value → α → Prop} {Q : α → Prop} {t e : TypeId} {W : World} (ht : Try.prog.underlying t = some (.slice e)) (hc : Try.prog.cellsOf e = 1)
    (each : ∀ n v (d : DataW H) pl, DataW.trod enc Try.prog W 0 (fun _ => true) true n e [v] = some (d, pl) → (d.weights Try.prog e).all (· ≤ reachBytes) = true → ∃ x, R v x ∧ Q x) {fuel : Nat} {v : Value} {d : DataW H} {pl : List MemPlace}
    (h : DataW.trod enc Try.prog W 0 (fun _ => true) true fuel t [v] = some (d, pl)) (hw : (d.weights Try.prog t).all (· ≤ reachBytes) = true) : ∃ xs, RS R W v xs ∧ (∀ x ∈ xs, Q x) ∧ xs.length ≤ maxLen := by
  rcases Deep.open_slice1 ht hc h with ⟨hcs, hx⟩ | ⟨a, len, cap, m, n, V, D, Pl, hcs, hb, hl, hm, hmm, hx, hV⟩
  · obtain rfl := List.cons.inj hcs |>.1
    exact ⟨[], ⟨none, 0, 0, 0, rfl, fun k => absurd rfl k, fun i hi => by simp at hi⟩, (fun x hx => by cases hx), Nat.zero_le _⟩
  · obtain rfl := List.cons.inj hcs |>.1
    simp only [if_true] at hmm
    subst hmm
    obtain ⟨rfl, rfl⟩ := Prod.mk.inj hx
    simp only [DataW.weights, ht, List.all_cons, List.all_append, Bool.and_eq_true] at hw
    obtain ⟨f, hf⟩ := Deep.choose_lt (n := len) (p := fun i x => R (V i) x ∧ Q x) (fun i hi => each n (V i) (D i) (Pl i) (hV i (by omega)).2 (weights_mem (List.mem_map.2 ⟨i, List.mem_range.2 hi, rfl⟩) hw.2.1))
    have hlen : ((List.range len).map f).length = len := by simp
    obtain ⟨b, off, spot⟩ := a
    refine ⟨(List.range len).map f, ⟨some ⟨b, off, spot⟩, b, off, m, by rw [hlen], ?_, ?_⟩, ?_, by rw [hlen]; omega⟩
    · intro hne
      have h0 : 0 < len := by
        rcases Nat.eq_zero_or_pos len with k | k
        · exact absurd (by rw [k]; rfl) hne
        · exact k
      have hs : spot = none := by simpa [Addr.add] using World.cell?_spot (hV 0 (by omega)).1
      rw [hs]
    · intro i hi
      rw [hlen] at hi
      have hs : spot = none := by simpa [Addr.add] using World.cell?_spot (hV 0 (by omega)).1
      have hcl := (hV i (by omega)).1
      subst hs
      rw [Addr.add_lit] at hcl
      exact ⟨V i, hcl, by simpa using (hf i hi).1⟩
    · intro x hx
      obtain ⟨i, hi, rfl⟩ := List.mem_map.1 hx
      exact (hf i (List.mem_range.1 hi)).2
theorem cellsS : Try.prog.cellsOf 33 = 1 := by kernel_rfl
theorem cellsSS : Try.prog.cellsOf 32 = 1 := by kernel_rfl
theorem open_inner {W : World} (n : Nat) (v : Value) (d : DataW H) (pl : List MemPlace) (h : DataW.trod enc Try.prog W 0 (fun _ => true) true n 33 [v] = some (d, pl)) (hw : (d.weights Try.prog 33).all (· ≤ reachBytes) = true) :
    ∃ L, RU W v L ∧ L.length * 8 ≤ 140737488355328 := by
  have hv : ∃ a len cap, v = .slice a len cap := by
    rcases open_ints Try.underlying33 Try.underlying31 cellsU h with ⟨hcs, _⟩ | ⟨a, len', cap', zs, hcs, _⟩
    · exact ⟨_, _, _, List.cons.inj hcs |>.1⟩
    · exact ⟨_, _, _, List.cons.inj hcs |>.1⟩
  obtain ⟨a0, len, cap, rfl⟩ := hv
  rcases open_ints Try.underlying33 Try.underlying31 cellsU h with ⟨hcs, hx⟩ | ⟨a, len', cap', zs, hcs, _, hl, hm, hz, hx, hcell, hwz⟩
  · simp at hcs
    obtain ⟨rfl, rfl, rfl⟩ := hcs
    exact ⟨[], ⟨none, 0, 0, 0, rfl, fun k => absurd rfl k, (fun i hi => by simp at hi), (fun x hx => by cases hx)⟩, by decide⟩
  · simp at hcs
    obtain ⟨rfl, rfl, rfl⟩ := hcs
    simp only [Prod.mk.injEq] at hx
    obtain ⟨rfl, rfl⟩ := hx
    simp only [if_true] at hz
    have hlen : ((zs.take len).map Int.toNat).length = len := by simp; omega
    obtain ⟨b, off, spot⟩ := a
    refine ⟨(zs.take len).map Int.toNat, ⟨some ⟨b, off, spot⟩, b, off, cap, by rw [hlen], ?_, ?_, ?_⟩, ?_⟩
    · intro hne
      have h0 : 0 < zs.length := by
        rcases Nat.eq_zero_or_pos zs.length with k | k
        · exact absurd (by rw [List.length_eq_zero_iff.1 k]; simp) hne
        · exact k
      have hs : spot = none := by simpa [Addr.add] using World.cell?_spot (hcell 0 h0)
      rw [hs]
    · intro i hi
      rw [hlen] at hi
      have hi' : i < zs.length := by omega
      have hs : spot = none := by simpa [Addr.add] using World.cell?_spot (hcell 0 (by omega))
      have hc := hcell i hi'
      subst hs
      rw [Addr.add_lit] at hc
      rw [hc]
      obtain ⟨k, hk, _⟩ := nat_of_u64 (hwz _ (List.getElem_mem hi'))
      simp [List.getD, hi', hk]
    · intro x hx
      obtain ⟨z, hz1, rfl⟩ := List.mem_map.1 hx
      obtain ⟨k, rfl, hk⟩ := nat_of_u64 (hwz z (List.mem_of_mem_take hz1))
      simpa using hk
    · rw [hlen]
      simp only [DataW.weights, Try.underlying33, bytesU, List.all_cons, Bool.and_eq_true, decide_eq_true_eq, lits, List.length_map, List.length_take, List.length_drop] at hw
      have := hw.1
      unfold reachBytes at this
      omega
theorem open_three {W : World} {base : Nat} {v : Value} {d : DataW H} {p : List MemPlace} (hv : Value.okWide Try.prog W .any base 22 v) (h : DataW.Trod enc Try.prog W 0 (fun _ => true) true 22 v d p)
    (hw : (d.weights Try.prog 22).all (· ≤ reachBytes) = true) :
    ∃ G, R3 W v G ∧ (∀ g ∈ G, (∀ l ∈ g, l.length * 8 ≤ 140737488355328) ∧ g.length ≤ maxLen) ∧ G.length ≤ maxLen := by
  obtain ⟨a0, len, cap, rfl⟩ := okWide_slice Try.underlying22 hv
  obtain ⟨fuel, hf⟩ := h
  have hf' : DataW.trod enc Try.prog W 0 (fun _ => true) true fuel 22 [.slice a0 len cap] = some (d, p) := by simpa [Value.cells] using hf
  have e1 : ∀ n v (d : DataW H) pl, DataW.trod enc Try.prog W 0 (fun _ => true) true n 32 [v] = some (d, pl) → (d.weights Try.prog 32).all (· ≤ reachBytes) = true → ∃ g, R2 W v g ∧ ((∀ l ∈ g, l.length * 8 ≤ 140737488355328) ∧ g.length ≤ maxLen) := fun n v d pl h hw => by
    obtain ⟨xs, k1, k2, k3⟩ := open_any (R := RU W) (Q := fun l => l.length * 8 ≤ 140737488355328) Try.underlying32 cellsS open_inner h hw
    exact ⟨xs, k1, k2, k3⟩
  obtain ⟨G, k1, k2, k3⟩ := open_any (R := R2 W) (Q := fun g => (∀ l ∈ g, l.length * 8 ≤ 140737488355328) ∧ g.length ≤ maxLen) Try.underlying22 cellsSS e1 hf' hw
  exact ⟨G, k1, k2, k3⟩
end
end Go.Proofs.Ytdlaloakochfeaa
