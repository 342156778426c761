/- sorted, the document's. Own work of the verifier. -/
import Derived.Test.YtgkdggcpplmnaaaGreatZAB
import Derived.Laws.OwnMore
namespace Go.Proofs.YtgkdggcpplmnaaaGreat
open Go.RowKit

theorem own_nil (w : World) (B : Nat) : w.ownsRow B 124 2 (.slice none 0 0) 0 [] := ⟨rfl, Or.inl ⟨rfl, rfl⟩⟩
theorem RowC.take {w : World} {b o : Nat} {L : List Cn} (h : RowC w b o L) (k : Nat) : RowC w b o (L.take k) := fun i hi => by
  rw [List.length_take] at hi
  rw [List.getElem_take]
  exact h i (by omega)
theorem RowC.drop {w : World} {b o : Nat} {L : List Cn} (h : RowC w b o L) (k : Nat) : RowC w b (o + k * 2) (L.drop k) := fun i hi => by
  rw [List.length_drop] at hi
  rw [List.getElem_drop]
  have := h (k + i) (by omega)
  rw [show o + (k + i) * 2 = o + k * 2 + i * 2 by omega] at this
  exact this
/-- The length of a slice. -/
def slen : Value → Nat
  | .slice _ n _ => n
  | _ => 0
theorem cell_two_new (w : World) (x y : Value) (t : TypeId) : ∀ j u, [x, y][j]? = some u → (w.alloc (.cells #[x, y] t)).cell? ((⟨w.heap.size, 0, none⟩ : Addr).add j) = some u := by
  intro j u hu
  rw [Addr.add_lit]
  unfold World.cell?
  have hh : (w.alloc (.cells #[x, y] t)).heap[w.heap.size]? = some (.cells #[x, y] t) := by
    show (w.heap.push _)[w.heap.size]? = _
    simp
  rw [hh]
  match j, hu with
  | 0, hu => simpa using hu
  | 1, hu => simpa using hu
  | j + 2, hu => simp at hu
theorem two_one (x : Int) (y : Nat) : ∀ u ∈ [Value.int .i64 x, Value.int .u64 (y : Int)], u.oneCell' = true := by
  intro u hu
  simp at hu
  rcases hu with rfl | rfl <;> rfl
theorem GC.grow {B : Nat} {W0 w w1 w' : World} {v v' : Value} {xs ys : List Cn} (h : GC B W0 v xs w) (hb : Below B W0 w1) (hs : B ≤ w1.heap.size) (hown : w'.ownsRow B 124 2 v' (xs.length + ys.length) (fl xs ++ fl ys)) (hg : w1.grownBy w' v.ownBlock) : GC B W0 v' (xs ++ ys) w' := by
  refine ⟨by rw [List.length_append, fl_append]; exact hown, ?_, by have := hg.size; omega⟩
  refine hb.grown hg hs (fun k e => ?_)
  rcases h.own.2 with ⟨rfl, _⟩ | ⟨g, cap, cur, rfl, hB, _⟩
  · cases e
  · cases e; exact hB
theorem GC.push {B : Nat} {W0 w w' : World} {v v' : Value} {xs : List Cn} (h : GC B W0 v xs w) (x : Cn) (ob : Obj) (hown : w'.ownsRow B 124 2 v' (xs.length + 1) (fl xs ++ [.int .i64 x.1, .int .u64 (x.2 : Int)])) (hg : (w.alloc ob).grownBy w' v.ownBlock) : GC B W0 v' (xs ++ [x]) w' :=
  h.grow (ys := [x]) (h.below.alloc h.size _) (by simp; have := h.size; omega) hown hg
theorem GC.rebase {W0 W2 w : World} {v : Value} {xs : List Cn} (h : GC W2.heap.size W2 v xs w) (hb : Below W0.heap.size W0 W2) : GC W0.heap.size W0 v xs w := by
  have hs := hb.size
  refine ⟨⟨h.own.1, ?_⟩, hb.trans (h.below.mono hs), by have := h.size; omega⟩
  rcases h.own.2 with k | ⟨g, cap, cur, hv, hB, hrest⟩
  · exact Or.inl k
  · exact Or.inr ⟨g, cap, cur, hv, by omega, hrest⟩
end Go.Proofs.YtgkdggcpplmnaaaGreat
/- Merge, the document's. Own work of the verifier. -/
namespace Go.Proofs.YtgkdggcpplmnaaaGreat
open Go.RowKit

/-- What Merge tells. -/
def Md (W : World) (L : List Cn) (e : Ending) (w' : World) : Prop := ∃ v' O, e = .returned v' ∧ IsMerge O L ∧ GC W.heap.size W v' O w'
theorem key_cut {S : List Cn} {i : Nat} {x : Int} (hc : Cut S i) (hi : i < S.length) (hx : x = S[i].1) : key (S.take i) x % 18446744073709551616 = 0 := by
  rw [key_none fun c hcm => ?_]
  have := hc c hcm (S[i]) (by rw [List.drop_eq_getElem_cons hi]; exact List.mem_cons_self)
  omega
end Go.Proofs.YtgkdggcpplmnaaaGreat
/- Merge, the document's, where a list is none. Own work of the verifier. -/
namespace Go.Proofs.YtgkdggcpplmnaaaGreat
open Go.RowKit

theorem gc_form2 {B : Nat} {W0 w : World} {v : Value} {xs : List Cn} (h : GC B W0 v xs w) : (v = .slice none 0 0 ∧ xs = []) ∨ ∃ g cap, v = .slice (some ⟨g, 0, none⟩) xs.length cap ∧ xs.length ≤ cap := by
  rcases h.own.2 with ⟨k, k2⟩ | ⟨g, cap, cur, hv, _, _, hc, _⟩
  · exact Or.inl ⟨k, List.length_eq_zero_iff.1 k2⟩
  · exact Or.inr ⟨g, cap, hv, hc⟩
end Go.Proofs.YtgkdggcpplmnaaaGreat
/- COUNTED, the law's own. Own work of the verifier. -/
namespace Go.Proofs.YtgkdggcpplmnaaaGreat
open Go.RowKit

theorem rise_few : ∀ (O : List Cn) (a : Nat), Rise O → (∀ c ∈ O, (a : Int) ≤ c.1 ∧ c.1 < 819200) → a ≤ 819200 → O.length + a ≤ 819200
  | [], a, _, _, ha => by simpa using ha
  | c :: O, a, hr, hb, _ => by
    obtain ⟨h1, h2⟩ := List.pairwise_cons.1 hr
    have hc := hb c (by simp)
    have := rise_few O (c.1.toNat + 1) h2 (fun d hd => by have := h1 d hd; have := hb d (by simp [hd]); omega) (by omega)
    simp only [List.length_cons]
    omega
end Go.Proofs.YtgkdggcpplmnaaaGreat
/- THE WALK OF THE QUANTILES' LAW, for whatever keeps the document's answers. Own work of the verifier. -/
namespace Go.Proofs.YtgkdggcpplmnaaaGreat
open Go.RowKit

/-- A row of counts behind an address. -/
def RowA (w : World) (a : Addr) (L : List Cn) : Prop := ∀ j u, (fl L)[j]? = some u → w.cell? (a.add j) = some u
theorem RowA.below {w w1 : World} {a : Addr} {L : List Cn} (h : RowA w a L) (hb : Below w.heap.size w w1) : RowA w1 a L := fun j u hu => (hb.cell (lt_of_cell (h j u hu))).trans (h j u hu)
theorem RowA.nil (w : World) (a : Addr) : RowA w a [] := fun j u hu => by simp [fl] at hu
theorem RowA.row {w : World} {a : Addr} {L : List Cn} (h : RowA w a L) (hne : L ≠ []) : ∃ b o, a = ⟨b, o, none⟩ ∧ RowC w b o L := by
  have h0 : 0 < L.length := List.length_pos_iff.2 hne
  obtain ⟨b, o, s⟩ := a
  have hs : s = none := by
    have := World.cell?_spot (h (0 * 2) _ (fl_get L 0 h0).1)
    simpa [Addr.add] using this
  subst hs
  refine ⟨b, o, rfl, fun i hi => ?_⟩
  obtain ⟨g1, g2⟩ := fl_get L i hi
  have r1 := h _ _ g1
  have r2 := h _ _ g2
  rw [Addr.add_lit] at r1 r2
  exact ⟨r1, by rw [← Nat.add_assoc] at r2; exact r2⟩
/-- A slice of counts, as it is handed in. -/
def SN (w : World) (v : Value) (L : List Cn) : Prop := (v = .slice none 0 0 ∧ L = []) ∨ ∃ a cap, v = .slice (some a) L.length cap ∧ L.length ≤ cap ∧ RowA w a L
theorem SN.sc2 {w : World} {v : Value} {L : List Cn} (h : SN w v L) : ∃ ao b o cap, v = .slice ao L.length cap ∧ (L ≠ [] → ao = some ⟨b, o, none⟩) ∧ RowC w b o L ∧ L.length ≤ cap := by
  rcases h with ⟨rfl, rfl⟩ | ⟨a, cap, rfl, hc, hr⟩
  · exact ⟨none, 0, 0, 0, rfl, fun k => absurd rfl k, (fun i hi => by simp at hi), Nat.zero_le _⟩
  · by_cases hne : L = []
    · subst hne
      exact ⟨some a, 0, 0, cap, rfl, fun k => absurd rfl k, (fun i hi => by simp at hi), hc⟩
    · obtain ⟨b, o, e, hr2⟩ := hr.row hne
      exact ⟨_, b, o, cap, rfl, fun _ => by rw [e], hr2, hc⟩
theorem SN.sc {w : World} {v : Value} {L : List Cn} (h : SN w v L) : SC w v L := by
  obtain ⟨ao, b, o, cap, h1, h2, h3, _⟩ := h.sc2
  exact ⟨ao, b, o, cap, h1, h2, h3⟩
theorem SN.below {w w1 : World} {v : Value} {L : List Cn} (h : SN w v L) (hb : Below w.heap.size w w1) : SN w1 v L := by
  rcases h with h | ⟨a, cap, h1, h2, hr⟩
  · exact Or.inl h
  · exact Or.inr ⟨a, cap, h1, h2, hr.below hb⟩
theorem GC.sn {B : Nat} {W0 w : World} {v : Value} {xs : List Cn} (h : GC B W0 v xs w) : SN w v xs := by
  rcases gc_form2 h with ⟨rfl, rfl⟩ | ⟨g, cap, rfl, hc⟩
  · exact Or.inl ⟨rfl, rfl⟩
  · obtain ⟨ao, b, o, c, hv, hao, hr⟩ := h.sc
    have hR : RowC w g 0 xs := fun i hi => by
      have hne : xs ≠ [] := fun e => by rw [e] at hi; simp at hi
      have := hao hne
      subst this
      cases hv
      exact hr i hi
    exact Or.inr ⟨⟨g, 0, none⟩, cap, rfl, hc, hR.cells⟩
end Go.Proofs.YtgkdggcpplmnaaaGreat
