/- PairBounds: THE WALK. Own work of the verifier. -/
import Derived.Test.YtdlaloakochfeaaB15
namespace Go.Proofs.Ytdlaloakochfeaa
open Go.RowKit Soft

theorem big_nil (w : World) : BigAt w (.slice none 0 0) 0 := ⟨none, 0, 0, 0, [], rfl, ⟨fun k => absurd rfl k, by decide, by decide, (fun x hx => by cases hx), (fun i hi => by simp at hi)⟩, rfl, (fun h => absurd rfl h)⟩
/-- All words of all lists. -/
def Wd (G : List (List (List Nat))) : Prop := ∀ g ∈ G, ∀ l ∈ g, ∀ x ∈ l, x < 18446744073709551616
/- BEGUN: the walk stands, behind these arms, at the outer loop (and at two returns, which hb8 closes).
set_option maxHeartbeats 4000000 in
theorem bounds_walk (v : Value) (G : List (List (List Nat))) (w : World) (h : R3 w v G) (hl : G.length ≤ 9223372036854775807) (hl2 : ∀ g ∈ G, g.length ≤ 9223372036854775807) (hl3 : ∀ g ∈ G, ∀ l ∈ g, l.length * 8 ≤ 140737488355328) :
    Calls Try.prog 3 #[v] w fun e w' => e = .returned (.bool true) ∧ Below w.heap.size w w' := by
  have hl4 : ∀ g ∈ G, ∀ l ∈ g, l.length ≤ 9223372036854775807 := fun g hg l hl => by have := hl3 g hg l hl; omega
  have HBy : Hid (∀ W, R3 W v G → _) := fun W k => beyond_groups v G W k hl hl2 hl4
  have HMy : Hid (∀ W, R3 W v G → _) := fun W k => may_groups v G W k hl hl2 hl4
  have HF : Hid (∀ W, _) := fun W => fixed_any W
  go_enter Try.func3, Try.ntmps3
  go_wp2_with (first
    | (go_at_call 4; with_reducible refine (HBy.out _ h).mono ?_; rintro e w1 ⟨⟨n1, rfl⟩, ⟨rfl, hcnt⟩ | rfl⟩)
    | (go_at_call 5; with_reducible refine (HMy.out _ (h.below (below_drew _ _))).mono ?_; rintro e w2 ⟨⟨n2, rfl⟩, ⟨rfl, hmay⟩ | rfl⟩; rw [World.drewN_drewN])
    | (go_at_call 6; with_reducible refine (HF.out _).mono ?_; rintro e w8 ⟨rfl, hb8⟩))
  all_goals trace_state
  all_goals sorry
-/
end Go.Proofs.Ytdlaloakochfeaa
