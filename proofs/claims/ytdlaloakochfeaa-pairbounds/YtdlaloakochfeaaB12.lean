/- LISTS OF LISTS OF LISTS in memory; which may be recorded. Own work of the verifier. -/
import Derived.Test.YtdlaloakochfeaaB11
namespace Go.Proofs.Ytdlaloakochfeaa
open Go.RowKit Soft

def RU (W : World) (v : Value) (L : List Nat) : Prop := ∃ ao b o cap, v = .slice ao L.length cap ∧ (L ≠ [] → ao = some ⟨b, o, none⟩) ∧ RowU W b o L ∧ (∀ x ∈ L, x < 18446744073709551616)
def RS {α : Type} (R : Value → α → Prop) (W : World) (v : Value) (xs : List α) : Prop := ∃ ao b o cap, v = .slice ao xs.length cap ∧ (xs ≠ [] → ao = some ⟨b, o, none⟩) ∧ ∀ i (h : i < xs.length), ∃ u, W.cell? ⟨b, o + i, none⟩ = some u ∧ R u xs[i]
def R2 (W : World) (v : Value) (g : List (List Nat)) : Prop := RS (RU W) W v g
def R3 (W : World) (v : Value) (G : List (List (List Nat))) : Prop := RS (R2 W) W v G
theorem RU.below {W W1 : World} {v : Value} {L : List Nat} (h : RU W v L) (hb : Below W.heap.size W W1) : RU W1 v L := by
  obtain ⟨ao, b, o, cap, h1, h2, h3, h4⟩ := h
  exact ⟨ao, b, o, cap, h1, h2, h3.below hb (fun k => h3.lt k), h4⟩
theorem RS.below {α : Type} {R R' : Value → α → Prop} {W W1 : World} {v : Value} {xs : List α} (h : RS R W v xs) (hb : Below W.heap.size W W1) (hR : ∀ u x, R u x → R' u x) : RS R' W1 v xs := by
  obtain ⟨ao, b, o, cap, h1, h2, h3⟩ := h
  refine ⟨ao, b, o, cap, h1, h2, fun i hi => ?_⟩
  obtain ⟨u, k1, k2⟩ := h3 i hi
  exact ⟨u, by rw [hb.cell (p := ⟨b, o + i, none⟩) (lt_of_cell k1)]; exact k1, hR _ _ k2⟩
theorem R2.below {W W1 : World} {v : Value} {g : List (List Nat)} (h : R2 W v g) (hb : Below W.heap.size W W1) : R2 W1 v g := RS.below h hb (fun _ _ k => k.below hb)
theorem R3.below {W W1 : World} {v : Value} {G : List (List (List Nat))} (h : R3 W v G) (hb : Below W.heap.size W W1) : R3 W1 v G := RS.below h hb (fun _ _ k => Go.Proofs.Ytdlaloakochfeaa.R2.below k hb)
/-- May it be recorded? -/
def mayN (x : Nat) : Prop := x % 9223372036854775808 ≤ 8930638061075693568
theorem may_fin {x : Nat} (hx : x < 18446744073709551616) (h : mayN x) : Soft.Fin x := ⟨hx, by unfold mayN at h; omega⟩
theorem may_abs {x : Nat} (hx : x < 18446744073709551616) (h : mayN x) : (vw x).natAbs ≤ uV 8930638061075693568 := by
  unfold mayN at h
  rw [abs_pn]
  unfold pv nv
  by_cases c : x < 9223372036854775808
  · rw [if_pos c, if_pos c, Nat.add_zero]
    exact uV_le (by omega)
  · rw [if_neg c, if_neg c, Nat.zero_add]
    exact uV_le (by omega)
set_option maxHeartbeats 4000000 in
theorem may_groups (v : Value) (G : List (List (List Nat))) (w : World) (h : R3 w v G) (hl : G.length ≤ 9223372036854775807) (hl2 : ∀ g ∈ G, g.length ≤ 9223372036854775807) (hl3 : ∀ g ∈ G, ∀ l ∈ g, l.length ≤ 9223372036854775807) :
    Calls Try.prog 5 #[v] w fun e w' => (∃ n, w' = w.drewN n) ∧ ((e = .returned (.bool true) ∧ ∀ g ∈ G, ∀ l ∈ g, ∀ x ∈ l, mayN x) ∨ (e = .returned (.bool false))) := by
  unfold R3 RS at h
  obtain ⟨ao, b, o, cap, rfl, hao, hrow⟩ := h
  go_enter Try.func5, Try.ntmps5
  go_wp2_with fail
  go_loopw [3] (fun a wr => ∃ i n : Nat, i ≤ G.length ∧ a = .int .i64 (i : Int) ∧ wr = w.drewN n ∧ Hid (∀ t (ht : t < G.length), t < i → ∀ l ∈ G[t], ∀ x ∈ l, mayN x)) (fun a _ => G.length - (intOf a).toNat)
  case atStart => exact ⟨0, 0, by omega, rfl, rfl, fun t ht k => by omega⟩
  case round =>
    obtain ⟨i, n, hi, rfl, rfl, hz⟩ := hrel
    by_cases hlt : i < G.length
    · obtain rfl := hao (by intro e; rw [e] at hlt; simp at hlt)
      obtain ⟨u, q1, hu⟩ := hrow i hlt
      unfold R2 RS at hu
      obtain ⟨ao2, b2, o2, cap2, rfl, hao2, hrow2⟩ := hu
      have hlt' : (i : Int) < (G.length : Int) := by omega
      have HG : Hid (∃ g, g = G[i]) := ⟨_, rfl⟩
      obtain ⟨g, hg⟩ := HG.out
      have Hg : Hid (g = G[i]) := hg
      rw [← hg] at q1 hao2 hrow2
      clear hg HG hrow
      have hgl : g.length ≤ 9223372036854775807 := by have := hl2 g (by rw [Hg.out]; exact List.getElem_mem hlt); exact this
      go_wp2_with fail
      go_loopw [4] (fun a wr => ∃ k n : Nat, k ≤ g.length ∧ a = .int .i64 (k : Int) ∧ wr = w.drewN n ∧ Hid (∀ t (ht : t < g.length), t < k → ∀ x ∈ g[t], mayN x)) (fun a _ => g.length - (intOf a).toNat)
      case atStart => exact ⟨0, n, by omega, rfl, rfl, fun t ht k => by omega⟩
      case round =>
        obtain ⟨k, n2, hk, rfl, rfl, hzk⟩ := hrel
        by_cases hlk : k < g.length
        · obtain rfl := hao2 (by intro e; rw [e] at hlk; simp at hlk)
          obtain ⟨u2, q2, hu2⟩ := hrow2 k hlk
          unfold RU at hu2
          obtain ⟨ao3, b3, o3, cap3, rfl, hao3, hrow3, hsm⟩ := hu2
          have hlk' : (k : Int) < (g.length : Int) := by omega
          have HL : Hid (∃ L, L = g[k]) := ⟨_, rfl⟩
          obtain ⟨L, hL⟩ := HL.out
          have HL2 : Hid (L = g[k]) := hL
          rw [← hL] at q2 hao3 hrow3 hsm
          clear hL HL hrow2
          have hLl : L.length ≤ 9223372036854775807 := by have := hl3 g (by rw [Hg.out]; exact List.getElem_mem hlt) L (by rw [HL2.out]; exact List.getElem_mem hlk); exact this
          go_wp2_with fail
          go_loopw [5] (fun a wr => ∃ j n : Nat, j ≤ L.length ∧ a = .int .i64 (j : Int) ∧ wr = w.drewN n ∧ Hid (∀ t (ht : t < L.length), t < j → mayN L[t])) (fun a _ => L.length - (intOf a).toNat)
          case atStart => exact ⟨0, n2, by omega, rfl, rfl, fun t ht k => by omega⟩
          case round =>
            obtain ⟨j, n3, hj, rfl, rfl, hzj⟩ := hrel
            by_cases hlj : j < L.length
            · obtain rfl := hao3 (by intro e; rw [e] at hlj; simp at hlj)
              have q3 := hrow3 j hlj
              have hx := hsm L[j] (List.getElem_mem hlj)
              have hlj' : (j : Int) < (L.length : Int) := by omega
              have HX : Hid (∃ x, x = L[j]) := ⟨_, rfl⟩
              obtain ⟨x, hx2⟩ := HX.out
              have Hx : Hid (x = L[j]) := hx2
              rw [← hx2] at q3 hx
              clear hx2 HX hrow3
              have HM : Hid (∀ w, _) := fun w => may_any x hx w
              by_cases hm : x % 9223372036854775808 ≤ 8930638061075693568
              · have hm' : decide (x % 9223372036854775808 ≤ 8930638061075693568) = true := decide_eq_true hm
                have HMx : Hid (mayN x) := hm
                go_wp2_with (go_at_call 15; with_reducible refine (HM.out _).mono ?_; rintro e w' ⟨rfl, rfl⟩)
                have hzj2 : Hid (∀ t (ht : t < L.length), t < j + 1 → mayN L[t]) := by
                  intro t ht htj
                  rcases Nat.lt_or_ge t j with c | c
                  · exact hzj.out t ht c
                  · obtain rfl : t = j := by omega
                    rw [← Hx.out]; exact HMx.out
                exact ⟨⟨j + 1, n3, by omega, by go_num, rfl, hzj2⟩, by simp [intOf]; omega⟩
              · have hm' : decide (x % 9223372036854775808 ≤ 8930638061075693568) = false := decide_eq_false hm
                go_wp2_with (go_at_call 15; with_reducible refine (HM.out _).mono ?_; rintro e w' ⟨rfl, rfl⟩)
                go_ret
                exact ⟨⟨n3, rfl⟩, .inr rfl⟩
            · have hlj' : ¬ (j : Int) < (L.length : Int) := by omega
              have hzk2 : Hid (∀ t (ht : t < g.length), t < k + 1 → ∀ x ∈ g[t], mayN x) := by
                intro t ht htk
                rcases Nat.lt_or_ge t k with c | c
                · exact hzk.out t ht c
                · obtain rfl : t = k := by omega
                  intro x hx
                  rw [← HL2.out] at hx
                  obtain ⟨t2, ht2, rfl⟩ := List.getElem_of_mem hx
                  exact hzj.out t2 ht2 (by omega)
              go_wp2_with fail
              go_round
              case rel => exact ⟨k + 1, _, by omega, by go_num, rfl, hzk2⟩
              case measure => simp [intOf]; omega
        · have hlk' : ¬ (k : Int) < (g.length : Int) := by omega
          have hz2 : Hid (∀ t (ht : t < G.length), t < i + 1 → ∀ l ∈ G[t], ∀ x ∈ l, mayN x) := by
            intro t ht hti
            rcases Nat.lt_or_ge t i with c | c
            · exact hz.out t ht c
            · obtain rfl : t = i := by omega
              intro l hl
              rw [← Hg.out] at hl
              obtain ⟨t2, ht2, rfl⟩ := List.getElem_of_mem hl
              exact hzk.out t2 ht2 (by omega)
          go_wp2_with fail
          go_round
          case rel => exact ⟨i + 1, _, by omega, by go_num, rfl, hz2⟩
          case measure => simp [intOf]; omega
    · have hlt' : ¬ (i : Int) < (G.length : Int) := by omega
      have hall : ∀ g ∈ G, ∀ l ∈ g, ∀ x ∈ l, mayN x := by
        intro g hg
        obtain ⟨t, ht, rfl⟩ := List.getElem_of_mem hg
        exact hz.out t ht (by omega)
      go_wp2_with fail
      go_ret
      exact ⟨⟨n, rfl⟩, .inl ⟨rfl, hall⟩⟩
end Go.Proofs.Ytdlaloakochfeaa
