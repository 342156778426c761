/- HOW MANY THEY ARE. Own work of the verifier. -/
import Derived.Test.YtdlaloakochfeaaB12
namespace Go.Proofs.Ytdlaloakochfeaa
open Go.RowKit Soft

def cg : List (List Nat) → Nat
  | [] => 0
  | l :: g => 1 + l.length + cg g
def cG : List (List (List Nat)) → Nat
  | [] => 0
  | g :: G => 1 + cg g + cG G
theorem cg_take (g : List (List Nat)) (k : Nat) (h : k < g.length) : cg (g.take (k + 1)) = cg (g.take k) + (1 + g[k].length) := by
  induction g generalizing k with
  | nil => simp at h
  | cons l g ih =>
    cases k with
    | zero => simp [cg]
    | succ k =>
      have := ih k (by simpa using h)
      simp only [List.take_succ_cons, cg, List.getElem_cons_succ]
      omega
theorem cG_take (G : List (List (List Nat))) (i : Nat) (h : i < G.length) : cG (G.take (i + 1)) = cG (G.take i) + (1 + cg G[i]) := by
  induction G generalizing i with
  | nil => simp at h
  | cons l g ih =>
    cases i with
    | zero => simp [cG]
    | succ k =>
      have := ih k (by simpa using h)
      simp only [List.take_succ_cons, cG, List.getElem_cons_succ]
      omega
theorem cg_mono (g : List (List Nat)) (k : Nat) : cg (g.take k) ≤ cg g := by
  induction g generalizing k with
  | nil => simp [cg]
  | cons l g ih =>
    cases k with
    | zero => simp [cg]
    | succ k => have := ih k; simp only [List.take_succ_cons, cg]; omega
set_option maxHeartbeats 4000000 in
theorem beyond_groups (v : Value) (G : List (List (List Nat))) (w : World) (h : R3 w v G) (hl : G.length ≤ 9223372036854775807) (hl2 : ∀ g ∈ G, g.length ≤ 9223372036854775807) (hl3 : ∀ g ∈ G, ∀ l ∈ g, l.length ≤ 9223372036854775807) :
    Calls Try.prog 4 #[v] w fun e w' => (∃ n, w' = w.drewN n) ∧ ((e = .returned (.bool false) ∧ cG G ≤ 2147483647) ∨ e = .returned (.bool true)) := by
  unfold R3 RS at h
  obtain ⟨ao, b, o, cap, rfl, hao, hrow⟩ := h
  go_enter Try.func4, Try.ntmps4
  go_wp2_with fail
  go_loopw [3, 4] (fun c a wr => ∃ (i n : Nat) (z : Int), i ≤ G.length ∧ c = .int .i64 z ∧ a = .int .i64 (i : Int) ∧ wr = w.drewN n ∧ -9223372036854775808 ≤ z ∧ z ≤ 2147483647 ∧ Hid (0 ≤ z → (cG (G.take i) : Int) = 2147483647 - z)) (fun _ a _ => G.length - (intOf a).toNat)
  case atStart => exact ⟨0, 0, 2147483647, by omega, rfl, rfl, rfl, by omega, by omega, fun _ => by simp [cG]⟩
  case round =>
    obtain ⟨i, n, z, hi, rfl, rfl, rfl, hz1, hz2, hz⟩ := hrel
    by_cases hz0 : 0 ≤ z
    · by_cases hlt : i < G.length
      · obtain rfl := hao (by intro e; rw [e] at hlt; simp at hlt)
        obtain ⟨u, q1, hu⟩ := hrow i hlt
        unfold R2 RS at hu
        obtain ⟨ao2, b2, o2, cap2, rfl, hao2, hrow2⟩ := hu
        have hlt' : (i : Int) < (G.length : Int) := by omega
        have HG : Hid (∃ g, g = G[i]) := ⟨_, rfl⟩
        obtain ⟨g, hg⟩ := HG.out
        have Hg : Hid (g = G[i]) := hg
        rw [← hg] at q1 hao2 hrow2
        clear hg HG hrow
        have hgl : g.length ≤ 9223372036854775807 := by have := hl2 g (by rw [Hg.out]; exact List.getElem_mem hlt); exact this
        go_wp2_with fail
        go_loopw [3, 5] (fun c a wr => ∃ (k n : Nat) (y : Int), k ≤ g.length ∧ c = .int .i64 y ∧ a = .int .i64 (k : Int) ∧ wr = w.drewN n ∧ -9223372036854775808 ≤ y ∧ y ≤ 2147483647 ∧ Hid (0 ≤ y → (cG (G.take i) : Int) + 1 + (cg (g.take k) : Int) = 2147483647 - y)) (fun _ a _ => g.length - (intOf a).toNat)
        case atStart => exact ⟨0, n, z - 1, by omega, rfl, rfl, rfl, by omega, by omega, fun _ => by have := hz.out hz0; simp [cg]; omega⟩
        case round =>
          obtain ⟨k, n2, y, hk, rfl, rfl, rfl, hy1, hy2, hy⟩ := hrel
          by_cases hlk : k < g.length
          · by_cases hy0 : 0 ≤ y
            · obtain rfl := hao2 (by intro e; rw [e] at hlk; simp at hlk)
              obtain ⟨u2, q2, hu2⟩ := hrow2 k hlk
              unfold RU at hu2
              obtain ⟨ao3, b3, o3, cap3, rfl, hao3, hrow3, hsm⟩ := hu2
              have hlk' : (k : Int) < (g.length : Int) := by omega
              have HL : Hid (∃ m, m = g[k].length) := ⟨_, rfl⟩
              obtain ⟨m, hm⟩ := HL.out
              have Hm : Hid (m = g[k].length) := hm
              rw [← hm] at q2
              clear hm HL hrow2 hao3 hrow3 hsm
              have hml : m ≤ 9223372036854775807 := by have := hl3 g (by rw [Hg.out]; exact List.getElem_mem hlt) g[k] (List.getElem_mem hlk); rw [Hm.out]; exact this
              have hy3 : Hid (0 ≤ y - (1 + (m : Int)) → (cG (G.take i) : Int) + 1 + (cg (g.take (k + 1)) : Int) = 2147483647 - (y - (1 + (m : Int)))) := by
                intro h5
                have e1 := hy.out hy0
                rw [cg_take g k hlk, ← Hm.out]
                omega
              by_cases hmm : m < 9223372036854775807
              · go_wp2_with fail
                exact ⟨⟨k + 1, n2, _, by omega, rfl, by go_num, rfl, by omega, by omega, hy3⟩, by simp [intOf]; omega⟩
              · obtain rfl : m = 9223372036854775807 := by omega
                go_wp2_with fail
                have hw : wrap64 (y - wrap64 9223372036854775808) = y - (1 + ((9223372036854775807 : Nat) : Int)) := by unfold wrap64; omega
                rw [hw]
                exact ⟨⟨k + 1, n2, _, by omega, rfl, by go_num, rfl, by omega, by omega, hy3⟩, by simp [intOf]; omega⟩
            · have hy0' : decide ((0 : Int) ≤ y) = false := decide_eq_false hy0
              have hlk' : (k : Int) < (g.length : Int) := by omega
              go_wp2_with fail
              exact ⟨⟨i + 1, n2, y, by omega, rfl, by go_num, rfl, by omega, by omega, fun h5 => absurd h5 hy0⟩, by simp [intOf]; omega⟩
          · have hlk' : decide ((k : Int) < (g.length : Int)) = false := decide_eq_false (by omega)
            have hy4 : Hid (0 ≤ y → (cG (G.take (i + 1)) : Int) = 2147483647 - y) := by
              intro h5
              have e1 := hy.out h5
              have e5 : g.take k = g := List.take_of_length_le (by omega)
              rw [e5] at e1
              rw [cG_take G i hlt, ← Hg.out]
              omega
            go_wp2_with fail
            exact ⟨⟨i + 1, n2, y, by omega, rfl, by go_num, rfl, by omega, by omega, hy4⟩, by simp [intOf]; omega⟩
      · have hlt' : decide ((i : Int) < (G.length : Int)) = false := decide_eq_false (by omega)
        have hz6 : decide (z < 0) = false := decide_eq_false (by omega)
        have hc : cG G ≤ 2147483647 := by
          have := hz.out hz0
          rw [List.take_of_length_le (by omega)] at this
          omega
        go_wp2_with fail
        go_ret
        exact ⟨⟨n, rfl⟩, .inl ⟨rfl, hc⟩⟩
    · have hz0' : decide ((0 : Int) ≤ z) = false := decide_eq_false hz0
      have hz5 : decide (z < 0) = true := decide_eq_true (by omega)
      by_cases hlt : i < G.length
      · have hlt' : (i : Int) < (G.length : Int) := by omega
        go_wp2_with fail
        go_ret
        exact ⟨⟨n, rfl⟩, .inr rfl⟩
      · have hlt' : decide ((i : Int) < (G.length : Int)) = false := decide_eq_false (by omega)
        go_wp2_with fail
        go_ret
        exact ⟨⟨n, rfl⟩, .inr rfl⟩
end Go.Proofs.Ytdlaloakochfeaa
