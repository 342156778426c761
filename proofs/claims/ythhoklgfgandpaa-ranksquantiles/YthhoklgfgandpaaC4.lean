/- May, the document's. Own work of the verifier. -/
import Derived.Test.YthhoklgfgandpaaC3
namespace Go.Proofs.Ythhoklgfgandpaa
open Go.RowKit

/-- What is wrong with a count at its place; 0: nothing. -/
def bad (N : Nat) (L : List Cn) (i : Nat) : Int :=
  if (L.getD i (0, 1)).1 < 0 ∨ (N : Int) ≤ (L.getD i (0, 1)).1 then 2
  else if 0 < i ∧ (L.getD i (0, 1)).1 ≤ (L.getD (i - 1) (0, 1)).1 then 15
  else if (L.getD i (0, 1)).2 = 0 then 16 else 0
def sumN (L : List Cn) : Nat := (L.map (·.2)).sum
theorem sumN_take (L : List Cn) (i : Nat) (h : i < L.length) : sumN (L.take (i + 1)) = sumN (L.take i) + L[i].2 := by
  unfold sumN
  rw [List.take_succ_eq_append_getElem h, List.map_append, List.sum_append]
  simp
/-- The error of counts. -/
def MayIs (p : Int) (L : List Cn) (e : Int) : Prop :=
  (¬ (1 ≤ p ∧ p ≤ 14) ∧ e = 1) ∨ ((1 ≤ p ∧ p ≤ 14) ∧ ((∃ i, i < L.length ∧ (∀ j, j < i → bad ((64 - p.toNat) * 2 ^ p.toNat) L j = 0) ∧ bad ((64 - p.toNat) * 2 ^ p.toNat) L i ≠ 0 ∧ e = bad ((64 - p.toNat) * 2 ^ p.toNat) L i) ∨
    ((∀ j, j < L.length → bad ((64 - p.toNat) * 2 ^ p.toNat) L j = 0) ∧ e = if 9223372036854775807 < sumN L then 3 else 0)))
theorem MayIs.uniq {p : Int} {L : List Cn} {e f : Int} (h : MayIs p L e) (k : MayIs p L f) : e = f := by
  rcases h with ⟨h1, rfl⟩ | ⟨h1, h2⟩
  · rcases k with ⟨_, rfl⟩ | ⟨k1, _⟩
    · rfl
    · exact absurd k1 h1
  · rcases k with ⟨k1, _⟩ | ⟨_, k2⟩
    · exact absurd h1 k1
    · rcases h2 with ⟨i, a1, a2, a3, rfl⟩ | ⟨a1, rfl⟩ <;> rcases k2 with ⟨j, b1, b2, b3, rfl⟩ | ⟨b1, rfl⟩
      · rcases Nat.lt_trichotomy i j with c | c | c
        · exact absurd (b2 i c) a3
        · rw [c]
        · exact absurd (a2 j c) b3
      · exact absurd (b1 i a1) a3
      · exact absurd (a1 j b1) b3
      · rfl
theorem rmay_bad (v : Value) (p : Int) (L : List Cn) (hp : ¬ (1 ≤ p ∧ p ≤ 14)) (w : World) :
    Calls Try.prog 12 #[.int .i64 p, v] w fun e w' => (∃ x, e = .returned (.int .i64 x) ∧ MayIs p L x) ∧ ∃ n, w' = w.drewN n := by
  have HM : Hid (MayIs p L 1) := Or.inl ⟨hp, rfl⟩
  by_cases c : p < 1
  · clear hp
    go_enter Try.func12, Try.ntmps12
    go_wp2_with fail
    go_ret
    exact ⟨⟨1, rfl, HM.out⟩, 0, rfl⟩
  · have d : 14 < p := by omega
    clear hp
    go_enter Try.func12, Try.ntmps12
    go_wp2_with fail
    go_ret
    exact ⟨⟨1, rfl, HM.out⟩, 0, rfl⟩
set_option maxRecDepth 10000 in
set_option maxHeartbeats 2000000 in
theorem rmay_good (ao : Option Addr) (b o cap : Nat) (p : Nat) (h1 : 1 ≤ p) (h2 : p ≤ 14) (L : List Cn) (hao : L ≠ [] → ao = some ⟨b, o, none⟩) (hW : Wc L) (hl : L.length ≤ 9223372036854775807) (w : World) (hR : RowC w b o L) :
    Calls Try.prog 12 #[.int .i64 (p : Int), .slice ao L.length cap] w fun e w' => (∃ x, e = .returned (.int .i64 x) ∧ MayIs (p : Int) L x) ∧ ∃ n, w' = w.drewN n := by
  have HL : Hid (∀ W, _) := rlen_yes p h1 h2
  have c1 : ¬ (p : Int) < 1 := by omega
  have c2 : ¬ 14 < (p : Int) := by omega
  have HM : Hid (∀ e : Int, ((∃ i, i < L.length ∧ (∀ j, j < i → bad ((64 - p) * 2 ^ p) L j = 0) ∧ bad ((64 - p) * 2 ^ p) L i ≠ 0 ∧ e = bad ((64 - p) * 2 ^ p) L i) ∨ ((∀ j, j < L.length → bad ((64 - p) * 2 ^ p) L j = 0) ∧ e = if 9223372036854775807 < sumN L then 3 else 0)) → MayIs (p : Int) L e) := fun e h => Or.inr ⟨⟨by omega, by omega⟩, h⟩
  generalize (64 - p) * 2 ^ p = N at *
  go_enter Try.func12, Try.ntmps12
  go_wp2_with fail
  go_loopw [5, 6, 7] (fun a c d wr => ∃ (i n t : Nat) (m : Bool), i ≤ L.length ∧ t < 18446744073709551616 ∧ a = .int .u64 (t : Int) ∧ c = .bool m ∧ d = .int .i64 (i : Int) ∧ wr = w.drewN n ∧ Hid (∀ j, j < i → bad N L j = 0) ∧ Hid ((m = false ∧ t + sumN (L.take i) = 9223372036854775807) ∨ (m = true ∧ 9223372036854775807 < sumN (L.take i)))) (fun _ _ d _ => L.length - (intOf d).toNat)
  case atStart => exact ⟨0, 0, 9223372036854775807, false, by omega, by omega, rfl, rfl, rfl, rfl, fun j hj => by omega, Or.inl ⟨rfl, rfl⟩⟩
  case round =>
    obtain ⟨i, n, t, m, hi, ht, rfl, rfl, rfl, rfl, hB, hS⟩ := hrel
    by_cases hlt : i < L.length
    · have hlt' : (i : Int) < (L.length : Int) := by omega
      obtain rfl := hao (by intro e; rw [e] at hlt; simp at hlt)
      obtain ⟨q1, q2⟩ := hR i hlt
      have hg : L.getD i (0, 1) = L[i] := by simp [List.getD, hlt]
      have HT : Hid _ := sumN_take L i hlt
      have hy : L[i].2 < 18446744073709551616 := (hW _ (List.getElem_mem hlt)).2.2
      obtain ⟨x, y, hxy⟩ : ∃ x y, L[i] = (x, y) := ⟨_, _, rfl⟩
      have HBd : Hid (bad N L i = if x < 0 ∨ (N : Int) ≤ x then 2 else if 0 < i ∧ x ≤ (L.getD (i - 1) (0, 1)).1 then 15 else if y = 0 then 16 else 0) := by unfold Hid bad; rw [hg, hxy]
      rw [hxy] at q1 q2 HT hy
      clear hxy hg
      by_cases k1 : x < 0
      · have hret : Hid (MayIs (p : Int) L 2) := HM.out 2 (Or.inl ⟨i, hlt, hB.out, by rw [HBd.out, if_pos (Or.inl k1)]; decide, by rw [HBd.out, if_pos (Or.inl k1)]⟩)
        clear HBd hB hS HT
        go_wp2_with fail
        go_quiet (fail)
        go_wp2_with fail
        go_ret
        exact ⟨⟨2, rfl, hret.out⟩, n + nq, World.drewN_drewN _ _ _⟩
      · have d1 : decide (x < 0) = false := decide_eq_false k1
        by_cases k2 : (N : Int) ≤ x
        · have hret : Hid (MayIs (p : Int) L 2) := HM.out 2 (Or.inl ⟨i, hlt, hB.out, by rw [HBd.out, if_pos (Or.inr k2)]; decide, by rw [HBd.out, if_pos (Or.inr k2)]⟩)
          clear HBd hB hS HT
          go_wp2_with fail
          go_region_held3 (fun W => W.cell? ⟨b, o + i * 2, none⟩ = some (.int .i64 x) ∧ W.cell? ⟨b, o + i * 2 + 1, none⟩ = some (.int .u64 (y : Int))) (first | assumption | go_keep)
            (first | (go_at_call 33; with_reducible refine (HL.out _).mono ?_; rintro e w1 ⟨rfl, rfl⟩))
          go_wp2_with fail
          go_ret
          exact ⟨⟨2, rfl, hret.out⟩, _, rfl⟩
        · have d2 : decide ((N : Int) ≤ x) = false := decide_eq_false k2
          have HB2 : Hid (bad N L i = if 0 < i ∧ x ≤ (L.getD (i - 1) (0, 1)).1 then 15 else if y = 0 then 16 else 0) := by unfold Hid; rw [HBd.out, if_neg (by rintro (h | h); exact k1 h; exact k2 h)]
          clear k2
          go_wp2_with fail
          go_region_held3 (fun W => W.cell? ⟨b, o + i * 2, none⟩ = some (.int .i64 x) ∧ W.cell? ⟨b, o + i * 2 + 1, none⟩ = some (.int .u64 (y : Int))) (first | assumption | go_keep)
            (first | (go_at_call 33; with_reducible refine (HL.out _).mono ?_; rintro e w1 ⟨rfl, rfl⟩))
          go_wp2_with fail
          by_cases hi0 : i = 0
          · have d3 : decide ((0 : Int) < (i : Int)) = false := decide_eq_false (by omega)
            have d4 : decide (0 < i) = false := decide_eq_false (by omega)
            have HB3 : Hid (bad N L i = if y = 0 then 16 else 0) := by unfold Hid; rw [HB2.out, if_neg (by omega)]
            clear HB2 hi0
            go_quiet (fail)
            rw [World.drewN_drewN]
            by_cases k4 : y = 0
            · have hret : Hid (MayIs (p : Int) L 16) := HM.out 16 (Or.inl ⟨i, hlt, hB.out, by rw [HB3.out, if_pos k4]; decide, by rw [HB3.out, if_pos k4]⟩)
              have t4 : ((y : Int) == 0) = true := by rw [beq_iff_eq]; omega
              clear HB3 hB hS HT HBd k4
              go_wp2_with fail
              go_ret
              exact ⟨⟨16, rfl, hret.out⟩, _, rfl⟩
            · have t4 : ((y : Int) == 0) = false := by rw [beq_eq_false_iff_ne]; omega
              have HB5 : Hid (∀ j, j < i + 1 → bad N L j = 0) := fun j hj => by
                by_cases e : j = i
                · subst e; rw [HB3.out, if_neg k4]
                · exact hB.out j (by omega)
              clear HB3 HBd k4
              rcases hS.out with ⟨rfl, hs⟩ | ⟨rfl, hs⟩
              · by_cases k5 : t < y
                · have t5 : (t : Int) < (y : Int) := by omega
                  have hN : Hid (9223372036854775807 < sumN (L.take (i + 1))) := by unfold Hid; rw [HT.out]; show _ < _ + y; omega
                  have hw : ∃ t' : Nat, IntKind.u64.wrap ((t : Int) - (y : Int)) = (t' : Int) ∧ t' < 18446744073709551616 := ⟨(IntKind.u64.wrap ((t : Int) - (y : Int))).toNat, by rw [IntKind.wrap_u64]; omega, by rw [IntKind.wrap_u64]; omega⟩
                  obtain ⟨t', hw1, hw2⟩ := hw
                  clear hB hS HT hs k5
                  go_wp2_with fail
                  exact ⟨⟨i + 1, _, t', true, by omega, hw2, rfl, rfl, by go_num, rfl, HB5, Or.inr ⟨rfl, hN.out⟩⟩, by simp [intOf]; omega⟩
                · have t5 : ¬ (t : Int) < (y : Int) := by omega
                  have hN : Hid (t - y + sumN (L.take (i + 1)) = 9223372036854775807) := by unfold Hid; rw [HT.out]; show _ + (_ + y) = _; omega
                  have hw1 : IntKind.u64.wrap ((t : Int) - (y : Int)) = ((t - y : Nat) : Int) := by rw [IntKind.wrap_u64]; omega
                  clear hB hS HT hs
                  go_wp2_with fail
                  exact ⟨⟨i + 1, _, t - y, false, by omega, by omega, by first | rw [hw1] | rfl | go_num, rfl, by go_num, rfl, HB5, Or.inl ⟨rfl, hN.out⟩⟩, by simp [intOf]; omega⟩
              · have hN : Hid (9223372036854775807 < sumN (L.take (i + 1))) := by unfold Hid; rw [HT.out]; show _ < _ + y; omega
                have hw : ∃ t' : Nat, IntKind.u64.wrap ((t : Int) - (y : Int)) = (t' : Int) ∧ t' < 18446744073709551616 := ⟨(IntKind.u64.wrap ((t : Int) - (y : Int))).toNat, by rw [IntKind.wrap_u64]; omega, by rw [IntKind.wrap_u64]; omega⟩
                obtain ⟨t', hw1, hw2⟩ := hw
                clear hB hS HT hs
                go_wp2_with fail
                exact ⟨⟨i + 1, _, t', true, by omega, hw2, rfl, rfl, by go_num, rfl, HB5, Or.inr ⟨rfl, hN.out⟩⟩, by simp [intOf]; omega⟩

          · have d3 : decide ((0 : Int) < (i : Int)) = true := decide_eq_true (by omega)
            obtain ⟨i1, rfl⟩ : ∃ i1, i = i1 + 1 := ⟨i - 1, by omega⟩
            have d4 : decide (0 < i1 + 1) = true := decide_eq_true (by omega)
            have d6 : decide ((0 : Int) < (i1 : Int) + 1) = true := decide_eq_true (by omega)
            have hi1 : i1 < L.length := by omega
            obtain ⟨r1, r2⟩ := hR i1 hi1
            have hg1 : L.getD (i1 + 1 - 1) (0, 1) = L[i1] := by rw [Nat.add_sub_cancel]; simp [List.getD, hi1]
            rw [hg1] at HB2
            generalize L[i1] = pc at *
            have e2 : (0 : Int) ≤ (i1 : Int) ∧ (i1 : Int) < (L.length : Int) := by omega
            have e3 : (0 : Int) ≤ (i1 : Int) + 1 ∧ (i1 : Int) + 1 < (L.length : Int) := by omega
            have e4 : ((i1 + 1 : Nat) : Int) = (i1 : Int) + 1 := by omega
            rw [e4] at *
            clear hg1
            by_cases k3 : x ≤ pc.1
            · have hret : Hid (MayIs (p : Int) L 15) := HM.out 15 (Or.inl ⟨i1 + 1, hlt, hB.out, by rw [HB2.out, if_pos ⟨by omega, k3⟩]; decide, by rw [HB2.out, if_pos ⟨by omega, k3⟩]⟩)
              have d5 : decide (x ≤ pc.1) = true := decide_eq_true k3
              clear HB2 HBd hB hS HT
              go_region
              go_wp2_with fail
              go_ret
              exact ⟨⟨15, rfl, hret.out⟩, _, rfl⟩
            · have d5 : decide (x ≤ pc.1) = false := decide_eq_false k3
              have HB3 : Hid (bad N L (i1 + 1) = if y = 0 then 16 else 0) := by unfold Hid; rw [HB2.out, if_neg (fun h => k3 h.2)]
              clear HB2
              go_region
              by_cases k4 : y = 0
              · have hret : Hid (MayIs (p : Int) L 16) := HM.out 16 (Or.inl ⟨i1 + 1, hlt, hB.out, by rw [HB3.out, if_pos k4]; decide, by rw [HB3.out, if_pos k4]⟩)
                have t4 : ((y : Int) == 0) = true := by rw [beq_iff_eq]; omega
                clear HB3 hB hS HT HBd k4
                go_wp2_with fail
                go_ret
                exact ⟨⟨16, rfl, hret.out⟩, _, rfl⟩
              · have t4 : ((y : Int) == 0) = false := by rw [beq_eq_false_iff_ne]; omega
                have HB5 : Hid (∀ j, j < i1 + 1 + 1 → bad N L j = 0) := fun j hj => by
                  by_cases e : j = i1 + 1
                  · subst e; rw [HB3.out, if_neg k4]
                  · exact hB.out j (by omega)
                clear HB3 HBd k4
                rcases hS.out with ⟨rfl, hs⟩ | ⟨rfl, hs⟩
                · by_cases k5 : t < y
                  · have t5 : (t : Int) < (y : Int) := by omega
                    have hN : Hid (9223372036854775807 < sumN (L.take (i1 + 1 + 1))) := by unfold Hid; rw [HT.out]; show _ < _ + y; omega
                    have hw : ∃ t' : Nat, IntKind.u64.wrap ((t : Int) - (y : Int)) = (t' : Int) ∧ t' < 18446744073709551616 := ⟨(IntKind.u64.wrap ((t : Int) - (y : Int))).toNat, by rw [IntKind.wrap_u64]; omega, by rw [IntKind.wrap_u64]; omega⟩
                    obtain ⟨t', hw1, hw2⟩ := hw
                    clear hB hS HT hs k5
                    go_wp2_with fail
                    exact ⟨⟨i1 + 1 + 1, _, t', true, by omega, hw2, rfl, rfl, by go_num, rfl, HB5, Or.inr ⟨rfl, hN.out⟩⟩, by simp [intOf]; omega⟩
                  · have t5 : ¬ (t : Int) < (y : Int) := by omega
                    have hN : Hid (t - y + sumN (L.take (i1 + 1 + 1)) = 9223372036854775807) := by unfold Hid; rw [HT.out]; show _ + (_ + y) = _; omega
                    have hw1 : IntKind.u64.wrap ((t : Int) - (y : Int)) = ((t - y : Nat) : Int) := by rw [IntKind.wrap_u64]; omega
                    clear hB hS HT hs
                    go_wp2_with fail
                    exact ⟨⟨i1 + 1 + 1, _, t - y, false, by omega, by omega, by first | rw [hw1] | rfl | go_num, rfl, by go_num, rfl, HB5, Or.inl ⟨rfl, hN.out⟩⟩, by simp [intOf]; omega⟩
                · have hN : Hid (9223372036854775807 < sumN (L.take (i1 + 1 + 1))) := by unfold Hid; rw [HT.out]; show _ < _ + y; omega
                  have hw : ∃ t' : Nat, IntKind.u64.wrap ((t : Int) - (y : Int)) = (t' : Int) ∧ t' < 18446744073709551616 := ⟨(IntKind.u64.wrap ((t : Int) - (y : Int))).toNat, by rw [IntKind.wrap_u64]; omega, by rw [IntKind.wrap_u64]; omega⟩
                  obtain ⟨t', hw1, hw2⟩ := hw
                  clear hB hS HT hs
                  go_wp2_with fail
                  exact ⟨⟨i1 + 1 + 1, _, t', true, by omega, hw2, rfl, rfl, by go_num, rfl, HB5, Or.inr ⟨rfl, hN.out⟩⟩, by simp [intOf]; omega⟩
    · obtain rfl : i = L.length := by omega
      have hlt' : ¬ (L.length : Int) < (L.length : Int) := by omega
      have hB' := hB.out
      have hS' := hS.out
      rw [List.take_length] at hS'
      rcases hS' with ⟨rfl, hs⟩ | ⟨rfl, hs⟩
      · have hret : Hid (MayIs (p : Int) L 0) := HM.out 0 (Or.inr ⟨hB', by rw [if_neg (by omega)]⟩)
        clear hB' hB hS hs
        go_wp2_with fail
        go_ret
        exact ⟨⟨0, rfl, hret.out⟩, n, rfl⟩
      · have hret : Hid (MayIs (p : Int) L 3) := HM.out 3 (Or.inr ⟨hB', by rw [if_pos hs]⟩)
        clear hB' hB hS hs
        go_wp2_with fail
        go_ret
        exact ⟨⟨3, rfl, hret.out⟩, n, rfl⟩
end Go.Proofs.Ythhoklgfgandpaa
