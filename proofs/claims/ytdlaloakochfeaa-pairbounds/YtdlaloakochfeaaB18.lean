/- PairBounds: THE WALK. Own work of the verifier. -/
import Derived.Test.YtdlaloakochfeaaB17
namespace Go.Proofs.Ytdlaloakochfeaa
open Go.RowKit Soft

set_option maxRecDepth 10000 in
set_option maxHeartbeats 8000000 in
theorem bounds_walk (v : Value) (G : List (List (List Nat))) (w : World) (h : R3 w v G) (hl : G.length ≤ 9223372036854775807) (hl2 : ∀ g ∈ G, g.length ≤ 9223372036854775807) (hl3 : ∀ g ∈ G, ∀ l ∈ g, l.length * 8 ≤ 140737488355328) :
    Calls Try.prog 3 #[v] w fun e w' => e = .returned (.bool true) ∧ Below w.heap.size w w' := by
  have hl4 : ∀ g ∈ G, ∀ l ∈ g, l.length ≤ 9223372036854775807 := fun g hg l hl => by have := hl3 g hg l hl; omega
  have HBy : Hid (∀ W, R3 W v G → _) := fun W k => beyond_groups v G W k hl hl2 hl4
  have HMy : Hid (∀ W, R3 W v G → _) := fun W k => may_groups v G W k hl hl2 hl4
  have HF : Hid (∀ W, _) := fun W => fixed_any W
  have HR : Hid (R3 w v G) := h
  unfold R3 RS at h
  obtain ⟨ao, b, o, cap, rfl, hao, hrow⟩ := h
  have HRow : Hid _ := hrow
  clear hrow hl4
  go_enter Try.func3, Try.ntmps3
  go_wp2_with (first
    | (go_at_call 4; with_reducible refine (HBy.out _ HR.out).mono ?_; rintro e w1 ⟨⟨n1, rfl⟩, ⟨rfl, hcnt⟩ | rfl⟩)
    | (go_at_call 5; with_reducible refine (HMy.out _ (HR.out.below (below_drew _ _))).mono ?_; rintro e w2 ⟨⟨n2, rfl⟩, ⟨rfl, hmay⟩ | rfl⟩; rw [World.drewN_drewN])
    | (go_at_call 6; with_reducible refine (HF.out _).mono ?_; rintro e w8 ⟨rfl, hb8⟩))
  all_goals try (go_ret; exact ⟨rfl, (below_drew _ _).trans hb8⟩)
  have HMay : Hid _ := hmay
  have HLen : Hid _ := hl3
  clear hmay hl3 hl2 HBy HMy
  go_loopw [4, 5, 6, 7] (fun s t u q wr => ∃ a c n l i P N m : Nat, i ≤ G.length ∧ s = .complex .f64 a c ∧ t = .int .u64 (n : Int) ∧ u = .int .u64 (l : Int) ∧ q = .int .i64 (i : Int) ∧ Hid (OutM a c P N n l m ∧ cG (G.take i) = i + l + n) ∧ Hid (Below w.heap.size w wr ∧ ExAt wr w.heap.size P N)) (fun _ _ _ q _ => G.length - (intOf q).toNat)
  case atStart =>
    have hb0 : Below w.heap.size w (w.drewN (n1 + n2)) := below_drew _ _
    exact ⟨0, 0, 0, 0, 0, 0, 0, 0, by omega, rfl, rfl, rfl, rfl, ⟨outM_start, by simp [cG]⟩, ⟨hb0.trans ((bel1 (w.drewN (n1 + n2)) _).mono hb0.size), exat_new (w := w.drewN (n1 + n2)) (big_nil _) (big_nil _)⟩⟩
  case round =>
    obtain ⟨a, c, n, l, i, P, N, m, hi, rfl, rfl, rfl, rfl, hO, hM⟩ := hrel
    by_cases hlt : i < G.length
    · obtain rfl := hao (by intro e; rw [e] at hlt; simp at hlt)
      obtain ⟨u, q1, hu⟩ := HRow.out i hlt
      unfold R2 RS at hu
      obtain ⟨ao2, b2, o2, cap2, rfl, hao2, hrow2⟩ := hu
      have hlt' : (i : Int) < (G.length : Int) := by omega
      have hgm : G[i] ∈ G := List.getElem_mem hlt
      have hc1 := cG_take G i hlt
      have hc2 := cG_mono G (i + 1)
      have hc3 := cg_len G[i]
      have HMay2 : Hid (∀ l ∈ G[i], ∀ x ∈ l, mayN x) := HMay.out _ hgm
      have HLen2 : Hid (∀ l ∈ G[i], l.length * 8 ≤ 140737488355328) := HLen.out _ hgm
      have hcg : Hid (cG (G.take (i + 1)) = i + l + n + (1 + cg G[i]) ∧ i + l + n + (1 + cg G[i]) ≤ 2147483647) := ⟨by rw [hc1, hO.out.2], by have := hO.out.2; omega⟩
      have hgl : G[i].length ≤ 2147483647 := by have := hcg.out; omega
      have hn31 : n ≤ 2147483647 := by have := hcg.out; omega
      have hl31 : l ≤ 2147483647 := by have := hcg.out; omega
      clear hc1 hc2 hc3 hgm
      have HRow2 : Hid _ := hrow2
      clear hrow2
      generalize G[i] = g at *
      clear hlt
      have hb := hM.out.1
      have q1' : wr.cell? ⟨b, o + i, none⟩ = some (.slice ao2 g.length cap2) := by rw [hb.cell (p := ⟨b, o + i, none⟩) (lt_of_cell q1)]; exact q1
      have q1'' : (wr.alloc (.cells #[.slice none 0 0, .slice none 0 0] 29)).cell? ⟨b, o + i, none⟩ = some (.slice ao2 g.length cap2) := by rw [(bel1 wr _).cell (p := ⟨b, o + i, none⟩) (lt_of_cell q1')]; exact q1'
      have HQ1 : Hid _ := q1
      have hM1 : Hid (Mem w w.heap.size wr.heap.size (P + 0) (N + 0) 0 0 (wr.alloc (.cells #[.slice none 0 0, .slice none 0 0] 29))) :=
        ⟨hb.trans ((bel1 wr _).mono hb.size), Nat.le_refl _, hb.size, by have := lt_of_cell hM.out.2.a.choose_spec.1; exact fun e => absurd this (by rw [← e]; exact Nat.lt_irrefl _), hM.out.2.below (bel1 wr _), exat_new (big_nil _) (big_nil _)⟩
      have HB : Hid _ := hb
      clear hb q1
      go_wp2_with fail
      generalize hg1 : wr.heap.size = g1 at hM1 ⊢
      clear hg1 q1' q1'' hM
      go_loopw [5, 9, 10, 11] (fun t p mm q wr => ∃ a1 c1 n1 k P1 N1 : Nat, k ≤ g.length ∧ t = .int .u64 ((n + n1 : Nat) : Int) ∧ p = .complex .f64 a1 c1 ∧ mm = .int .u64 ((2 * g.length + n1 : Nat) : Int) ∧ q = .int .i64 (k : Int) ∧ Hid (MidM a1 c1 P1 N1 n1 k ∧ cg (g.take k) = k + n1) ∧ Hid (Mem w w.heap.size g1 (P + P1) (N + N1) P1 N1 wr)) (fun _ _ _ q _ => g.length - (intOf q).toNat)
      case atStart => exact ⟨0, 0, 0, 0, 0, 0, by omega, by go_num, rfl, by go_num, rfl, ⟨midM_start, by simp [cg]⟩, hM1⟩
      case round =>
        obtain ⟨a1, c1, n1, k, P1, N1, hk, rfl, rfl, rfl, rfl, hD, hM⟩ := hrel
        by_cases hlk : k < g.length
        · obtain rfl := hao2 (by intro e; rw [e] at hlk; simp at hlk)
          obtain ⟨u3, q3, hu3⟩ := HRow2.out k hlk
          unfold RU at hu3
          obtain ⟨ao3, b3, o3, cap3, rfl, hao3, hrow3, hs3⟩ := hu3
          have hlk' : (k : Int) < (g.length : Int) := by omega
          have hc1 := cg_take g k hlk
          have hc2 := cg_mono g (k + 1)
          have hA : AM g[k] := fun x hx => ⟨hs3 x hx, HMay2.out _ (List.getElem_mem hlk) x hx⟩
          have hlen8 := HLen2.out _ (List.getElem_mem hlk)
          have hcl : Hid (cg (g.take (k + 1)) = k + n1 + (1 + g[k].length) ∧ k + n1 + (1 + g[k].length) ≤ cg g) := ⟨by rw [hc1, hD.out.2], by have := hD.out.2; omega⟩
          clear hc1 hc2
          generalize g[k] = L at *
          clear hlk
          have hb := hM.out.b
          have q1' : wr.cell? ⟨b, o + i, none⟩ = some (.slice (some ⟨b2, o2, none⟩) g.length cap2) := by rw [hb.cell (p := ⟨b, o + i, none⟩) (lt_of_cell HQ1.out)]; exact HQ1.out
          have q3' : wr.cell? ⟨b2, o2 + k, none⟩ = some (.slice ao3 L.length cap3) := by rw [hb.cell (p := ⟨b2, o2 + k, none⟩) (lt_of_cell q3)]; exact q3
          have HRow3 : Hid (RowU w b3 o3 L) := hrow3
          have hbnd : n + n1 + L.length ≤ 2147483647 ∧ n1 + k + L.length ≤ 2147483647 := by have h1 := hcl.out; have h2 := hcg.out; omega
          have hstep := hD.out.1.step hA hbnd.2
          have hof := acc_of hA (by omega)
          have HFl : Hid (∀ W, Below w.heap.size w W → _) := fun W hW => floats_any ao3 b3 o3 cap3 L hao3 hs3 hlen8 W (HRow3.out.below hW (fun k => HRow3.out.lt k))
          obtain ⟨r, d, hrd⟩ : ∃ r d, ofW L = (r, d) := ⟨_, _, rfl⟩
          rw [hrd] at hof hstep
          obtain ⟨x, y, hxy⟩ : ∃ x y, mergeW (a1, c1) (r, d) = (x, y) := ⟨_, _, rfl⟩
          rw [hxy] at hstep
          have HOf : Hid (∀ gf capf W, RowF W gf 0 L → _) := fun gf capf W hW => pof_at gf L capf r d (List.all_eq_true.2 fun x hx => decide_eq_true (hs3 x hx)) (by omega) hrd (fin_not_nan hof.s.1) (fin_not_nan hof.c.1) W hW
          have HMg : Hid (∀ W, _) := pmerge_at a1 c1 r d x y hD.out.1.acc.s.1.1 hD.out.1.acc.c.1.1 hof.s.1.1 hof.c.1.1 hxy (fin_not_nan hstep.acc.s.1) (fin_not_nan hstep.acc.c.1)
          have HStep : Hid (MidM x y (P1 + sP L) (N1 + sN L) (n1 + L.length) (k + 1)) := hstep
          have HSh : Hid _ := long_ok hO.out.1.um hD.out.1.um hA hbnd.1
          have HAM : Hid (AM L) := hA
          have hLl : L.length ≤ 2147483647 := by omega
          have hn1 : n1 ≤ 2147483647 := by omega
          clear hb q3 hrow3 hof hrd hxy hstep hA hs3 hlen8 hbnd
          go_wp2_with (first
            | (go_at_call 9; with_reducible refine (HFl.out _ (mem_b hM)).mono ?_; rintro e w3 ⟨v3, rfl, hG3⟩; obtain ⟨gf, capf, rfl, hgf, hF3⟩ := hG3.row; have hM3 := mem_below hM hG3.below; clear hG3)
            | (go_at_call 8; with_reducible refine (HOf.out _ _ _ hF3).mono ?_; rintro e w4 ⟨rfl, n4, rfl⟩)
            | (go_at_call 7; with_reducible refine (HMg.out _).mono ?_; rintro e w5 ⟨rfl, n5, rfl⟩))
          clear HFl HOf HMg hF3 hgf q1' q3'
          go_loopw [13] (fun q wr => ∃ j : Nat, j ≤ L.length ∧ q = .int .i64 (j : Int) ∧ Hid (Mem w w.heap.size g1 (P + P1 + sP (L.take j)) (N + N1 + sN (L.take j)) (P1 + sP (L.take j)) (N1 + sN (L.take j)) wr)) (fun q _ => L.length - (intOf q).toNat)
          case atStart => exact ⟨0, by omega, rfl, (mem_below hM3 (below_drew _ _)).out.eq (by simp [sP]) (by simp [sN]) (by simp [sP]) (by simp [sN])⟩
          case round =>
            clear hM hM3
            obtain ⟨j, hj, rfl, hMj⟩ := hrel
            by_cases hlj : j < L.length
            · obtain rfl := hao3 (by intro e; rw [e] at hlj; simp at hlj)
              have hlj' : (j : Int) < (L.length : Int) := by omega
              have hx := HAM.out _ (List.getElem_mem hlj)
              have q5 := HRow3.out j hlj
              have HS1 : Hid _ := sP_take L j hlj
              have HS2 : Hid _ := sN_take L j hlj
              have HV := ok_fin hx.1 hx.2
              obtain ⟨s1, s2, s3, s4⟩ := HSh.out j
              have hx1 := hx.1
              generalize L[j] = z at *
              clear hlj hx
              have q5' : wr.cell? ⟨b3, o3 + j, none⟩ = some (.int .u64 (z : Int)) := by rw [(mem_b hMj).cell (p := ⟨b3, o3 + j, none⟩) (lt_of_cell q5)]; exact q5
              have HP1 : Hid (∀ W, Hid (Mem w w.heap.size g1 (P + P1 + sP (L.take j)) (N + N1 + sN (L.take j)) (P1 + sP (L.take j)) (N1 + sN (L.take j)) W) → _) := fun W h => put1_mem h.out hx1 s1 s2 HV
              have HPA : Hid (∀ W, Hid (Mem w w.heap.size g1 (P + P1 + sP (L.take j)) (N + N1 + sN (L.take j)) (P1 + sP (L.take j) + pv z) (N1 + sN (L.take j) + nv z) W) → _) := fun W h => putA_mem h.out hx1 s3 s4 HV
              have HC : Hid (∀ W, Hid (Mem w w.heap.size g1 (P + P1 + sP (L.take j)) (N + N1 + sN (L.take j)) (P1 + sP (L.take j) + pv z) (N1 + sN (L.take j) + nv z) W) → W.cell? ⟨b3, o3 + j, none⟩ = some (.int .u64 (z : Int))) := fun W h => by rw [(mem_b h).cell (p := ⟨b3, o3 + j, none⟩) (lt_of_cell q5)]; exact q5
              clear q5 s1 s2 s3 s4 HV
              go_wp2_with (first
                | (go_at_call 10; with_reducible refine (HP1.out _ hMj).mono ?_; rintro e w6 ⟨rfl, hM6⟩; have q6 := HC.out _ hM6)
                | (go_at_call 10; with_reducible refine (HPA.out _ hM6).mono ?_; rintro e w7 ⟨rfl, hM7⟩))
              exact ⟨⟨j + 1, by omega, by go_num, hM7.out.eq (by rw [HS1.out, Nat.add_assoc (P + P1)]) (by rw [HS2.out, Nat.add_assoc (N + N1)]) (by rw [HS1.out, Nat.add_assoc P1]) (by rw [HS2.out, Nat.add_assoc N1])⟩, by simp [intOf]; omega⟩
            · obtain rfl : j = L.length := by omega
              have hlj' : ¬ (L.length : Int) < (L.length : Int) := by omega
              have hM8 : Hid _ := hMj
              rw [List.take_length] at hM8
              clear hMj
              go_wp2_with fail
              exact ⟨⟨x, y, n1 + L.length, k + 1, P1 + sP L, N1 + sN L, by omega, by go_num, rfl, by go_num, by go_num, ⟨HStep.out, by have := hcl.out.1; omega⟩, hM8.out.eq (Nat.add_assoc _ _ _) (Nat.add_assoc _ _ _) rfl rfl⟩, by simp [intOf]; omega⟩
        · obtain rfl : k = g.length := by omega
          have hlk' : ¬ (g.length : Int) < (g.length : Int) := by omega
          have hb := mem_b hM
          have q1' : wr.cell? ⟨b, o + i, none⟩ = some (.slice ao2 g.length cap2) := by rw [hb.cell (p := ⟨b, o + i, none⟩) (lt_of_cell HQ1.out)]; exact HQ1.out
          have hbn : n1 + g.length ≤ 2147483647 ∧ n + l + n1 + g.length ≤ 2147483647 := by
            have h1 := hD.out.2
            rw [List.take_length] at h1
            have h2 := hcg.out
            omega
          obtain ⟨o1, o2, o3⟩ := hD.out.1.ok hbn.1
          have HSt : Hid (∀ W, _) := stays_any a1 c1 (fa a1 c1) o1 o2 rfl o3
          have HTo : Hid (∀ W, _) := ptotal_at a1 c1 (fa a1 c1) o1.1.1 o2.1.1 rfl (fin_not_nan o3.1)
          have HNe : Hid (∀ W, Hid (Mem w w.heap.size g1 (P + P1) (N + N1) P1 N1 W) → _) := near_mid (M := 2 * (g.length : Int) + (n1 : Int)) (K := 2) hD.out.1 hbn.1 (by omega) rfl
          obtain ⟨m', hO'⟩ := hO.out.1.step hD.out.1 hbn.2
          obtain ⟨x, y, hxy⟩ : ∃ x y, mergeW (a, c) (a1, c1) = (x, y) := ⟨_, _, rfl⟩
          rw [hxy] at hO'
          have HMg : Hid (∀ W, _) := pmerge_at a c a1 c1 x y hO.out.1.acc.s.1.1 hO.out.1.acc.c.1.1 o1.1.1 o2.1.1 hxy (fin_not_nan hO'.acc.s.1) (fin_not_nan hO'.acc.c.1)
          have HO' : Hid (OutM x y (P + P1) (N + N1) (n + n1) (l + g.length) m') := hO'
          have hn1 : n1 ≤ 2147483647 := by omega
          have HC' : Hid (cG (G.take (i + 1)) = i + 1 + (l + g.length) + (n + n1)) := by
            have h1 := hD.out.2
            rw [List.take_length] at h1
            have h2 := hcg.out
            unfold Hid
            omega
          clear hb o1 o2 o3 hxy hO' hbn
          generalize fa a1 c1 = z at *
          go_wp2_with (first
            | simp only [mf64bits]
            | (go_at_call 11; with_reducible refine (HSt.out _).mono ?_; rintro e w3 ⟨rfl, hb3⟩; have hM3 := mem_below hM hb3)
            | (go_at_call 14; with_reducible refine (HTo.out _).mono ?_; rintro e w4 ⟨rfl, n4, rfl⟩; have hM4 := mem_below hM3 (below_drew _ n4))
            | (go_at_call 12; with_reducible refine (HNe.out _ hM4).mono ?_; rintro e w5 ⟨rfl, hb5⟩; have hM5 := mem_below hM4 hb5)
            | (go_at_call 7; with_reducible refine (HMg.out _).mono ?_; rintro e w6 ⟨rfl, n6, rfl⟩; have hM6 := mem_below hM5 (below_drew _ n6)))
          exact ⟨⟨x, y, n + n1, l + g.length, i + 1, P + P1, N + N1, m', by omega, rfl, by go_num, by go_num, by go_num, ⟨HO'.out, HC'.out⟩, ⟨hM6.out.b, hM6.out.eA⟩⟩, by simp [intOf]; omega⟩
    · obtain rfl : i = G.length := by omega
      have hlt' : ¬ (G.length : Int) < (G.length : Int) := by omega
      have hbn : n + l ≤ 2147483647 := by
        have h1 := hO.out.2
        rw [List.take_length] at h1
        omega
      obtain ⟨o1, o2, o3⟩ := hO.out.1.ok hbn
      have HSt : Hid (∀ W, _) := stays_any a c (fa a c) o1 o2 rfl o3
      have HTo : Hid (∀ W, _) := ptotal_at a c (fa a c) o1.1.1 o2.1.1 rfl (fin_not_nan o3.1)
      have HNe : Hid (∀ W, Hid (ExAt W w.heap.size P N) → _) := near_out (g := w.heap.size) (M := (n : Int) + 2 * (l : Int)) (K := 16) hO.out.1 hbn (by omega) rfl
      have hn31 : n ≤ 2147483647 := by omega
      have hl31 : l ≤ 2147483647 := by omega
      obtain ⟨hMb, hME⟩ := hM.out
      have HME : Hid (ExAt wr w.heap.size P N) := hME
      have HMB : Hid (Below w.heap.size w wr) := hMb
      clear o1 o2 o3 hbn hMb hME hM
      generalize fa a c = z at *
      go_wp2_with (first
        | simp only [mf64bits]
        | (go_at_call 11; with_reducible refine (HSt.out _).mono ?_; rintro e w3 ⟨rfl, hb3⟩; have hM3 := exat_below HME hb3)
        | (go_at_call 14; with_reducible refine (HTo.out _).mono ?_; rintro e w4 ⟨rfl, n4, rfl⟩; have hM4 := exat_below hM3 (below_drew _ n4))
        | (go_at_call 12; with_reducible refine (HNe.out _ hM4).mono ?_; rintro e w5 ⟨rfl, hb5⟩)
        | (go_at_call 6; with_reducible refine (HF.out _).mono ?_; rintro e w6 ⟨rfl, hb6⟩))
      go_ret
      have B1 := HMB.out.trans (hb3.mono HMB.out.size)
      have B2 := B1.trans ((below_drew w3 n4).mono B1.size)
      have B3 := B2.trans (hb5.mono B2.size)
      exact ⟨rfl, B3.trans (hb6.mono B3.size)⟩
end Go.Proofs.Ytdlaloakochfeaa
