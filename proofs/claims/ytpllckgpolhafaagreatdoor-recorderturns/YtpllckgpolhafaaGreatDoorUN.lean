/- RecorderTurns: the walk. Own work of the verifier. -/
import Derived.Test.YtpllckgpolhafaaGreatDoorUM
import Derived.Test.YtpllckgpolhafaaGreatDoorUH
namespace Go.Proofs.YtpllckgpolhafaaGreatDoor
open Go.RowKit

theorem newc3 (W : World) : Calls Tryz.prog 7 #[.int .i64 1, .int .i64 3, .int .i64 1] W fun e w' => ∃ sb c h G, e = .returned (.tuple #[.pointer (some ⟨sb, 0, none⟩), .int .i64 0]) ∧ Hid (SlabAt 130 sb c h G (fun _ => [0, 0]) 3 w') ∧ Hid (Below W.heap.size W w') ∧ Hid (∀ g ∈ G 0 ++ G 1, W.heap.size ≤ g) := newc 3 (by decide) (by decide) cel_12 W
theorem oj_first {w w1 w2 : World} {k p s c : Nat} {h : Nat → Nat} {G : Nat → List Nat} (hS : Hid (Sh w1 k p 0 0 0)) (hP : Hid (Ph w1 p 0 0 (-9223372036854775808))) (hb1 : Hid (Below w.heap.size w w1)) (hk : Hid (w.heap.size ≤ k ∧ w.heap.size ≤ p))
    (hA : Hid (SlabAt 130 s c h G (fun _ => [0, 0]) 3 w2)) (hb2 : Hid (Below w1.heap.size w1 w2)) (hg : Hid (∀ g ∈ G 0 ++ G 1, w1.heap.size ≤ g)) :
    OJ ⟨w, k, p, w2.heap.size, s, c, h, G, w2.heap.size + 1 + 1 + 1⟩ 0 ((((w2.alloc (.cells #[.pointer (some ⟨k, 0, none⟩), .int .i64 0, .bool false] 115)).alloc (.cells #[.pointer (some ⟨k, 0, none⟩), .int .i64 1, .bool false] 115)).alloc (.cells #[.pointer (some ⟨k, 0, none⟩), .int .i64 2, .bool false] 115)).alloc (.cells #[.pointer (some ⟨w2.heap.size, 0, none⟩), .pointer (some ⟨w2.heap.size + 1, 0, none⟩), .pointer (some ⟨w2.heap.size + 1 + 1, 0, none⟩)] 49)) := by
  have hb3 : Below w2.heap.size w2 ((((w2.alloc (.cells #[.pointer (some ⟨k, 0, none⟩), .int .i64 0, .bool false] 115)).alloc (.cells #[.pointer (some ⟨k, 0, none⟩), .int .i64 1, .bool false] 115)).alloc (.cells #[.pointer (some ⟨k, 0, none⟩), .int .i64 2, .bool false] 115)).alloc (.cells #[.pointer (some ⟨w2.heap.size, 0, none⟩), .pointer (some ⟨w2.heap.size + 1, 0, none⟩), .pointer (some ⟨w2.heap.size + 1 + 1, 0, none⟩)] 49)) := (((bel1 w2 _).alloc (by simp) _).alloc (by simp; omega) _).alloc (by simp; omega) _
  refine ⟨⟨false, ts_first (by decide) hS hP hb1 hk hA hb2 hg hb3 (fun j hj => ?_)⟩, ?_⟩
  · rcases (show j = 0 ∨ j = 1 ∨ j = 2 by omega) with rfl | rfl | rfl <;> (show ((((w2.heap.push _).push _).push _).push _)[_]? = _; simp only [Array.getElem?_push, Array.size_push]; repeat (first | rw [if_pos trivial] | rw [if_pos (by omega)] | rw [if_neg (by omega)]); try rfl)
  · show ((((w2.heap.push _).push _).push _).push _)[_]? = _
    simp only [Array.getElem?_push, Array.size_push]
    repeat (first | rw [if_pos trivial] | rw [if_pos (by omega)] | rw [if_neg (by omega)])
    rfl
/-- What a round reads of the lists. -/
theorem in_lists {w W : World} {b o : Nat} {L : List (List Int)} (h : ∀ i (hi : i < L.length), ∃ u, w.cell? ⟨b, o + i, none⟩ = some u ∧ RI w u L[i]) (hb : Below w.heap.size w W) (i : Nat) (hi : i < L.length) :
    ∃ ai bi oi ci, W.cell? ⟨b, o + i, none⟩ = some (.slice ai L[i].length ci) ∧ (0 < L[i].length → ai = some ⟨bi, oi, none⟩) ∧ Hid (∀ W', Below w.heap.size w W' → W'.cell? ⟨b, o + i, none⟩ = some (.slice ai L[i].length ci) ∧ ∀ j (hj : j < L[i].length), W'.cell? ⟨bi, oi + j, none⟩ = some (.int .i64 L[i][j])) ∧ Hid (∀ x ∈ L[i], -9223372036854775808 ≤ x ∧ x < 9223372036854775808) ∧ Hid (L[i].length ≤ 17592186044416) := by
  obtain ⟨u, h1, ai, bi, oi, ci, rfl, h3, h4, h5, h6⟩ := h i hi
  refine ⟨ai, bi, oi, ci, (hb.cell (p := ⟨b, o + i, none⟩) (lt_of_cell h1)).trans h1, fun k => h3 (List.length_pos_iff.1 k), fun W' hb' => ⟨(hb'.cell (p := ⟨b, o + i, none⟩) (lt_of_cell h1)).trans h1, fun j hj => (hb'.cell (p := ⟨bi, oi + j, none⟩) (lt_of_cell (h4 j hj))).trans (h4 j hj)⟩, h5, h6⟩
/-- Where a round stands. -/
def RI2 (K : Wx) (a n sb : Nat) (x9 x10 : Value) (W : World) : Prop := ∃ (q : Nat) (ref S : Int), q ≤ n ∧ x10 = .int .i64 (q : Int) ∧ x9 = .int .u64 ref ∧ Hid (MJ K a a q sb S S ref W) ∧ Hid (0 ≤ S ∧ S ≤ (q : Int) * 9223372036854775808 ∧ ref ≤ (q : Int)) ∧ 0 ≤ ref ∧ ref ≤ 17592186044416
theorem mj_all {K : Wx} {act ab m sb : Nat} {S T ref : Int} {W : World} (H : MJ K act ab m sb S T ref W) (o : Obj) : (W.alloc o).cell? ⟨sb, 0, none⟩ = some (.int .i64 (hiOf S)) ∧ (W.alloc o).cell? ⟨sb, 1, none⟩ = some (.int .u64 (loOf S)) := by
  have := (H.below (bel1 W o)).facts
  exact ⟨this.1, this.2.1⟩
theorem pb_all {W : World} {pb : Nat} {u0 u1 u2 u3 u4 u5 u6 : Value} (h : W.heap[pb]? = some (.cells #[u0, u1, u2, u3, u4, u5, u6] 60 (0, 0))) (o : Obj) : (W.alloc o).cell? ⟨pb, 0, none⟩ = some u0 ∧ (W.alloc o).cell? ⟨pb, 1, none⟩ = some u1 := by
  have h2 : (W.alloc o).heap[pb]? = some (.cells #[u0, u1, u2, u3, u4, u5, u6] 60 (0, 0)) := ((bel1 W o).block pb (Array.getElem?_eq_some_iff.1 h).1).trans h
  have := seven_cells (W := W.alloc o) h2
  exact ⟨this.1, this.2.1⟩
theorem sum_lo {S n : Int} (hn : 0 ≤ n) (hn1 : n < 9223372036854775808) : IntKind.u64.wrap (loOf S + n) = loOf (S + n) ∧ (loOf (S + n) < n → wrap64 (hiOf S + 1) = hiOf (S + n) ∨ ¬ (hiOf S < 4611686018427387904 ∧ 0 ≤ S)) ∧ (¬ loOf (S + n) < n → hiOf S = hiOf (S + n)) := by
  rw [IntKind.wrap_u64]
  unfold loOf hiOf wrap64
  refine ⟨by omega, fun h => ?_, fun h => by omega⟩
  by_cases hc : S / 18446744073709551616 < 4611686018427387904 ∧ 0 ≤ S
  · left; omega
  · exact Or.inr hc
set_option maxRecDepth 10000 in
set_option maxHeartbeats 8000000 in
theorem turns_walk (v : Value) (L : List (List Int)) (w : World) (hv : RS (RI w) w v L) (hl : L.length ≤ maxLen) :
    Calls Tryz.prog 4 #[v] w fun e w' => e = .returned (.bool true) ∧ Below w.heap.size w w' := by
  have HW : Hid (∀ _ : Unit, Calls Tryz.prog 5 #[] w fun e w' => e = .returned (.bool true) ∧ Hid (Below w.heap.size w w')) := fun _ => awake_any w
  have HN : Hid (∀ W : World, _) := rnew_any
  have HM : Hid (∀ W : World, _) := newc3
  have HR : Hid (∀ (k : Nat) (st : Int) (W : World), _) := rrec_any
  obtain ⟨ao, b, o, cap, rfl, hao0, hrows⟩ := hv
  have hao : Hid (L ≠ [] → ao = some ⟨b, o, none⟩) := hao0
  have HRows : Hid (∀ i (hi : i < L.length), ∃ u, w.cell? ⟨b, o + i, none⟩ = some u ∧ RI w u L[i]) := hrows
  clear hrows hao0
  have hM : L.length ≤ 9223372036854775807 := by simpa [maxLen] using hl
  clear hl
  go_enter Tryz.func4, Tryz.ntmps4
  go_wp2_with (first
    | (go_at_call 5; with_reducible refine Calls.mono (HW.out ()) ?_; rintro e w1 ⟨rfl, HB1⟩)
    | (go_at_call 6; with_reducible refine Calls.mono (HN.out _) ?_; rintro e w2 ⟨k, p, rfl, HS2, HP2, HB2, HK2⟩)
    | (go_at_call 7; with_reducible refine Calls.mono (HM.out _) ?_; rintro e w3 ⟨s, c, h, G, rfl, HA3, HB3, HG3⟩)
    | (go_at_call 13; with_reducible refine Calls.mono (HR.out _ _ _) ?_; rintro e w4 ⟨rfl, rfl⟩))
  have HO := oj_first HS2 HP2 HB2 HK2 HA3 HB3 HG3
  obtain ⟨K, hK⟩ : ∃ K : Wx, K = ⟨w1, k, p, w3.heap.size, s, c, h, G, w3.heap.size + 1 + 1 + 1⟩ := ⟨_, rfl⟩
  rw [← hK] at HO
  have HOh : Hid _ := HO
  clear HO HS2 HP2 HB2 HK2 HA3 HB3 HG3
  obtain ⟨base, hbase⟩ : ∃ base, base = w3.heap.size := ⟨_, rfl⟩
  obtain ⟨lb, hlb⟩ : ∃ lb, lb = w3.heap.size + 1 + 1 + 1 := ⟨_, rfl⟩
  rw [← hlb]
  have Kk : Hid (K.k = k ∧ K.s = s ∧ K.base = base ∧ K.lb = lb ∧ K.w = w1) := by rw [hK, hbase, hlb]; exact ⟨rfl, rfl, rfl, rfl, rfl⟩
  clear hbase hlb
  go_loopw [7] (fun x W => ∃ i : Nat, i ≤ L.length ∧ x = .int .i64 (i : Int) ∧ Hid (OJ K i W)) (fun x _ => L.length - (intOf x).toNat)
  case atStart => exact ⟨0, by omega, rfl, HOh.out⟩
  case round =>
    clear HOh hK HW HN HM HR
    obtain ⟨i, hi, rfl, HI⟩ := hrel
    have HBe : Hid (∀ W, Below w1.heap.size w1 W → Below w.heap.size w W) := fun W hb => bt HB1.out hb
    by_cases hlt : i < L.length
    · have hlt' : (i : Int) < (L.length : Int) := by omega
      obtain rfl := hao.out (fun e => by rw [e] at hlt; simp at hlt)
      obtain ⟨neg0, hTS0⟩ := HI.out.ex
      have hb0 : Below w.heap.size w wr := HBe.out _ (by have := hTS0.bel; rw [Kk.out.2.2.2.2] at this; exact this)
      clear hTS0 neg0
      obtain ⟨ai, bi, oi, ci, hci, hai, HIn, HRg, hLn⟩ := in_lists HRows.out hb0 i hlt
      generalize hLi : L[i] = M at *
      obtain ⟨a, ha⟩ : ∃ a, a = i % 2 := ⟨_, rfl⟩
      have ha2 : a < 2 := by omega
      have haH : Hid (a = i % 2) := ha
      have hrem : (i : Int) % 2 = (a : Int) := by omega
      have hrem2 : (i : Int).tmod 2 = (a : Int) := by rw [Int.tmod_eq_emod_of_nonneg (by omega)]; exact hrem
      obtain ⟨sb, hsb⟩ : ∃ sb, sb = wr.heap.size := ⟨_, rfl⟩
      have hsb0 : Hid (sb = wr.heap.size) := hsb
      have HMJ : Hid (MJ K a a 0 sb 0 0 0 (wr.alloc (.cells #[.int .i64 0, .int .u64 0] 52))) := by rw [ha, hsb]; exact HI.out.start
      clear hci hb0 hsb ha
      have hsz : wr.heap.size = sb := by have := HMJ.out.sm; exact hsb0.out.symm
      go_wp2_with fail
      clear hsz
      go_loopw [9, 10] (fun x9 x10 W => RI2 K a M.length sb x9 x10 W) (fun _ x10 _ => M.length - (intOf x10).toNat)
      case atStart => exact ⟨0, 0, 0, by omega, rfl, rfl, HMJ, ⟨by decide, by decide, by decide⟩, by decide, by decide⟩
      case round =>
        clear HMJ HI
        obtain ⟨q, ref, S, hq, rfl, rfl, HJ, HS, hr0, hr1⟩ := hrel
        have hbJ : Below w.heap.size w wr := HBe.out _ (by have := HJ.out.bel; rw [Kk.out.2.2.2.2] at this; exact this)
        obtain ⟨hci, hin⟩ := HIn.out _ hbJ
        clear hbJ
        by_cases hql : q < M.length
        · have hql' : (q : Int) < (M.length : Int) := by omega
          obtain rfl := hai (by omega)
          have hcn := hin q hql
          have hng := HRg.out _ (List.getElem_mem hql)
          have hq44 : q < 17592186044416 := by have := hLn.out; omega
          generalize M[q] = n at hcn hng
          clear hin
          obtain ⟨j, hj⟩ : ∃ j, j = q % 3 := ⟨_, rfl⟩
          have hj3 : j < 3 := by omega
          have hjr : (q : Int) % 3 = (j : Int) := by omega
          have hjr2 : (q : Int).tmod 3 = (j : Int) := by rw [Int.tmod_eq_emod_of_nonneg (by omega)]; exact hjr
          have hrec : wr.cell? ⟨lb, j, none⟩ = some (.pointer (some ⟨base + j, 0, none⟩)) := by
            have := HJ.out.recs j hj3
            rw [Kk.out.2.2.1, Kk.out.2.2.2.1] at this
            exact this
          clear hj
          by_cases hn : n < 0
          · have HA : Hid (∀ _ : Unit, Calls Tryz.prog 14 #[.pointer (some ⟨base + j, 0, none⟩), .pointer none, .pointer (some ⟨s, 0, none⟩), .int .i64 n] wr fun e w' => e = .returned (.int .i64 2) ∧ Hid (MJ K a a (q + 1) sb S S (ref + 1) w')) := fun _ => by
              have := HJ.out.add_no ha2 (by omega) ⟨by omega, by omega⟩ ⟨by omega, by omega⟩ hj3 n hn
              rw [Kk.out.2.2.1, Kk.out.2.1] at this
              exact this
            have hru : IntKind.u64.wrap (ref + 1) = ref + 1 := by rw [IntKind.wrap_u64]; omega
            go_wp2_with (go_at_call 14; with_reducible refine Calls.mono (HA.out ()) ?_; rintro e w5 ⟨rfl, H5⟩)
            refine ⟨⟨q + 1, ref + 1, S, by omega, by simp, rfl, H5, ⟨HS.out.1, ?_, ?_⟩, by omega, ?_⟩, by simp [intOf]; omega⟩
            · have := HS.out; omega
            · have := HS.out; omega
            · have := HS.out; omega
          · obtain ⟨hs0, hs1, hs2⟩ := HS.out
            have hn0 : 0 ≤ n := by omega
            have HA : Hid (∀ _ : Unit, Calls Tryz.prog 14 #[.pointer (some ⟨base + j, 0, none⟩), .pointer none, .pointer (some ⟨s, 0, none⟩), .int .i64 n] wr fun e w' => e = .returned (.int .i64 0) ∧ Hid (MJ K a a (q + 1) sb S (S + n) ref w')) := fun _ => by
              have := HJ.out.add_ok ha2 (by omega) hs1 ⟨by omega, by omega⟩ hj3 n hn0 hng.2
              rw [Kk.out.2.2.1, Kk.out.2.1] at this
              exact this
            obtain ⟨e1, e2, e3⟩ := sum_lo (S := S) hn0 hng.2
            have hun : IntKind.u64.wrap n = n := by rw [IntKind.wrap_u64]; omega
            have hhi : 0 ≤ hiOf S ∧ hiOf S < 4611686018427387904 := by unfold hiOf; omega
            have hEnd : Hid (0 ≤ S + n ∧ S + n ≤ ((q + 1 : Nat) : Int) * 9223372036854775808 ∧ ref ≤ ((q + 1 : Nat) : Int)) := ⟨by omega, by push_cast; omega, by push_cast; omega⟩
            have HFa : Hid (∀ W, MJ K a a (q + 1) sb S (S + n) ref W → W.cell? ⟨sb, 0, none⟩ = some (.int .i64 (hiOf S)) ∧ W.cell? ⟨sb, 1, none⟩ = some (.int .u64 (loOf S)) ∧ W.frozen? ⟨sb, 0, none⟩ = false ∧ W.frozen? ⟨sb, 1, none⟩ = false) := fun W h => h.facts
            have hl0 := loOf_lt S
            have hl2 := loOf_lt (S + n)
            by_cases hcar : loOf (S + n) < n
            · have e4 : hiOf S + 1 = hiOf (S + n) := by
                rcases e2 hcar with h | h
                · rw [← h]; unfold wrap64; omega
                · exact absurd ⟨hhi.2, hs0⟩ h
              have HSt : Hid (∀ W, MJ K a a (q + 1) sb S (S + n) ref W → MJ K a a (q + 1) sb (S + n) (S + n) ref ((W.setCell ⟨sb, 1, none⟩ (.int .u64 (loOf (S + n)))).setCell ⟨sb, 0, none⟩ (.int .i64 (hiOf (S + n))))) := fun W h => h.set2 _
              clear e2 e3 HS HJ hs0 hs1 hs2
              generalize hiOf S = x at *
              generalize loOf S = y at *
              generalize hiOf (S + n) = x2 at *
              generalize loOf (S + n) = y2 at *
              go_wp2_with (go_at_call 14; with_reducible refine Calls.mono (HA.out ()) ?_; rintro e w5 ⟨rfl, H5⟩; obtain ⟨f0, f1, f2, f3⟩ := HFa.out _ H5.out)
              exact ⟨⟨q + 1, ref, S + n, by omega, by simp, rfl, HSt.out _ H5.out, hEnd, hr0, hr1⟩, by simp [intOf]; omega⟩
            · have e4 := e3 hcar
              have HSt : Hid (∀ W, MJ K a a (q + 1) sb S (S + n) ref W → MJ K a a (q + 1) sb (S + n) (S + n) ref (W.setCell ⟨sb, 1, none⟩ (.int .u64 (loOf (S + n))))) := fun W h => h.set1 _ e4
              clear e2 e3 HS HJ hs0 hs1 hs2 e4
              generalize hiOf S = x at *
              generalize loOf S = y at *
              generalize loOf (S + n) = y2 at *
              go_wp2_with (go_at_call 14; with_reducible refine Calls.mono (HA.out ()) ?_; rintro e w5 ⟨rfl, H5⟩; obtain ⟨f0, f1, f2, f3⟩ := HFa.out _ H5.out)
              exact ⟨⟨q + 1, ref, S + n, by omega, by simp, rfl, HSt.out _ H5.out, hEnd, hr0, hr1⟩, by simp [intOf]; omega⟩
        · obtain rfl : q = M.length := by omega
          have hql' : ¬ (M.length : Int) < (M.length : Int) := by omega
          clear hin hai HRg
          have hm44 := hLn.out
          obtain ⟨hs0, hs1, hs2⟩ := HS.out
          obtain ⟨o2, ho2⟩ : ∃ o2 : Nat, o2 = 1 - a := ⟨_, rfl⟩
          have ho3 : (1 : Int) - (a : Int) = (o2 : Int) := by omega
          have ho4 : o2 < 2 := by omega
          have ho5 : ¬ o2 = a := by omega
          have HT : Hid (∀ _ : Unit, Calls Tryz.prog 15 #[.pointer (some ⟨k, 0, none⟩), .pointer none] wr fun e w' => e = .returned (.tuple #[.int .i64 (a : Int), .int .i64 0]) ∧ Hid (MJ K o2 a 0 sb S S ref w')) := fun _ => by
            have := HJ.out.turn ha2 (by omega)
            rw [Kk.out.1, ← ho2] at this
            exact this
          have HD1 : Hid (∀ W, MJ K o2 a 0 sb S S ref W → Calls Tryz.prog 16 #[.pointer (some ⟨s, 0, none⟩), .pointer none, .int .i64 (a : Int)] W fun e w' => ∃ ao n cap, e = .returned (.tuple #[.agg #[.int .i64 (hiOf S), .int .u64 (loOf S), .slice ao n cap, .int .u64 0, .complex .f64 0 0, .float .f64 0, .float .f64 0], .int .i64 0]) ∧ Hid (MJ K o2 a 0 sb S 0 ref w')) := fun W h => by
            have := h.drain ha2 (by omega)
            rw [Kk.out.2.1] at this
            exact this
          have HD2 : Hid (∀ W, MJ K o2 a 0 sb S 0 ref W → Calls Tryz.prog 16 #[.pointer (some ⟨s, 0, none⟩), .pointer none, .int .i64 (o2 : Int)] W fun e w' => ∃ ao n cap, e = .returned (.tuple #[.agg #[.int .i64 0, .int .u64 0, .slice ao n cap, .int .u64 0, .complex .f64 0 0, .float .f64 0, .float .f64 0], .int .i64 0]) ∧ Hid (MJ K o2 a 0 sb S 0 ref w') ∧ Hid (∀ (x : Nat) (cs : Array Value) (z : Nat × Nat), W.heap[x]? = some (.cells cs 60 z) → w'.heap[x]? = some (.cells cs 60 z))) := fun W h => by
            have := h.drain0 ho4 ho5
            rw [Kk.out.2.1] at this
            exact this
          have HF1 : Hid (∀ W, MJ K o2 a 0 sb S 0 ref W → Calls Tryz.prog 11 #[.pointer (some ⟨k, 0, none⟩), .pointer none, .int .i64 (a : Int)] W fun e w' => e = .returned (.int .u64 ref) ∧ Hid (MJ K o2 a 0 sb S 0 0 w')) := fun W h => by
            have := h.refused ha2
            rw [Kk.out.1, if_pos rfl, show rfd a a ref = ref from if_pos rfl, show IntKind.u64.wrap ref = ref by rw [IntKind.wrap_u64]; omega] at this
            exact this
          have HF2 : Hid (∀ W, MJ K o2 a 0 sb S 0 0 W → Calls Tryz.prog 11 #[.pointer (some ⟨k, 0, none⟩), .pointer none, .int .i64 (o2 : Int)] W fun e w' => e = .returned (.int .u64 0) ∧ Hid (OJ K (i + 1) w')) := fun W h => by
            have := h.refused ho4
            rw [Kk.out.1, if_neg ho5, show rfd a o2 0 = 0 by unfold rfd; split <;> rfl, show IntKind.u64.wrap 0 = 0 by decide] at this
            refine Calls.mono this ?_
            rintro e w' ⟨rfl, q⟩
            refine ⟨rfl, ?_⟩
            have q' := q.out
            rw [ho2, haH.out] at q'
            exact q'.done
          have HX : Hid (∀ W o, MJ K o2 a 0 sb S 0 ref W → (W.alloc o).cell? ⟨sb, 0, none⟩ = some (.int .i64 (hiOf S)) ∧ (W.alloc o).cell? ⟨sb, 1, none⟩ = some (.int .u64 (loOf S))) := fun W o h => mj_all h o
          clear HJ HS hs0 hs1 hs2 ho2 ho5
          generalize hiOf S = x at *
          generalize loOf S = y at *
          have sF := store_f
          have sC := store_c
          go_wp2_with (first
            | (go_at_call 15; with_reducible refine Calls.mono (HT.out ()) ?_; rintro e w5 ⟨rfl, H5⟩)
            | (go_at_call 16; with_reducible refine Calls.mono (HD1.out _ H5.out) ?_; rintro e w6 ⟨ao6, n6, cap6, rfl, H6⟩; have H6a := MJ.below H6.out (bel1 w6 (.cells #[.int .i64 x, .int .u64 y, .slice ao6 n6 cap6, .int .u64 0, .complex .f64 0 0, .float .f64 0, .float .f64 0] 60)))
            | (go_at_call 16; with_reducible refine Calls.mono (HD2.out _ H6a) ?_; rintro e w7 ⟨ao7, n7, cap7, rfl, H7, HK7⟩; have HP7 := HK7.out _ _ _ (new_1 w6 _); have X1 := fun ob => (pb_all HP7 ob).1; have X2 := fun ob => (pb_all HP7 ob).2; have X3 := fun ob => (HX.out _ ob H7.out).1; have X4 := fun ob => (HX.out _ ob H7.out).2)
            | (go_at_call 11; with_reducible refine Calls.mono (HF1.out _ (MJ.below H7.out (bel1 _ _))) ?_; rintro e w8 ⟨rfl, H8⟩)
            | (go_at_call 11; with_reducible refine Calls.mono (HF2.out _ H8.out) ?_; rintro e w9 ⟨rfl, H9⟩))
          exact ⟨⟨i + 1, by omega, by simp, H9⟩, by simp [intOf]; omega⟩
    · obtain rfl : i = L.length := by omega
      have hlt' : ¬ (L.length : Int) < (L.length : Int) := by omega
      have HE : Hid (Below w.heap.size w wr) := by
        obtain ⟨neg0, hTS0⟩ := HI.out.ex
        exact HBe.out _ (by have := hTS0.bel; rw [Kk.out.2.2.2.2] at this; exact this)
      go_wp2_with fail
      go_ret
      exact ⟨rfl, HE.out⟩
end Go.Proofs.YtpllckgpolhafaaGreatDoor
