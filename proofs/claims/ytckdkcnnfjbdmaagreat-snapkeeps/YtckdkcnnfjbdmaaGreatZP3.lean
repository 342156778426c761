/- WHICH SNAPSHOTS ARE THE SAME: the code's. Own work of the verifier. -/
import Derived.Test.YtckdkcnnfjbdmaaGreatZP1
namespace Go.Proofs.YtckdkcnnfjbdmaaGreat
open Go.RowKit Me

set_option maxHeartbeats 2000000 in
set_option maxRecDepth 100000 in
theorem ceq_any (ao : Option Addr) (b o cap : Nat) (A : List Cn) (hao : A ≠ [] → ao = some ⟨b, o, none⟩) (ao' : Option Addr) (b' o' cap' : Nat) (C : List Cn) (hao' : C ≠ [] → ao' = some ⟨b', o', none⟩) (hl : A.length ≤ 9223372036854775807) (w : World) (hA : RowC w b o A) (hC : RowC w b' o' C) :
    Calls Tryz.prog 80 #[.slice ao A.length cap, .slice ao' C.length cap'] w fun e w' => e = .returned (.bool (decide (A = C))) ∧ Below w.heap.size w w' := by
  by_cases hlen : A.length = C.length
  · have ht : ((A.length : Int) != (C.length : Int)) = false := by rw [bne_eq_false_iff_eq]; omega
    have HL : Hid _ := hlen
    have HA : Hid _ := hA
    have HC : Hid _ := hC
    clear hlen hA hC
    go_enter Tryz.func80, Tryz.ntmps80
    go_wp2_with fail
    go_loopw [13] (fun c wr => ∃ i n : Nat, i ≤ A.length ∧ c = .int .i64 (i : Int) ∧ wr = w.drewN n ∧ Hid (A.take i = C.take i)) (fun c _ => A.length - (intOf c).toNat)
    case atStart => exact ⟨0, 0, by omega, rfl, rfl, by simp [Hid]⟩
    case round =>
      obtain ⟨i, n, hi, rfl, rfl, hE⟩ := hrel
      by_cases hlt : i < A.length
      · have hlt2 : i < C.length := by have := HL.out; omega
        obtain rfl := hao (by intro e; rw [e] at hlt; simp at hlt)
        obtain rfl := hao' (by intro e; rw [e] at hlt2; simp at hlt2)
        have hlt' : (i : Int) < (A.length : Int) := by omega
        have hlt2' : (i : Int) < (C.length : Int) := by omega
        obtain ⟨q1, q2⟩ := HA.out i hlt
        obtain ⟨q3, q4⟩ := HC.out i hlt2
        have HT1 : Hid (A.take (i + 1) = A.take i ++ [A[i]]) := List.take_succ_eq_append_getElem hlt
        have HT2 : Hid (C.take (i + 1) = C.take i ++ [C[i]]) := List.take_succ_eq_append_getElem hlt2
        have HN : Hid (A[i] ≠ C[i] → A ≠ C) := fun h e => h (by subst e; rfl)
        obtain ⟨x, y, hxy⟩ : ∃ x y, A[i] = (x, y) := ⟨_, _, rfl⟩
        obtain ⟨u, v, huv⟩ : ∃ u v, C[i] = (u, v) := ⟨_, _, rfl⟩
        rw [hxy] at q1 q2 HT1 HN
        rw [huv] at q3 q4 HT2 HN
        clear hxy huv
        by_cases he : x = u ∧ y = v
        · obtain ⟨rfl, rfl⟩ := he
          clear HN
          go_wp2_with fail
          go_region
          go_wp2_with fail
          exact ⟨⟨i + 1, n + 1, by omega, by go_num, rfl, by unfold Hid; rw [HT1.out, HT2.out, hE.out]⟩, by simp [intOf]; omega⟩
        · have hne : decide (A = C) = false := decide_eq_false (HN.out (fun e => he ⟨(Prod.mk.inj e).1, (Prod.mk.inj e).2⟩))
          have HNE : Hid _ := hne
          have hor : (x == u) = false ∨ (x = u ∧ ((y : Int) == (v : Int)) = false) := by
            by_cases h1 : x = u
            · right
              exact ⟨h1, by rw [beq_eq_false_iff_ne]; intro h2; exact he ⟨h1, by omega⟩⟩
            · left
              simpa using h1
          clear he hne HN HT1 HT2 hE
          rcases hor with h1 | ⟨rfl, h1⟩
          · go_wp2_with fail
            go_region
            go_wp2_with fail
            go_ret
            exact ⟨retB HNE.out.symm, bel_drewNB (Below.refl _ _) (n + 1)⟩
          · have h2 : (y == v) = false := by rw [beq_eq_false_iff_ne] at h1 ⊢; intro e; exact h1 (by rw [e])
            go_wp2_with fail
            go_region
            go_wp2_with fail
            go_ret
            exact ⟨retB HNE.out.symm, bel_drewNB (Below.refl _ _) (n + 1)⟩
      · obtain rfl : i = A.length := by omega
        have hlt' : ¬ (A.length : Int) < (A.length : Int) := by omega
        have he : decide (A = C) = true := by
          have := hE.out
          rw [List.take_length, HL.out, List.take_length] at this
          exact decide_eq_true this
        have HE : Hid _ := he
        clear he
        go_wp2_with fail
        go_ret
        exact ⟨retB HE.out.symm, bel_drewNB (Below.refl _ _) n⟩
  · have ht : ((A.length : Int) != (C.length : Int)) = true := by rw [bne_iff_ne]; omega
    have he : decide (A = C) = false := decide_eq_false (fun e => hlen (by rw [e]))
    rw [he]
    clear he hlen hA hC
    go_enter Tryz.func80, Tryz.ntmps80
    go_wp2_with fail
    go_ret
    exact ⟨rfl, Below.refl _ _⟩
end Go.Proofs.YtckdkcnnfjbdmaaGreat
/- WHICH VALUES ARE THE SAME: sameValue, the code's. Own work of the verifier. -/
namespace Go.Proofs.YtckdkcnnfjbdmaaGreat
open Go.RowKit Me

/-- Are two values the same in all? -/
def smV (x y : Vl) : Bool := decide (x.d = y.d) && (decide (x.t = y.t) && (decide (x.cs = y.cs) && (decide (x.n = y.n) && sf x y)))
theorem words_eq {s t : Int} (_hs : InR s) (ht : InR t) : (hiOf s == hiOf t && loOf s == loOf t) = decide (s = t) := by
  have h1 := val_hl s
  have h2 := val_hl t
  by_cases e : s = t
  · subst e; simp
  · rw [decide_eq_false e]
    by_cases e1 : hiOf s = hiOf t
    · have : loOf s ≠ loOf t := fun e2 => e (by rw [← h1, ← h2, e1, e2])
      rw [beq_eq_false_iff_ne.2 this, Bool.and_false]
    · rw [beq_eq_false_iff_ne.2 e1, Bool.false_and]
set_option maxRecDepth 100000 in
set_option maxHeartbeats 8000000 in
theorem csamev_any (x y : Vl) (v u : Value) (hx : VW x) (hy : VW y) (w : World) (hv : VAt w x v) (hu : VAt w y u) :
    Calls Tryz.prog 44 #[v, u] w fun e w' => e = .returned (.bool (smV x y)) ∧ Below w.heap.size w w' := by
  obtain ⟨lv, cv, rfl, hl, hc⟩ := hv
  obtain ⟨lw, cw, rfl, hl', hc'⟩ := hu
  obtain ⟨ca, b, o, cc, rfl, hao, hr⟩ := hc.sc
  obtain ⟨ca', b', o', cc', rfl, hao', hr'⟩ := hc'.sc
  have HD : Hid (∀ W, Below w.heap.size w W → Calls Tryz.prog 79 #[.agg #[.int .i64 x.d.kind, .string ⟨x.d.name.toArray⟩, .string ⟨x.d.help.toArray⟩, lv], .agg #[.int .i64 y.d.kind, .string ⟨y.d.name.toArray⟩, .string ⟨y.d.help.toArray⟩, lw]] W fun e w' => e = .returned (.bool (decide (x.d = y.d))) ∧ Below W.heap.size W w') := fun W h => La.csame_any x.d y.d _ _ W (hl.below h).dsc.at (hl'.below h).dsc.at
  have HE : Hid (∀ W, Below w.heap.size w W → Calls Tryz.prog 80 #[.slice ca x.cs.length cc, .slice ca' y.cs.length cc'] W fun e w' => e = .returned (.bool (decide (x.cs = y.cs))) ∧ Below W.heap.size W w') := fun W h => ceq_any ca b o cc x.cs hao ca' b' o' cc' y.cs hao' (by have := hx.cl; omega) W (hr.below h (fun k => hr.lt k)) (hr'.below h (fun k => hr'.lt k))
  have HF : Hid (∀ W, Calls Tryz.prog 81 #[vx x lv (.slice ca x.cs.length cc), vx y lw (.slice ca' y.cs.length cc')] W fun e w' => e = .returned (.bool (sf x y)) ∧ Below W.heap.size W w') := fun W => sfl_any x.sum x.mn x.mx y.sum y.mn y.mx hx.sum hx.mn hx.mx hy.sum hy.mn hy.mx _ _ _ _ _ _ _ _ _ _ _ _ _ _ _ _ W
  have HK := hid_of (fun T => (KV.new2 hl hc hl' hc' T))
  have HT := hid_of (words_eq hx.t hy.t)
  clear hl hc hl' hc' hr hr' hao hao' hx hy
  unfold smV
  generalize sf x y = sb at *
  generalize decide (x.d = y.d) = db at *
  generalize decide (x.cs = y.cs) = eb at *
  rw [← HT.out]
  clear HT
  cases db
  · rw [Bool.false_and]
    go_enter Tryz.func44, Tryz.ntmps44
    go_wp2_with (go_at_call 79; with_reducible refine (HD.out _ (bel2 w _ _)).mono ?_; rintro e w1 ⟨rfl, hb1⟩)
    go_ret
    exact ⟨rfl, bt (bel2 w _ _) hb1⟩
  · rw [Bool.true_and]
    obtain ⟨h1, hh1⟩ : ∃ h1, (hiOf x.t == hiOf y.t) = h1 := ⟨_, rfl⟩
    obtain ⟨h2, hh2⟩ : ∃ h2, (loOf x.t == loOf y.t) = h2 := ⟨_, rfl⟩
    obtain ⟨h3, hh3⟩ : ∃ h3, ((x.n : Int) == (y.n : Int)) = h3 := ⟨_, rfl⟩
    have hn : decide (x.n = y.n) = h3 := by
      rw [← hh3]
      by_cases e : x.n = y.n
      · rw [decide_eq_true e, e]; simp
      · rw [decide_eq_false e]; symm; rw [beq_eq_false_iff_ne]; omega
    have hh3' : (x.n == y.n) = h3 := by
      rw [← hn]
      by_cases e : x.n = y.n
      · rw [decide_eq_true e, e]; simp
      · rw [decide_eq_false e]; simpa using e
    rw [hh1, hh2, hn]
    clear hn
    cases h1 <;> cases h2 <;> cases eb <;> cases h3
    all_goals
      go_enter Tryz.func44, Tryz.ntmps44
      go_wp2_with (first
        | (go_at_call 79; with_reducible refine (HD.out _ (bel2 w _ _)).mono ?_; rintro e w1 ⟨rfl, hb1⟩; have HB1 := hid_of (bt (bel2 w _ _) hb1); obtain ⟨c0, c1, c2, c3, c4, c5, c6, c7, c8, c9, c10⟩ := ((HK.out 45).1.below hb1).box; obtain ⟨d0, d1, d2, d3, d4, d5, d6, d7, d8, d9, d10⟩ := ((HK.out 45).2.below hb1).box)
        | (go_at_call 80; with_reducible refine (HE.out _ HB1.out).mono ?_; rintro e w2 ⟨rfl, hb2⟩; have HB1 := hid_of (bt HB1.out hb2); obtain ⟨c0, c1, c2, c3, c4, c5, c6, c7, c8, c9, c10⟩ := (((HK.out 45).1.below hb1).below hb2).box; obtain ⟨d0, d1, d2, d3, d4, d5, d6, d7, d8, d9, d10⟩ := (((HK.out 45).2.below hb1).below hb2).box)
        | (go_at_call 81; with_reducible refine (HF.out _).mono ?_; rintro e w3 ⟨rfl, hb3⟩; have HB1 := hid_of (bt HB1.out hb3)))
      go_ret
      exact ⟨rfl, HB1.out⟩
end Go.Proofs.YtckdkcnnfjbdmaaGreat
