/- THE CODE'S Same. Own work of the verifier. -/
import Derived.Test.YtmphajfhilpgeabCA7
namespace Go.Proofs.Ytmphajfhilpgeab
open Go.RowKit

set_option maxHeartbeats 2000000 in
set_option maxRecDepth 100000 in
theorem csamel_any (ao : Option Addr) (b o cap : Nat) (A : List Lb) (hao : A ≠ [] → ao = some ⟨b, o, none⟩) (ao' : Option Addr) (b' o' cap' : Nat) (C : List Lb) (hao' : C ≠ [] → ao' = some ⟨b', o', none⟩) (hl : A.length ≤ 9223372036854775807) (w : World) (hA : RowL w b o A) (hC : RowL w b' o' C) :
    Calls Try.prog 32 #[.slice ao A.length cap, .slice ao' C.length cap'] w fun e w' => e = .returned (.bool (decide (A = C))) ∧ ∃ n, w' = w.drewN n := by
  by_cases hlen : A.length = C.length
  · have ht : ((A.length : Int) != (C.length : Int)) = false := by rw [bne_eq_false_iff_eq]; omega
    have HL : Hid _ := hlen
    have HA : Hid _ := hA
    have HC : Hid _ := hC
    clear hlen hA hC
    go_enter Try.func32, Try.ntmps32
    go_wp2_with fail
    go_loopw [13] (fun c wr => ∃ i n : Nat, i ≤ A.length ∧ c = .int .i64 (i : Int) ∧ wr = w.drewN n ∧ Hid (A.take i = C.take i)) (fun c _ => A.length - (intOf c).toNat)
    case atStart => exact ⟨0, 0, by omega, rfl, rfl, by simp [Hid]⟩
    case round =>
      obtain ⟨i, n, hi, rfl, rfl, hE⟩ := hrel
      by_cases hlt : i < A.length
      · have hlt2 : i < C.length := by have := HL.out; omega
        obtain rfl := hao (by intro e; rw [e] at hlt; simp at hlt)
        obtain rfl := hao' (by intro e; rw [e] at hlt2; simp at hlt2)
        have hlt' : (i : Int) < (A.length : Int) := by omega
        have hlt2' : (i : Int) < (C.length : Int) := by omega
        obtain ⟨q1, q2⟩ := HA.out i hlt
        obtain ⟨q3, q4⟩ := HC.out i hlt2
        have HT1 : Hid (A.take (i + 1) = A.take i ++ [A[i]]) := List.take_succ_eq_append_getElem hlt
        have HT2 : Hid (C.take (i + 1) = C.take i ++ [C[i]]) := List.take_succ_eq_append_getElem hlt2
        have HN : Hid (A[i] ≠ C[i] → A ≠ C) := fun h e => h (by subst e; rfl)
        obtain ⟨x, y, hxy⟩ : ∃ x y, A[i] = (x, y) := ⟨_, _, rfl⟩
        obtain ⟨u, v, huv⟩ : ∃ u v, C[i] = (u, v) := ⟨_, _, rfl⟩
        rw [hxy] at q1 q2 HT1 HN
        rw [huv] at q3 q4 HT2 HN
        clear hxy huv
        by_cases he : x = u ∧ y = v
        · obtain ⟨rfl, rfl⟩ := he
          clear HN
          as_aux_lemma =>
            go_wp2_with fail
            go_region
            go_wp2_with fail
            exact ⟨⟨i + 1, n + 1, by omega, by go_num, rfl, by unfold Hid; rw [HT1.out, HT2.out, hE.out]⟩, by simp [intOf]; omega⟩
        · have hne : decide (A = C) = false := decide_eq_false (HN.out (fun e => he ⟨(Prod.mk.inj e).1, (Prod.mk.inj e).2⟩))
          have HNE : Hid _ := hne
          have hor : (x == u) = false ∨ (x = u ∧ (y == v) = false) := by
            by_cases h1 : x = u
            · right
              exact ⟨h1, by simpa using fun h2 => he ⟨h1, h2⟩⟩
            · left
              simpa using h1
          clear he hne HN HT1 HT2 hE
          rcases hor with h1 | ⟨rfl, h1⟩
          · as_aux_lemma =>
              go_wp2_with fail
              go_region
              go_wp2_with fail
              go_ret
              exact ⟨retB HNE.out.symm, n + 1, rfl⟩
          · as_aux_lemma =>
              go_wp2_with fail
              go_region
              go_wp2_with fail
              go_ret
              exact ⟨retB HNE.out.symm, n + 1, rfl⟩
      · obtain rfl : i = A.length := by omega
        have hlt' : ¬ (A.length : Int) < (A.length : Int) := by omega
        have he : decide (A = C) = true := by
          have := hE.out
          rw [List.take_length, HL.out, List.take_length] at this
          exact decide_eq_true this
        have HE : Hid _ := he
        clear he
        as_aux_lemma =>
          go_wp2_with fail
          go_ret
          exact ⟨retB HE.out.symm, n, rfl⟩
  · have ht : ((A.length : Int) != (C.length : Int)) = true := by rw [bne_iff_ne]; omega
    have he : decide (A = C) = false := decide_eq_false (fun e => hlen (by rw [e]))
    rw [he]
    clear he hlen hA hC
    as_aux_lemma =>
      go_enter Try.func32, Try.ntmps32
      go_wp2_with fail
      go_ret
      exact ⟨rfl, 0, rfl⟩
set_option maxHeartbeats 2000000 in
set_option maxRecDepth 100000 in
theorem csame_any (d e : Ds) (v u : Value) (w : World) (hd : DsAt w d v) (he : DsAt w e u) :
    Calls Try.prog 16 #[v, u] w fun r w' => r = .returned (.bool (decide (d = e))) ∧ Below w.heap.size w w' := by
  obtain ⟨ao, b, o, cap, rfl, h1, h2, h3⟩ := hd.ex
  obtain ⟨ao', b', o', cap', rfl, k1, k2, k3⟩ := he.ex
  obtain ⟨kd, n, h, L⟩ := d
  obtain ⟨kd', n', h', L'⟩ := e
  have HSL : Hid (∀ W, Below w.heap.size w W → Calls Try.prog 32 #[.slice ao L.length cap, .slice ao' L'.length cap'] W fun e w' => e = .returned (.bool (decide (L = L'))) ∧ ∃ n, w' = W.drewN n) := fun W hb => csamel_any ao b o cap L h1 ao' b' o' cap' L' k1 h2 W (h3.below hb) (k3.below hb)
  clear h1 h2 h3 k1 k2 k3 hd he
  by_cases g1 : kd = kd'
  · subst g1
    by_cases g2 : n = n'
    · subst g2
      by_cases g3 : h = h'
      · subst g3
        have hE : decide ((⟨kd, n, h, L⟩ : Ds) = ⟨kd, n, h, L'⟩) = decide (L = L') := decide_eq_decide.2 ⟨fun e => (Ds.mk.inj e).2.2.2, fun e => by rw [e]⟩
        have HE : Hid _ := hE
        clear hE
        as_aux_lemma =>
          go_enter Try.func16, Try.ntmps16
          go_wp2_with fail
          refine (HSL.out _ (bel2 w _ _)).mono ?_
          rintro r w1 ⟨rfl, m, rfl⟩
          go_wp2_with fail
          go_ret
          exact ⟨retB HE.out.symm, (bel2 w _ _).trans ((below_drewN _ m).mono (bel2 w _ _).size)⟩
      · have g3' : (h == h') = false := by simpa using g3
        rw [show decide ((⟨kd, n, h, L⟩ : Ds) = ⟨kd, n, h', L'⟩) = false from decide_eq_false (fun e => g3 (Ds.mk.inj e).2.2.1)]
        clear g3
        as_aux_lemma =>
          go_enter Try.func16, Try.ntmps16
          go_wp2_with fail
          go_ret
          exact ⟨rfl, bel2 w _ _⟩
    · have g2' : (n == n') = false := by simpa using g2
      rw [show decide ((⟨kd, n, h, L⟩ : Ds) = ⟨kd, n', h', L'⟩) = false from decide_eq_false (fun e => g2 (Ds.mk.inj e).2.1)]
      clear g2
      as_aux_lemma =>
        go_enter Try.func16, Try.ntmps16
        go_wp2_with fail
        go_ret
        exact ⟨rfl, bel2 w _ _⟩
  · have g1' : (kd == kd') = false := by simpa using g1
    rw [show decide ((⟨kd, n, h, L⟩ : Ds) = ⟨kd', n', h', L'⟩) = false from decide_eq_false (fun e => g1 (Ds.mk.inj e).1)]
    clear g1
    as_aux_lemma =>
      go_enter Try.func16, Try.ntmps16
      go_wp2_with fail
      go_ret
      exact ⟨rfl, bel2 w _ _⟩
end Go.Proofs.Ytmphajfhilpgeab
