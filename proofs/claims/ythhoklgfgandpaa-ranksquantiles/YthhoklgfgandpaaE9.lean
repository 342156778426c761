/- THE WALK OF THE QUANTILES' LAW where all is well. Own work of the verifier. -/
import Derived.Test.YthhoklgfgandpaaE8
namespace Go.Proofs.Ythhoklgfgandpaa
open Go.RowKit

theorem exact_any (n num den r : Nat) (h1 : 1 ≤ n) (h2 : num ≤ den) (h3 : 1 ≤ den) (h4 : den < 9223372036854775808) (hr : r = rkN n num den) (w : World) :
    Calls Try.prog 26 #[.int .u64 (r : Int), .int .u64 (n : Int), .int .u64 (num : Int), .int .u64 (den : Int)] w fun e w' => e = .returned (.bool true) ∧ w' = w := by
  by_cases hn : n ≤ 2147483648
  · exact exact_few n num den r h1 hn h2 h3 h4 hr w
  · exact exact_many r n num den (by omega) w
set_option maxRecDepth 10000 in
set_option maxHeartbeats 4000000 in
theorem quant_good (T : Told) (p num den : Nat) (b o cap : Nat) (S : List Int) (h1 : 1 ≤ p) (h2 : p ≤ 14) (h3 : 1 ≤ den) (h4 : num ≤ den) (h5 : den < 9223372036854775808) (hn : 1 ≤ S.length) (hl : S.length ≤ 17592186043904) (hcap : S.length ≤ cap) (hS : ∀ x ∈ S, x < 9223372036854775808) (w : World) (hR : RowI w b o S) :
    Calls Try.prog 5 #[.agg #[.int .i64 (p : Int), .slice (some ⟨b, o, none⟩) S.length cap, .int .i64 (num : Int), .int .i64 (den : Int)]] w fun e w' => e = .returned (.bool true) ∧ Below w.heap.size w w' := by
  have HF : Hid (∀ W, _) := T.fixed
  have HT : Hid Told := T
  obtain ⟨n, hn'⟩ : ∃ n, S.length = n := ⟨_, rfl⟩
  have HR : Hid (RowI w b o S) := hR
  have HN : Hid _ := hn'
  have HS : Hid _ := hS
  have H1 : Hid (∀ W, Below w.heap.size w W → Calls Try.prog 24 #[.slice (some ⟨b, o, none⟩) n cap] W fun e w' => SdI W S e w') := fun W hW => by
    have := sorted_any_i S.length S b o cap W (Nat.le_refl _) hl hcap (hR.below hW (fun k => hR.lt k))
    rw [hn'] at this
    exact this
  rw [hn'] at hn hl hcap ⊢
  clear hR hn' hS T
  have t1 : ¬ (p : Int) < 1 := by omega
  have t2 : ¬ (14 : Int) < (p : Int) := by omega
  have t3 : ¬ (den : Int) < 1 := by omega
  have t4 : ¬ (num : Int) < 0 := by omega
  have t5 : ¬ (den : Int) < (num : Int) := by omega
  have t6 : ((n : Int) == 0) = false := by rw [beq_eq_false_iff_ne]; omega
  go_enter Try.func5, Try.ntmps5
  go_wp2_with fail
  go_region
  go_wp2_with fail
  have HB0 : Hid (Below w.heap.size w (w.alloc (.cells #[.int .i64 (p : Int), .slice (some ⟨b, o, none⟩) n cap, .int .i64 (num : Int), .int .i64 (den : Int)] 42)).drew) := ((Below.refl w.heap.size w).alloc (Nat.le_refl _) _).drew
  generalize (w.alloc (.cells #[.int .i64 (p : Int), .slice (some ⟨b, o, none⟩) n cap, .int .i64 (num : Int), .int .i64 (den : Int)] 42)).drew = w0 at *
  go_loopw [7] (fun c wr => ∃ i : Nat, i ≤ n ∧ c = .int .i64 (i : Int) ∧ wr = w0 ∧ Hid (∀ x ∈ S.take i, 0 ≤ x)) (fun c _ => n - (intOf c).toNat)
  case atStart => exact ⟨0, by omega, rfl, rfl, fun x hx => by simp at hx⟩
  case round =>
    obtain ⟨i, hil, rfl, rfl, hP⟩ := hrel
    by_cases hlt : i < n
    · have hlt' : (i : Int) < (n : Int) := by omega
      have u1 : i < S.length := by rw [HN.out]; exact hlt
      have q1 := HR.out.below HB0.out (fun k => HR.out.lt k) i u1
      have HP : Hid (0 ≤ S[i] → ∀ x ∈ S.take (i + 1), 0 ≤ x) := fun h x hx => by
        rw [List.take_succ_eq_append_getElem u1] at hx
        rcases List.mem_append.1 hx with k | k
        · exact hP.out x k
        · rw [List.mem_singleton.1 k]; exact h
      generalize S[i] = y at *
      by_cases hy : y < 0
      · go_wp2_with (go_at_call 8; with_reducible refine (HF.out _).mono ?_; rintro e w1 ⟨rfl, hb⟩)
        go_ret
        exact ⟨rfl, bt HB0.out hb⟩
      · go_wp2_with fail
        exact ⟨⟨i + 1, by omega, rfl, trivial, HP.out (by omega)⟩, by simp [intOf]; omega⟩
    · have hlt' : ¬ (i : Int) < (n : Int) := by omega
      have ei : i = n := by omega
      subst i
      have HS2 : Hid (∀ x ∈ S, 0 ≤ x ∧ x < 9223372036854775808) := fun x hx => ⟨hP.out x (by rw [List.take_of_length_le (by rw [HN.out]; omega)]; exact hx), HS.out x hx⟩
      go_wp2_with (go_at_call 24; with_reducible refine (H1.out _ HB0.out).mono ?_; rintro e w1 hsd; obtain ⟨g1, k1, S1, rfl, hs1, hp1, hr1, hb1, hn1, hk1⟩ := sd_open_i hsd HN.out hn)
      have hS1 : ∀ x ∈ S1, 0 ≤ x ∧ x < 9223372036854775808 := fun x hx => HS2.out x (hp1.mem_iff.1 hx)
      have hct := counted_any p h1 h2 g1 k1 S1 (by rw [hn1]; exact hl) hS1 hs1 w1 hr1
      rw [hn1] at hct
      refine Calls.mono hct ?_
      rintro e w2 ⟨cv, O, ks, rfl, hG, hC, hK⟩
      have hsc := hG.sn
      obtain ⟨r, q, a, y, hr, hr1', hr2, ⟨hr3, hy⟩, hq, hrk, ham, hra, han, hyq, hqy, hqt, hmy, hwc, hol⟩ := quant_facts (num := num) h1 h2 h3 h4 hn hl hS1 hs1 hn1 hC hK
      have hb2 : Below w1.heap.size w1 w2 := hG.below
      have hr2' : RowI w2 g1 0 S1 := hr1.below hb2 (fun k => hr1.lt k)
      have HQ : Hid (∀ W, Below w2.heap.size w2 W → Calls Try.prog 20 #[.int .i64 (p : Int), cv, .int .i64 (num : Int), .int .i64 (den : Int)] W fun e w' => e = two (q : Int) 0 ∧ Below W.heap.size W w') := fun W hW => by
        have := HT.out.quant W cv O p num den (hsc.below hW) hwc hol hmy (by omega)
        rw [hq] at this
        exact this
      have HK : Hid (∀ W, Calls Try.prog 18 #[.int .u64 (n : Int), .int .i64 (num : Int), .int .i64 (den : Int)] W fun e w' => e = twoU (r : Nat) 0 ∧ Below W.heap.size W w') := fun W => by
        have := HT.out.rank W n num den (by omega) (by omega)
        rw [hrk] at this
        exact this
      have HM : Hid (∀ W, Below w2.heap.size w2 W → Calls Try.prog 11 #[.int .i64 (p : Int), cv] W fun e w' => e = .returned (.int .i64 0) ∧ Below W.heap.size W w') := fun W hW => HT.out.may W cv O p 0 (hsc.below hW) hwc hol hmy
      have HA : Hid (∀ W, Below w2.heap.size w2 W → Calls Try.prog 22 #[.int .i64 (p : Int), cv, .int .i64 (q : Int)] W fun e w' => e = twoU (a : Nat) 0 ∧ Below W.heap.size W w') := fun W hW => by
        have := HT.out.most W cv O p q (hsc.below hW) hwc hol hmy
        rw [ham] at this
        exact this
      have HE : Hid (∀ W, _) := exact_any n num den r hn h4 h3 h5 hr
      have HW : Hid (∀ W, Below w2.heap.size w2 W → Calls Try.prog 27 #[.int .i64 (p : Int), .slice (some ⟨g1, 0, none⟩) n k1, cv, .int .i64 (y : Int)] W fun e w' => e = .returned (.bool true) ∧ Below W.heap.size W w') := fun W hW => by
        have := within_any p h1 h2 g1 k1 S1 ks O cv y (by omega) hS1 W (hr2'.below hW (fun k => hr2'.lt k)) hK hC (fun W' hW' => HT.out.most W' cv O p y (hsc.below (bt hW hW')) hwc hol hmy)
        rw [hn1] at this
        exact this
      have HZ : Hid (∀ W, Below w2.heap.size w2 W → W.cell? ⟨g1, r - 1, none⟩ = some (.int .i64 (y : Int))) := fun W hW => by
        have := hr2'.below hW (fun k => hr2'.lt k) (r - 1) hr3
        rw [hy, Nat.zero_add] at this
        exact this
      have HB2 : Hid (Below w.heap.size w w2) := bt (bt HB0.out hb1) hb2
      have m1 : IntKind.u64.wrap ((r : Int) - 1) = ((r - 1 : Nat) : Int) := by rw [IntKind.wrap_u64]; omega
      have m2 : ¬ (r : Int) < 1 := by omega
      have m3 : ¬ (n : Int) < (r : Int) := by omega
      have m4 : ((r - 1 : Nat) : Int) < (n : Int) := by omega
      have m5 : ¬ (q : Int) < (y : Int) := by omega
      have m6 : wrap64 ((q : Int) - (y : Int)) = ((q - y : Nat) : Int) := sub_nat hyq hqt
      have m7 : ¬ (y : Int) / 2 ^ p < ((q - y : Nat) : Int) := by rw [div_pow]; omega
      have m8 : ¬ (a : Int) < (r : Int) := by omega
      have m9 : (0 : Int) ≤ (p : Int) := by omega
      clear hsc hr hq hrk ham hmy hwc hol hG hC hK hct hsd hS1 hs1 hp1 hr1 hb1 hn1 hk1 hr2' hy hb2 hqy hra han hyq H1 HT
      go_wp2_with (first
        | (go_at_call 20; with_reducible refine (HQ.out _ (Below.refl _ _)).mono ?_; rintro e w3 ⟨rfl, hb3⟩)
        | (go_at_call 18; with_reducible refine (HK.out _).mono ?_; rintro e w4 ⟨rfl, hb4⟩; have hb4' := bt hb3 hb4)
        | (go_at_call 11; with_reducible refine (HM.out _ hb4').mono ?_; rintro e w5 ⟨rfl, hb5⟩; have hb5' := bt hb4' hb5; have z1 := HZ.out _ hb5')
        | (go_at_call 22; with_reducible refine (HA.out _ hb5').mono ?_; rintro e w6 ⟨rfl, hb6⟩; have hb6' := bt hb5' hb6)
        | (go_at_call 26; with_reducible refine (HE.out _).mono ?_; rintro e w7 ⟨rfl, rfl⟩)
        | (go_at_call 27; with_reducible refine (HW.out _ hb6').mono ?_; rintro e w8 ⟨rfl, hb8⟩; have hb8' := bt hb6' hb8)
        | (go_at_call 8; with_reducible refine (HF.out _).mono ?_; rintro e w9 ⟨rfl, hb9⟩; have hb9' := bt hb8' hb9))
      go_ret
      exact ⟨rfl, bt HB2.out hb9'⟩
end Go.Proofs.Ythhoklgfgandpaa
