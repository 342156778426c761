/- THE LAW's OWN LOOP over a text. Own work of the verifier. -/
import Derived.Test.YtiaidedhgceikaaGreatDoorL1
namespace Go.Proofs.YtiaidedhgceikaaGreatDoor
open Go.RowKit

set_option maxRecDepth 10000 in
set_option maxHeartbeats 2000000 in
theorem digits_gen (l : List UInt8) (hl : l.length ≤ 25) (D : Nat → Int → Int → Nat → Prop) (h0 : D 0 (-1) (-1) 0)
    (h1 : ∀ i (hi : i < l.length) f la n, D i f la n → l[i].toNat ≠ 101 → (l[i].toNat < 48 ∨ 57 < l[i].toNat) → D (i + 1) f la n)
    (h2 : ∀ i (hi : i < l.length) f la n, D i f la n → l[i].toNat = 48 → D (i + 1) f la (n + 1))
    (h3 : ∀ i (hi : i < l.length) f la n, D i f la n → 48 < l[i].toNat → l[i].toNat ≤ 57 → (f < 0 → D (i + 1) (n : Int) (n : Int) (n + 1)) ∧ (¬ f < 0 → D (i + 1) f (n : Int) (n + 1)))
    (h4 : ∀ i f la n, D i f la n → n ≤ i ∧ (f = -1 ∨ ∃ p q : Nat, f = (p : Int) ∧ la = (q : Int) ∧ q ≤ p + 16 ∧ p ≤ i ∧ q ≤ i)) (w : World) :
    Calls Tryz.prog 7 #[.string ⟨l.toArray⟩] w fun e w' => (∃ d : Int, e = .returned (.int .i64 d) ∧ d ≤ 17) ∧ w' = w := by
  have H1 : Hid _ := h1
  have H2 : Hid _ := h2
  have H3 : Hid _ := h3
  have H4 : Hid _ := h4
  clear h1 h2 h3 h4
  go_enter Tryz.func7, Tryz.ntmps7
  go_wp2_with fail
  go_loopw [3, 4, 5, 6] (fun a b c d wr => ∃ (i n : Nat) (f la : Int), i ≤ l.length ∧ a = .int .i64 f ∧ b = .int .i64 la ∧ c = .int .i64 (n : Int) ∧ d = .int .i64 (i : Int) ∧ Hid (D i f la n) ∧ wr = w) (fun _ _ _ d _ => l.length - (intOf d).toNat)
  case atStart => exact ⟨0, 0, -1, -1, by omega, rfl, rfl, rfl, rfl, h0, rfl⟩
  case round =>
    obtain ⟨i, n, f, la, hi, rfl, rfl, rfl, rfl, hI, rfl⟩ := hrel
    obtain ⟨hn, hend⟩ := H4.out _ _ _ _ hI
    by_cases hlt : i < l.length
    · have hlt' : (i : Int) < (l.length : Int) := by omega
      have hB : i < (ByteArray.mk l.toArray).size := by show i < l.toArray.size; simpa using hlt
      have hbe : ((ByteArray.mk l.toArray)[i]'hB).toNat = l[i].toNat := rfl
      have K1 : Hid _ := H1.out i hlt f la n hI
      have K2 : Hid _ := H2.out i hlt f la n hI
      have K3 : Hid _ := H3.out i hlt f la n hI
      by_cases c1 : l[i].toNat = 101
      · have t1 : ((((ByteArray.mk l.toArray)[i]'hB).toNat : Int) != 101) = false := by rw [bne_eq_false_iff_eq, hbe]; omega
        clear hbe c1 K1 K2 K3
        rcases hend with rfl | ⟨p, q, rfl, rfl, e1, e2, e3⟩
        · go_wp2_with fail
          go_ret
          exact ⟨⟨0, rfl, by omega⟩, rfl⟩
        · have t2 : ¬ (p : Int) < 0 := by omega
          go_wp2_with fail
          go_ret
          exact ⟨⟨_, rfl, by omega⟩, rfl⟩
      · have t1 : ((((ByteArray.mk l.toArray)[i]'hB).toNat : Int) != 101) = true := by rw [bne_iff_ne, hbe]; omega
        by_cases c2 : l[i].toNat < 48
        · have t2 : (((ByteArray.mk l.toArray)[i]'hB).toNat : Int) < 48 := by rw [hbe]; omega
          have hD : Hid _ := K1.out c1 (Or.inl c2)
          clear hbe c1 K1 K2 K3 c2
          go_wp2_with fail
          exact ⟨⟨i + 1, n, f, la, by omega, rfl, rfl, rfl, by go_num, hD, True.intro⟩, by simp [intOf]; omega⟩
        · have t2 : ¬ (((ByteArray.mk l.toArray)[i]'hB).toNat : Int) < 48 := by rw [hbe]; omega
          by_cases c3 : 57 < l[i].toNat
          · have t3 : (57 : Int) < (((ByteArray.mk l.toArray)[i]'hB).toNat : Int) := by rw [hbe]; omega
            have hD : Hid _ := K1.out c1 (Or.inr c3)
            clear hbe c1 K1 K2 K3 c2 c3
            go_wp2_with fail
            exact ⟨⟨i + 1, n, f, la, by omega, rfl, rfl, rfl, by go_num, hD, True.intro⟩, by simp [intOf]; omega⟩
          · have t3 : ¬ (57 : Int) < (((ByteArray.mk l.toArray)[i]'hB).toNat : Int) := by rw [hbe]; omega
            by_cases c4 : l[i].toNat = 48
            · have t4 : ((((ByteArray.mk l.toArray)[i]'hB).toNat : Int) != 48) = false := by rw [bne_eq_false_iff_eq, hbe]; omega
              have hD : Hid _ := K2.out c4
              clear hbe c1 K1 K2 K3 c2 c3 c4
              go_wp2_with fail
              exact ⟨⟨i + 1, n + 1, f, la, by omega, rfl, rfl, by go_num, by go_num, hD, True.intro⟩, by simp [intOf]; omega⟩
            · have t4 : ((((ByteArray.mk l.toArray)[i]'hB).toNat : Int) != 48) = true := by rw [bne_iff_ne, hbe]; omega
              obtain ⟨d1, d2⟩ := K3.out (by omega) (by omega)
              have HD1 : Hid _ := d1
              have HD2 : Hid _ := d2
              clear hbe c1 K1 K2 K3 c2 c3 c4 d1 d2
              by_cases c5 : f < 0
              · have hD : Hid _ := HD1.out c5
                clear HD1 HD2
                go_wp2_with fail
                exact ⟨⟨i + 1, n + 1, n, n, by omega, rfl, rfl, by go_num, by go_num, hD, True.intro⟩, by simp [intOf]; omega⟩
              · have hD : Hid _ := HD2.out (by omega)
                clear HD1 HD2
                go_wp2_with fail
                exact ⟨⟨i + 1, n + 1, f, n, by omega, rfl, rfl, by go_num, by go_num, hD, True.intro⟩, by simp [intOf]; omega⟩
    · obtain rfl : i = l.length := by omega
      have hlt' : ¬ (l.length : Int) < (l.length : Int) := by omega
      rcases hend with rfl | ⟨p, q, rfl, rfl, e1, e2, e3⟩
      · go_wp2_with fail
        go_ret
        exact ⟨⟨0, rfl, by omega⟩, rfl⟩
      · have t2 : ¬ (p : Int) < 0 := by omega
        go_wp2_with fail
        go_ret
        exact ⟨⟨_, rfl, by omega⟩, rfl⟩
end Go.Proofs.YtiaidedhgceikaaGreatDoor
