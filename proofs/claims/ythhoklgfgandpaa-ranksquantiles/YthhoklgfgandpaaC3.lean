/- At, the document's. Own work of the verifier. -/
import Derived.Test.YthhoklgfgandpaaC2
namespace Go.Proofs.Ythhoklgfgandpaa
open Go.RowKit

def atF : List Cn → Nat → Int × Int
  | [], _ => (0, 2)
  | c :: L, r => if r = 0 then (0, 2) else if r ≤ c.2 then (c.1, 0) else atF L (r - c.2)
theorem atF_zero (L : List Cn) : atF L 0 = (0, 2) := by cases L <;> simp [atF]
theorem atF_drop {L : List Cn} {i r : Nat} (h : i < L.length) (hr : r ≠ 0) : atF (L.drop i) r = if r ≤ L[i].2 then (L[i].1, 0) else atF (L.drop (i + 1)) (r - L[i].2) := by
  rw [List.drop_eq_getElem_cons h]
  simp only [atF]
  rw [if_neg hr]
theorem two_eq {x y : Int} {p : Int × Int} (h : p = (x, y)) : two x y = two p.1 p.2 := by rw [h]
set_option maxHeartbeats 1000000 in
theorem rat_any (ao : Option Addr) (b o cap : Nat) (L : List Cn) (hao : L ≠ [] → ao = some ⟨b, o, none⟩) (hl : L.length ≤ 9223372036854775807) (r : Nat) (hr : r < 18446744073709551616) (w : World) (hR : RowC w b o L) :
    Calls Try.prog 10 #[.slice ao L.length cap, .int .u64 (r : Int)] w fun e w' => e = two (atF L r).1 (atF L r).2 ∧ ∃ n, w' = w.drewN n := by
  go_enter Try.func10, Try.ntmps10
  go_wp2_with fail
  go_loopw [1, 6] (fun a c wr => ∃ i s n : Nat, i ≤ L.length ∧ s < 18446744073709551616 ∧ a = .int .u64 (s : Int) ∧ c = .int .i64 (i : Int) ∧ wr = w.drewN n ∧ Hid (atF L r = atF (L.drop i) s)) (fun _ c _ => L.length - (intOf c).toNat)
  case atStart => exact ⟨0, r, 0, by omega, hr, rfl, rfl, rfl, rfl⟩
  case round =>
    obtain ⟨i, s, n, hi, hs, rfl, rfl, rfl, hE⟩ := hrel
    by_cases hlt : i < L.length
    · have hlt' : (i : Int) < (L.length : Int) := by omega
      by_cases hs0 : s = 0
      · subst hs0
        have hz : ¬ (0 : Int) < ((0 : Nat) : Int) := by omega
        have HE : Hid (atF L r = (0, 2)) := by unfold Hid; rw [hE.out, atF_zero]
        go_wp2_with fail
        go_ret2
        exact ⟨two_eq HE.out, n, rfl⟩
      · have hz : (0 : Int) < (s : Int) := by omega
        obtain rfl := hao (by intro e; rw [e] at hlt; simp at hlt)
        obtain ⟨q1, q2⟩ := hR i hlt
        have HD : Hid _ := atF_drop hlt hs0
        obtain ⟨x, y, hxy⟩ : ∃ x y, L[i] = (x, y) := ⟨_, _, rfl⟩
        rw [hxy] at q1 q2 HD
        clear hxy
        by_cases hle : s ≤ y
        · have hle' : (s : Int) ≤ (y : Int) := by omega
          have HE : Hid (atF L r = (x, 0)) := by unfold Hid; rw [hE.out, HD.out, if_pos hle]
          clear HD hle hs0
          go_wp2_with fail
          go_ret2
          exact ⟨two_eq HE.out, n, rfl⟩
        · have hle' : ¬ (s : Int) ≤ (y : Int) := by omega
          have HE : Hid (atF L r = atF (L.drop (i + 1)) (s - y)) := by unfold Hid; rw [hE.out, HD.out, if_neg hle]
          have hw : IntKind.u64.wrap ((s : Int) - (y : Int)) = ((s - y : Nat) : Int) := by rw [IntKind.wrap_u64]; omega
          clear HD hs0
          go_wp2_with fail
          exact ⟨⟨i + 1, s - y, n, by omega, by omega, rfl, by go_num, rfl, HE⟩, by simp [intOf]; omega⟩
    · obtain rfl : i = L.length := by omega
      have hlt' : ¬ (L.length : Int) < (L.length : Int) := by omega
      have HE : Hid (atF L r = (0, 2)) := by unfold Hid; rw [hE.out, List.drop_length]; rfl
      go_wp2_with fail
      go_ret2
      exact ⟨two_eq HE.out, n, rfl⟩
end Go.Proofs.Ythhoklgfgandpaa
