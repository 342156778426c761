/- WITHIN, the law's own, for whatever AtMost does. Own work of the verifier. -/
import Derived.Test.YthhoklgfgandpaaE5
namespace Go.Proofs.Ythhoklgfgandpaa
open Go.RowKit

theorem high_at (p : Nat) (h1 : 1 ≤ p) (h2 : p ≤ 14) (i : Nat) (hi : i < (64 - p) * 2 ^ p) (w : World) :
    Calls Try.prog 44 #[.int .i64 (p : Int), .int .i64 (i : Int)] w fun e w' => (∃ n, w' = w.drewN n) ∧ e = two (hiV p i : Nat) 0 := high_of (fun W => bounds_yes p i h1 h2 hi W) w
set_option maxHeartbeats 1000000 in
theorem within_any (p : Nat) (h1 : 1 ≤ p) (h2 : p ≤ 14) (g cap : Nat) (S ks : List Int) (O : List Cn) (cv : Value) (v : Int) (hl : S.length ≤ 17592186043904) (hS : ∀ x ∈ S, 0 ≤ x ∧ x < 9223372036854775808) (w : World) (hR : RowI w g 0 S) (hK : KsOf p S ks) (hC : CI ks O)
    (HA : Hid (∀ W, Below w.heap.size w W → Calls Try.prog 22 #[.int .i64 (p : Int), cv, .int .i64 v] W fun e w' => e = twoU (amN p O v : Nat) 0 ∧ Below W.heap.size W w')) :
    Calls Try.prog 27 #[.int .i64 (p : Int), .slice (some ⟨g, 0, none⟩) S.length cap, cv, .int .i64 v] w fun e w' => e = .returned (.bool true) ∧ Below w.heap.size w w' := by
  obtain ⟨n, hn⟩ : ∃ n, S.length = n := ⟨_, rfl⟩
  have HR : Hid (RowI w g 0 S) := hR
  have HN : Hid _ := hn
  have HS : Hid _ := hS
  have HK : Hid _ := hK
  have HC : Hid _ := hC
  rw [hn] at hl ⊢
  clear hR hn hS hK hC
  go_enter Try.func27, Try.ntmps27
  go_wp2_with fail
  go_loopw [9, 10] (fun a c wr => ∃ i t m : Nat, i ≤ n ∧ t ≤ i ∧ a = .int .u64 (t : Int) ∧ c = .int .i64 (i : Int) ∧ wr = w.drewN m ∧ Hid (t = (ks.take i).countP (fun k => decide ((hiV p k.toNat : Int) ≤ v)))) (fun _ c _ => n - (intOf c).toNat)
  case atStart => exact ⟨0, 0, 0, by omega, by omega, rfl, rfl, rfl, by simp [Hid]⟩
  case round =>
    obtain ⟨i, t, m, hil, hti, rfl, rfl, rfl, hT⟩ := hrel
    by_cases hlt : i < n
    · have hlt' : (i : Int) < (n : Int) := by omega
      have u1 : i < S.length := by rw [HN.out]; exact hlt
      have u2 : i < ks.length := by rw [HK.out.1]; exact u1
      obtain ⟨x, hx, hx2⟩ : ∃ x : Nat, S[i] = (x : Int) ∧ x < 9223372036854775808 := by
        have := HS.out S[i] (List.getElem_mem u1)
        exact ⟨S[i].toNat, by omega, by omega⟩
      have q1 := HR.out.below (below_drew w m) (fun k => HR.out.lt k) i u1
      rw [Nat.zero_add, hx] at q1
      have HX : Hid (∀ W, _) := index_yes p x h1 h2 hx2
      have HY : Hid (∀ q, IsK (2 ^ p) x q → ∀ W, _) := fun q hq => high_at p h1 h2 (idx (2 ^ p) x q) (idx_top h2 (by omega : x < 2 ^ 63) hq).1
      have HE : Hid (∀ q, IsK (2 ^ p) x q → (ks.take (i + 1)).countP (fun k => decide ((hiV p k.toNat : Int) ≤ v)) = t + if (hiV p (idx (2 ^ p) x q) : Int) ≤ v then 1 else 0) := fun q hq => by
        have hix : IxIs p S[i] ((idx (2 ^ p) x q : Nat) : Int) := ⟨x, q, hx, hq, rfl⟩
        have := ix_uniq (HK.out.2 i u2 u1) hix
        rw [List.take_succ_eq_append_getElem u2, List.countP_append, ← hT.out, this, List.countP_singleton, Int.toNat_natCast]
        simp
      have m4 : IntKind.u64.wrap ((t : Int) + 1) = ((t + 1 : Nat) : Int) := by rw [IntKind.wrap_u64]; omega
      clear hx
      go_wp2_with (first
        | (go_at_call 48; with_reducible refine (HX.out _).mono ?_; rintro e w1 ⟨⟨m1, rfl⟩, q, hq, rfl⟩)
        | (go_at_call 44; with_reducible refine (HY.out q hq _).mono ?_; rintro e w1 ⟨⟨m2, rfl⟩, rfl⟩))
      · rename_i hle
        have h3 := HE.out q hq
        rw [if_pos (by simpa using hle)] at h3
        exact ⟨⟨i + 1, t + 1, m + m1 + m2, by omega, by omega, rfl, rfl, rfl, h3.symm⟩, by simp [intOf]; omega⟩
      · rename_i hle
        have h3 := HE.out q hq
        rw [if_neg (by simpa using hle)] at h3
        exact ⟨⟨i + 1, t, m + m1 + m2, by omega, by omega, rfl, rfl, rfl, h3.symm⟩, by simp [intOf]; omega⟩
    · have hlt' : ¬ (i : Int) < (n : Int) := by omega
      obtain rfl : i = n := by omega
      have e1 : amN p O v = t := by
        rw [amN_ex, HC.out.all, hT.out, List.take_of_length_le (by rw [HK.out.1, HN.out]; omega)]
      have HB : Hid (∀ W, Below w.heap.size w W → Calls Try.prog 22 #[.int .i64 (p : Int), cv, .int .i64 v] W fun e w' => e = twoU (t : Nat) 0 ∧ Below W.heap.size W w') := fun W h => by rw [← e1]; exact HA.out W h
      have HM : Hid (Below w.heap.size w (w.drewN m)) := below_drew w m
      clear e1
      go_wp2_with (go_at_call 22; with_reducible refine (HB.out _ HM.out).mono ?_; rintro e w1 ⟨rfl, hb⟩)
      go_ret
      exact ⟨rfl, bt HM.out hb⟩
end Go.Proofs.Ythhoklgfgandpaa
