/- PRODUCTS of whole numbers of any length, the document's. Own work of the verifier. -/
import Derived.Test.YtdlaloakochfeaaB1
namespace Go.Proofs.Ytdlaloakochfeaa
open Go.RowKit Soft

set_option maxHeartbeats 2000000 in
theorem times_rows (ao : Option Addr) (b o cap : Nat) (A : List Nat) (n : Nat) (hn : n < 4294967296) (w : World) (h : RB w ao b o cap A) (hl : A.length ≤ 1000000000) :
    Calls Try.prog 24 #[.slice ao A.length cap, .int .u32 (n : Int)] w fun e w' => ∃ v, e = .returned v ∧ Below w.heap.size w w' ∧ BigIn w' v (bv A * n) := by
  obtain ⟨i0, hi, hz0, hz1, hz2⟩ := info_parts infoP
  go_enter Try.func24, Try.ntmps24
  go_wp2_with fail
  go_loopw [5, 6, 7] (fun v cr a wr => ∃ (i c : Nat) (O : List Nat), cr = .int .u64 (c : Int) ∧ a = .int .i64 (i : Int) ∧ c < 4294967296 ∧ (i ≤ A.length ∨ (i = A.length + 1 ∧ c = 0)) ∧ GB w.heap.size 44 pV w v O wr ∧ Hid (O.length = i ∧ B32 O ∧ bv O + 4294967296 ^ i * c = lowP A i * n)) (fun _ _ a _ => (A.length + 1 - (intOf a).toNat))
  case atStart => exact ⟨0, 0, [], rfl, rfl, by omega, by omega, GB.new w, ⟨rfl, (fun x hx => by cases hx), by simp [bv, lowP]⟩⟩
  case round =>
    obtain ⟨i, c, O, rfl, rfl, hc, hic, hG, hH⟩ := hrel
    have hx := pt_lt h.small i
    have HS : Hid _ := times_step hH.out.1 hH.out.2.2
    have hcase : i < A.length ∨ (¬ i < A.length ∧ 0 < c) ∨ (¬ i < A.length ∧ c = 0) := by omega
    have hB := hG.below
    have hol : O.length = i := hH.out.1
    have HO : Hid (B32 O) := hH.out.2.1
    rcases hcase with u1 | ⟨u1, u2⟩ | ⟨u1, rfl⟩
    · obtain rfl := h.addr (by intro e; rw [e] at u1; simp at u1)
      have q1 : wr.cell? ⟨b, o + i, none⟩ = some (.int .u32 ((pt A i : Nat) : Int)) := by rw [pt_in u1]; exact (h.row.below hB (fun e => h.row.lt e)) i u1
      have v1 : (i : Int) < (A.length : Int) := by omega
      generalize pt A i = x at *
      obtain ⟨l1, l2, l3⟩ := times_lt hc hx hn
      have s0 : (x : Int) * (n : Int) = ((x * n : Nat) : Int) := by rw [Int.natCast_mul]
      have s1 : (c : Int) + ((x * n : Nat) : Int) = ((c + x * n : Nat) : Int) := by omega
      have s3 : IntKind.u32.wrap ((c + x * n : Nat) : Int) = (((c + x * n) % 4294967296 : Nat) : Int) := by rw [IntKind.wrap_u32']; omega
      have s4 : ((c + x * n : Nat) : Int) / 4294967296 = (((c + x * n) / 4294967296 : Nat) : Int) := by omega
      have HQ : Hid ((c + x * n) % 4294967296 < 4294967296 ∧ (c + x * n) / 4294967296 < 4294967296) := by unfold Hid; omega
      generalize (c + x * n) % 4294967296 = r at *
      generalize (c + x * n) / 4294967296 = q at *
      generalize c + x * n = s at *
      generalize x * n = p at *
      go_wp2_with (first | (at_builtin; refine wpList_append_own _ rfl _ _ 27 rfl w.heap.size 44 i0 (.int .u32 0) 1 4 Try.underlying27 hi hz0 hz1 hz2 rfl (by decide) _ _ _ rfl (hG.own.alloc _) ⟨_, 0, none⟩ 1 1 [_] rfl rfl (cell_one_new _ _ _) (by intro u hu; simp at hu; subst hu; rfl) (by unfold maxLen; omega) (by omega) (by have := hG.size; simp; omega) ?_; intro v' w7 hown hgrow hnil; have hG7 := hG.push (x := r) _ rfl hown hgrow hnil; clear hown hgrow hnil))
      exact ⟨⟨i + 1, q, O ++ [r], rfl, by go_num, HQ.out.2, by omega, hG7, ⟨by rw [List.length_append, hol]; rfl, b32_snoc HO.out HQ.out.1, HS.out⟩⟩, by simp [intOf]; omega⟩
    · rw [pt_out u1, Nat.zero_mul, Nat.add_zero, Nat.mod_eq_of_lt hc, Nat.div_eq_of_lt hc] at HS
      have v1 : ¬ (i : Int) < (A.length : Int) := by omega
      have v2 : (0 : Int) < (c : Int) := by omega
      have s3 : IntKind.u32.wrap (c : Int) = (c : Int) := by rw [IntKind.wrap_u32']; omega
      have s4 : (c : Int) / 4294967296 = 0 := by omega
      go_wp2_with (first | (at_builtin; refine wpList_append_own _ rfl _ _ 27 rfl w.heap.size 44 i0 (.int .u32 0) 1 4 Try.underlying27 hi hz0 hz1 hz2 rfl (by decide) _ _ _ rfl (hG.own.alloc _) ⟨_, 0, none⟩ 1 1 [_] rfl rfl (cell_one_new _ _ _) (by intro u hu; simp at hu; subst hu; rfl) (by unfold maxLen; omega) (by omega) (by have := hG.size; simp; omega) ?_; intro v' w7 hown hgrow hnil; have hG7 := hG.push (x := c) _ rfl hown hgrow hnil; clear hown hgrow hnil))
      exact ⟨⟨i + 1, 0, O ++ [c], rfl, by go_num, by omega, by omega, hG7, ⟨by rw [List.length_append, hol]; rfl, b32_snoc HO.out hc, HS.out⟩⟩, by simp [intOf]; omega⟩
    · have v1 : ¬ (i : Int) < (A.length : Int) := by omega
      have hsum : bv O = bv A * n := by
        have e := hH.out.2.2
        rw [Nat.mul_zero, Nat.add_zero, lowP_all A i (by omega)] at e
        exact e
      obtain ⟨g, cap3, rfl, hgB, hRB⟩ := hG.rowP HO.out
      have hT := trim_in g 0 cap3 O wr hRB
      rw [hol] at hT
      go_wp2_with (go_at_call 29; with_reducible refine hT.mono ?_; rintro e w' ⟨v', rfl, rfl, hbig⟩)
      go_ret
      rw [hsum] at hbig
      exact ⟨_, rfl, hB, hbig⟩
end Go.Proofs.Ytdlaloakochfeaa
