/- atofHex: it answers something. Own work of the verifier. -/
import Derived.Test.YthgpdniflkojpaaGreatDoorOFA
import Derived.WalkMore
import Derived.Deep.DeepCutAuto
import Derived.IntWalk
import Derived.Deep.CutBlock
import Derived.LaidEqlPtr
namespace Go.Proofs.YthgpdniflkojpaaGreatDoor
open Go.RowKit Go.Sort Soft

theorem and2047 (s : Int) : ∃ Y : Nat, Y ≤ 2047 ∧ bits .and .i64 s 2047 = (Y : Int) := by
  refine ⟨(s % 2048).toNat, by omega, ?_⟩
  show IntKind.i64.wrap ((BitVec.ofInt 64 s &&& BitVec.ofInt 64 ((2047 : Nat) : Int)).toNat : Int) = _
  rw [BitVec.toNat_and, ofInt_u64 _ (by decide), BitVec.toNat_ofInt, show (2047 : Nat) = 2 ^ 11 - 1 from by decide, Nat.and_two_pow_sub_one_eq_mod, IntKind.wrap_i64]
  omega
theorem or_oneH (m : Nat) (h : m < 18446744073709551616) : ∃ k : Nat, k < 18446744073709551616 ∧ bits .or .u64 (m : Int) 1 = (k : Int) := ⟨m ||| 1, or_lt h (by decide), u64_or_nat m 1 h (by decide)⟩
theorem cut1_less (u : Nat) (h : 2 ≤ u) : cut1 u < u := by rw [cut1_val]; split <;> omega
theorem or_bound (a b : Int) : (bits .or .u64 a b).toNat < 18446744073709551616 := by
  show (IntKind.u64.wrap ((BitVec.ofInt 64 a ||| BitVec.ofInt 64 b).toNat : Int)).toNat < _
  show ((((BitVec.ofInt 64 a ||| BitVec.ofInt 64 b).toNat : Int)) % 18446744073709551616).toNat < _
  omega
def DrewOf (w W : World) : Prop := ∃ q, W = w.drewN q
set_option maxHeartbeats 4000000 in
set_option maxRecDepth 100000 in
theorem hex_some (s : ByteArray) (M : Nat) (P : Int) (ng tr : Bool) (hM : M < 18446744073709551616) (w : World)
    (i1 : w.cell? ⟨5, 0, none⟩ = some (.int .u64 52)) (i2 : w.cell? ⟨5, 1, none⟩ = some (.int .u64 11)) (i3 : w.cell? ⟨5, 2, none⟩ = some (.int .i64 (-1023)))
    (hpe : ∀ q, (binOp .eql 112 (.pointer (some ⟨5, 0, none⟩)) (.pointer (some ⟨4, 0, none⟩))).run Tryz.prog (w.drewN q) = .ok (.bool false) (w.drewN q)) :
    Calls Tryz.prog 82 #[.string s, .pointer (some ⟨5, 0, none⟩), .int .u64 (M : Int), .int .i64 P, .bool ng, .bool tr] w fun r w' => TellsE r ∧ DrewOf w w' := by
  go_enter Tryz.func82, Tryz.ntmps82
  go_wp2_with fail
  go_quiet (fail)
  go_upto_block 0 with fail
  go_cut [2, 3] from 19 (fun mv ev W => ∃ (m : Nat) (x : Int), mv = .int .u64 (m : Int) ∧ m < 18446744073709551616 ∧ ev = .int .i64 x ∧ W = w.drewN nq)
  case first =>
    as_aux_lemma =>
      go_wp2_with fail
      go_loopw [2, 3] (fun mv ev W => ∃ (m : Nat) (x : Int), mv = .int .u64 (m : Int) ∧ m < 18446744073709551616 ∧ ev = .int .i64 x ∧ W = w.drewN nq) (fun mv _ _ => (18014398509481984 - intOf mv).toNat)
      case atStart => exact ⟨M, _, rfl, hM, rfl, rfl⟩
      case round =>
        obtain ⟨m, x, rfl, hm, rfl, rfl⟩ := hrel
        by_cases m0 : m = 0
        · subst m0
          as_aux_lemma =>
            go_wp2_with fail
            go_meet
            exact ⟨0, x, rfl, by decide, rfl, rfl⟩
        · have t0 : ((m : Int) != 0) = true := by rw [bne_iff_ne]; omega
          by_cases hb : m < 18014398509481984
          · have t1 : ((m : Int) / 18014398509481984 == 0) = true := by rw [beq_iff_eq]; omega
            as_aux_lemma =>
              go_wp2_with fail
              refine ⟨⟨m * 2, _, ?_, by omega, rfl, True.intro⟩, by simp [intOf]; omega⟩
              congr 1
          · have t1 : ((m : Int) / 18014398509481984 == 0) = false := by rw [beq_eq_false_iff_ne]; omega
            as_aux_lemma =>
              go_wp2_with fail
              go_meet
              exact ⟨m, x, rfl, hm, rfl, rfl⟩
  case rest =>
  clear hM
  obtain ⟨M, x, rfl, hM, rfl, rfl⟩ := hcut
  go_upto_if 58 with fail
  go_cut [2] from 19 (fun mv W => ∃ (m : Nat), mv = .int .u64 (m : Int) ∧ m < 18446744073709551616 ∧ W = w.drewN nq)
  case first =>
    obtain ⟨k, hk, hk'⟩ := or_oneH M hM
    as_aux_lemma =>
      cases tr
      · go_wp2_with fail
        go_meet
        exact ⟨M, rfl, hM, rfl⟩
      · go_wp2_with fail
        go_meet
        exact ⟨k, rfl, hk, rfl⟩
  case rest =>
  clear hM
  obtain ⟨M, rfl, hM, rfl⟩ := hcut
  have HAnd : Hid (∀ m : Nat, m < 18446744073709551616 → bits .and .u64 (m : Int) 1 = (m : Int) % 2 ∧ bits .or .u64 ((m : Int) / 2) ((m : Int) % 2) = ((cut1 m : Nat) : Int)) := fun m hm => ⟨by rw [and_one m hm]; omega, cut_or m hm⟩
  go_upto_block 2 with fail
  go_cut [2, 3] from 19 (fun mv ev W => ∃ (m : Nat) (x : Int), mv = .int .u64 (m : Int) ∧ m < 18446744073709551616 ∧ ev = .int .i64 x ∧ W = w.drewN nq)
  case first =>
    as_aux_lemma =>
      go_wp2_with fail
      go_loopw [2, 3] (fun mv ev W => ∃ (m : Nat) (x : Int), mv = .int .u64 (m : Int) ∧ m < 18446744073709551616 ∧ ev = .int .i64 x ∧ W = w.drewN nq) (fun mv _ _ => (intOf mv).toNat)
      case atStart => exact ⟨M, _, rfl, hM, rfl, rfl⟩
      case round =>
        obtain ⟨m, x, rfl, hm, rfl, rfl⟩ := hrel
        by_cases hb : m < 36028797018963968
        · have t1 : ((m : Int) / 36028797018963968 != 0) = false := by rw [bne_eq_false_iff_eq]; omega
          as_aux_lemma =>
            go_wp2_with fail
            go_meet
            exact ⟨m, x, rfl, hm, rfl, rfl⟩
        · have t1 : ((m : Int) / 36028797018963968 != 0) = true := by rw [bne_iff_ne]; omega
          obtain ⟨a1, a2⟩ := HAnd.out m hm
          have HLs : Hid _ := cut1_less m (by omega)
          as_aux_lemma =>
            go_wp2_with fail
            refine ⟨⟨cut1 m, _, rfl, by have := HLs.out; omega, rfl, True.intro⟩, ?_⟩
            simp only [intOf, Int.toNat_natCast]
            exact HLs.out
  case rest =>
  clear hM
  obtain ⟨M, x, rfl, hM, rfl, rfl⟩ := hcut
  go_upto_block 4 with fail
  go_cut [2, 3] from 19 (fun mv ev W => ∃ (m : Nat) (x : Int), mv = .int .u64 (m : Int) ∧ m < 18446744073709551616 ∧ ev = .int .i64 x ∧ W = w.drewN nq)
  case first =>
    as_aux_lemma =>
      go_wp2_with fail
      go_loopw [2, 3] (fun mv ev W => ∃ (m : Nat) (x : Int), mv = .int .u64 (m : Int) ∧ m < 18446744073709551616 ∧ ev = .int .i64 x ∧ W = w.drewN nq) (fun mv _ _ => (intOf mv).toNat)
      case atStart => exact ⟨M, _, rfl, hM, rfl, rfl⟩
      case round =>
        obtain ⟨m, x, rfl, hm, rfl, rfl⟩ := hrel
        by_cases hb : 1 < m
        · have t1 : (1 : Int) < (m : Int) := by omega
          by_cases hx : x < -1024
          · obtain ⟨a1, a2⟩ := HAnd.out m hm
            have HLs : Hid _ := cut1_less m (by omega)
            as_aux_lemma =>
              go_wp2_with fail
              refine ⟨⟨cut1 m, _, rfl, by have := HLs.out; omega, rfl, True.intro⟩, ?_⟩
              simp only [intOf, Int.toNat_natCast]
              exact HLs.out
          · as_aux_lemma =>
              go_wp2_with fail
              go_meet
              exact ⟨m, x, rfl, hm, rfl, rfl⟩
        · have t1 : ¬ (1 : Int) < (m : Int) := by omega
          as_aux_lemma =>
            go_wp2_with fail
            go_meet
            exact ⟨m, x, rfl, hm, rfl, rfl⟩
  case rest =>
  clear hM
  obtain ⟨M, x, rfl, hM, rfl, rfl⟩ := hcut
  go_upto_if 103 with fail
  go_cut [2, 3] from 19 (fun mv ev W => ∃ (m : Nat) (x : Int), mv = .int .u64 (m : Int) ∧ m < 18446744073709551616 ∧ ev = .int .i64 x ∧ W = w.drewN nq)
  case first =>
    as_aux_lemma =>
      go_wp2_with fail
      all_goals (go_meet; first | exact ⟨(M / 4 + 1) / 2, _, congrArg (Value.int .u64) (by omega), by omega, rfl, rfl⟩ | exact ⟨M / 4 + 1, _, congrArg (Value.int .u64) (by omega), by omega, rfl, rfl⟩ | exact ⟨M / 4, _, congrArg (Value.int .u64) (by omega), by omega, rfl, rfl⟩)
  case rest =>
  obtain ⟨R, hR⟩ : ∃ R, R = bits BinOp.or IntKind.u64 (bits BinOp.and IntKind.u64 (M : Int) 3) (bits BinOp.and IntKind.u64 ((M : Int) / 4) 1) := ⟨_, rfl⟩
  rw [← hR]
  clear hM hR
  obtain ⟨M, x, rfl, hM, rfl, rfl⟩ := hcut
  go_upto_if 124 with fail
  go_cut [3] from 19 (fun ev W => ∃ (x : Int), ev = .int .i64 x ∧ W = w.drewN nq)
  case first =>
    as_aux_lemma =>
      go_wp2_with fail
      all_goals (go_meet; exact ⟨_, rfl, rfl⟩)
  case rest =>
  obtain ⟨x, rfl, rfl⟩ := hcut
  go_upto_if 131 with fail
  go_cut [2, 3, 17] from 19 (fun mv ev er W => ∃ (m : Nat) (x : Int), mv = .int .u64 (m : Int) ∧ m < 18446744073709551616 ∧ ev = .int .i64 x ∧ (er = .nilIface ∨ er = .iface 60 (.int .i64 1)) ∧ W = w.drewN nq)
  case first =>
    as_aux_lemma =>
      go_wp2_with fail
      all_goals (go_meet; first | exact ⟨M, x, rfl, hM, rfl, Or.inl rfl, rfl⟩ | exact ⟨4503599627370496, _, rfl, by decide, rfl, Or.inr rfl, rfl⟩)
  case rest =>
  clear hM
  obtain ⟨M, x, rfl, hM, rfl, her, rfl⟩ := hcut
  have HE : Hid _ := her
  clear her
  go_wp2_with fail
  go_quiet (fail)
  cases ng
  · as_aux_lemma =>
      go_wp2_with (first | simp only [f64from] | fail)
      go_ret2
      exact ⟨⟨_, _, rfl, or_bound _ _, HE.out⟩, _, rfl⟩
  · as_aux_lemma =>
      go_wp2_with fail
      go_quiet (fail)
      go_wp2_with (first | simp only [f64from] | fail)
      go_ret2
      exact ⟨⟨_, _, rfl, or_bound _ _, HE.out⟩, _, rfl⟩
end Go.Proofs.YthgpdniflkojpaaGreatDoor
