import Derived.Test.YthhoklgfgandpaaLeaf
namespace Go.Proofs.Ythhoklgfgandpaa
open Go.RowKit
theorem cmp_lt {ah al bh bl : Int} (h1 : Wf ah al) (h2 : Wf bh bl) (h : ah < bh) : cmp (val ah al) (val bh bl) = -1 := by
  unfold cmp; rw [if_pos ((val_lt h1 h2).2 (Or.inl h))]
theorem cmp_lt' {h al bl : Int} (h1 : Wf h al) (h2 : Wf h bl) (hl : al < bl) : cmp (val h al) (val h bl) = -1 := by
  unfold cmp; rw [if_pos ((val_lt h1 h2).2 (Or.inr ⟨rfl, hl⟩))]
theorem cmp_eq {h l : Int} : cmp (val h l) (val h l) = 0 := by unfold cmp; simp
theorem cmp_gt {ah al bh bl : Int} (h1 : Wf ah al) (h2 : Wf bh bl) (h : ¬ (ah < bh ∨ ah = bh ∧ al < bl)) (hn : ¬ (ah = bh ∧ al = bl)) : cmp (val ah al) (val bh bl) = 1 := by
  unfold cmp; rw [if_neg (fun e => h ((val_lt h1 h2).1 e)), if_neg (fun e => hn ((val_inj h1 h2).1 e))]
set_option maxHeartbeats 400000 in
theorem cmp_any (ah al bh bl : Int) (h1 : Wf ah al) (h2 : Wf bh bl) (w : World) :
    Calls Try.prog 29 #[.agg #[.int .i64 ah, .int .u64 al], .agg #[.int .i64 bh, .int .u64 bl]] w fun e w' =>
      e = .returned (.int .i64 (cmp (val ah al) (val bh bl))) ∧ Below w.heap.size w w' := by
  by_cases c1 : ah = bh
  · subst c1
    by_cases c2 : al = bl
    · subst c2
      rw [cmp_eq]
      clear h1 h2
      go_enter Try.func29, Try.ntmps29
      go_wp2
      go_ret
      exact ⟨rfl, bel2 _ _ _⟩
    · have c3 : (al == bl) = false := beq_eq_false_iff_ne.2 c2
      by_cases c4 : al < bl
      · rw [cmp_lt' h1 h2 c4]
        clear h1 h2
        go_enter Try.func29, Try.ntmps29
        go_wp2
        go_ret
        exact ⟨rfl, bel2 _ _ _⟩
      · rw [cmp_gt h1 h2 (by omega) (by omega)]
        clear h1 h2
        go_enter Try.func29, Try.ntmps29
        go_wp2
        go_ret
        exact ⟨rfl, bel2 _ _ _⟩
  · have c2 : (ah == bh) = false := beq_eq_false_iff_ne.2 c1
    by_cases c3 : ah < bh
    · rw [cmp_lt h1 h2 c3]
      clear h1 h2
      go_enter Try.func29, Try.ntmps29
      go_wp2
      go_ret
      exact ⟨rfl, bel2 _ _ _⟩
    · rw [cmp_gt h1 h2 (by omega) (by omega)]
      clear h1 h2
      go_enter Try.func29, Try.ntmps29
      go_wp2
      go_ret
      exact ⟨rfl, bel2 _ _ _⟩
end Go.Proofs.Ythhoklgfgandpaa
