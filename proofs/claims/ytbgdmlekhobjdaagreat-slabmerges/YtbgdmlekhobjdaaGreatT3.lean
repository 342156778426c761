/- Own work of the verifier. -/
import Derived.Test.YtbgdmlekhobjdaaGreatLeaf
namespace Go.Proofs.YtbgdmlekhobjdaaGreat
open Go.RowKit
theorem cmp_lt {ah al bh bl : Int} (h1 : Wf ah al) (h2 : Wf bh bl) (h : ah < bh) : cmp (val ah al) (val bh bl) = -1 := by
  unfold cmp; rw [if_pos ((val_lt h1 h2).2 (Or.inl h))]
theorem cmp_lt' {h al bl : Int} (h1 : Wf h al) (h2 : Wf h bl) (hl : al < bl) : cmp (val h al) (val h bl) = -1 := by
  unfold cmp; rw [if_pos ((val_lt h1 h2).2 (Or.inr ⟨rfl, hl⟩))]
theorem cmp_eq {h l : Int} : cmp (val h l) (val h l) = 0 := by unfold cmp; simp
theorem cmp_gt {ah al bh bl : Int} (h1 : Wf ah al) (h2 : Wf bh bl) (h : ¬ (ah < bh ∨ ah = bh ∧ al < bl)) (hn : ¬ (ah = bh ∧ al = bl)) : cmp (val ah al) (val bh bl) = 1 := by
  unfold cmp; rw [if_neg (fun e => h ((val_lt h1 h2).1 e)), if_neg (fun e => hn ((val_inj h1 h2).1 e))]
end Go.Proofs.YtbgdmlekhobjdaaGreat
