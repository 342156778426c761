/- ExpoLines: THE WALK. Own work of the verifier. -/
import Derived.Test.YtkakanejiakbkaaGreatDoorVBN
import Derived.Test.YtkakanejiakbkaaGreatDoorVBM
import Derived.Test.YtkakanejiakbkaaGreatDoorRows
import Derived.ProofKit
import Derived.OpenShut
import Derived.LaidMore
import Derived.Lay
import Derived.Lib.LaidTab
import Derived.Deep.Slices
import Derived.SizedLaws
import Derived.Carry
import Derived.LaidOnce
import Derived.Lib.SmallJoins
import Derived.ChangeSlices
namespace Go.Proofs.YtkakanejiakbkaaGreatDoor
open Go.RowKit Me

end Go.Proofs.YtkakanejiakbkaaGreatDoor
/- ExpoNames: THE DOOR, THE ROW. Own work of the verifier. -/
namespace Go.Proofs.YtkakanejiakbkaaGreatDoor
open Go.ChangeShapes Go.WideShapes Go.ChangeAt Go.RowKit

theorem xl_own : ownKnob Tryz.prog.godebug = none := by kernel_rfl
abbrev xl_laids : List (String × DataW Unit) := [("math/bits.deBruijn32tab", Rows.laid_math_bits_deBruijn32tab), ("math/bits.deBruijn64tab", Rows.laid_math_bits_deBruijn64tab), ("internal/strconv.optimize", Rows.laid_internal_strconv_optimize), ("internal/strconv.uint64pow10", Rows.laid_internal_strconv_uint64pow10), ("strconv.ErrRange", Rows.laid_strconv_ErrRange), ("strconv.ErrSyntax", Rows.laid_strconv_ErrSyntax), ("internal/strconv.leftcheats", Rows.laid_internal_strconv_leftcheats), ("internal/strconv.pow10Tab", Rows.laid_internal_strconv_pow10Tab)]
/-- One of the listed variables. -/
theorem xl_at {P : Program} {w : World} : ∀ (l : List (String × DataW Unit)) (ps : List MemPlace), DataW.LaidVars P w l ps → ∀ n d, (n, d) ∈ l →
    ∃ g t cs fuel p, P.globalNamed n = some g ∧ (P.globals[g]?).map (·.type) = some t ∧ w.var? P n = some cs ∧ DataW.trod (fun _ => ()) P w 0 (fun _ => true) false fuel t cs.toList = some (d, p)
  | [], _, _, _, _, h => by cases h
  | (m, e) :: r, ps, hl, n, d, h => by
    obtain ⟨g, t, cs, fuel, p, q, h1, h2, h3, h4, h5, _⟩ := hl
    rcases List.mem_cons.1 h with h | h
    · cases h; exact ⟨g, t, cs, fuel, p, h1, h2, h3, h4⟩
    · exact xl_at r q h5 n d h
set_option maxRecDepth 100000 in
theorem xl_tab {W : World} (h : laidMetH Tryz.prog xl_laids W) : Wi.Tab W := by
  rw [MakeChecks.laidMetH_plain _ _ _ (by kernel_rfl)] at h
  obtain ⟨ps, hl, _, _⟩ := h
  obtain ⟨g, t, cs, fuel, p, hg, ht, hv, hd⟩ := xl_at _ _ hl "internal/strconv.uint64pow10" Rows.laid_internal_strconv_uint64pow10 (by simp)
  obtain rfl := Option.some.inj ((show Tryz.prog.globalNamed "internal/strconv.uint64pow10" = some 1 by kernel_rfl).symm.trans hg)
  obtain rfl := Option.some.inj ((show (Tryz.prog.globals[1]?).map (·.type) = some 137 by kernel_rfl).symm.trans ht)
  rw [show (Rows.laid_internal_strconv_uint64pow10 : DataW Unit) = Lib.tabData .u64 Lib.pow10Tab from by kernel_rfl] at hd
  have hc := Lib.cells_of_tab Tryz.underlying137 Tryz.underlying23 (by kernel_rfl) (by kernel_rfl) hd
  show Lib.TabIs _ _ _ _ _
  unfold Lib.TabIs
  rw [hv, ← hc]
set_option maxRecDepth 100000 in
theorem xl_met (os : Os) (args : Array Value) : laidMetH Tryz.prog xl_laids ((World.laidAll Tryz.prog os xl_laids).forCall (fun _ _ => 0) ⟨#[], args, []⟩).memory := by
  rw [MakeChecks.laidMetH_plain _ _ _ (by kernel_rfl)]; exact laidMet_laidAll _ (by kernel_rfl) (by kernel_rfl)
set_option maxRecDepth 100000 in
theorem xl_shaped (os : Os) (args : Array Value) : ((World.laidAll Tryz.prog os xl_laids).forCall (fun _ _ => 0) ⟨#[], args, []⟩).Shaped Tryz.prog := World.shaped_of_ZipB (by kernel_rfl) (by kernel_rfl)
end Go.Proofs.YtkakanejiakbkaaGreatDoor
/- THE DOOR. Own work of the verifier. -/
namespace Go.Proofs.YtkakanejiakbkaaGreatDoor.Do
open Go.ChangeShapes Go.WideShapes Go.ChangeAt Go.RowKit

theorem own : ownKnob Tryz.prog.godebug = none := by kernel_rfl
end Go.Proofs.YtkakanejiakbkaaGreatDoor.Do
