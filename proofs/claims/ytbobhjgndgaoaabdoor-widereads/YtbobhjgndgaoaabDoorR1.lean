/- WideReads: THE WALK. Own work of the verifier. -/
import Derived.Test.YtbobhjgndgaoaabDoorT12
namespace Go.Proofs.YtbobhjgndgaoaabDoor
open Go.RowKit Go.Sort

set_option maxHeartbeats 1000000 in
set_option maxRecDepth 100000 in
theorem reads_no (s : ByteArray) (w : World) (htab : Tab w)
    (hp : ∀ W, Tab W → Calls Tryd.prog 4 #[.string s] W fun e w' => e = .returned (.tuple #[.agg #[.int .i64 0, .int .u64 0], .int .i64 5]) ∧ Below W.heap.size W w') :
    Calls Tryd.prog 3 #[.string s] w fun x w' => x = .returned (.bool true) ∧ Below w.heap.size w w' := by
  have HP : Hid _ := hp
  clear hp
  go_enter Tryd.func3, Tryd.ntmps3
  go_wp2_with fail
  refine (HP.out _ htab).mono ?_
  rintro e w1 ⟨rfl, hb1⟩
  go_wp2_with fail
  refine (fixed_any _ ((htab.below hb1).alloc _)).mono ?_
  rintro e w2 ⟨rfl, hb2⟩
  go_wp2
  go_ret
  exact ⟨rfl, hb1.trans (((bel1 w1 _).trans (hb2.mono (by simp))).mono hb1.size)⟩
set_option maxHeartbeats 1000000 in
set_option maxRecDepth 100000 in
theorem reads_yes (s : ByteArray) (n : Int) (hn : InR n) (ht : (Lib.itoa n == s.toList) = true) (w : World) (htab : Tab w)
    (hp : ∀ W, Tab W → Calls Tryd.prog 4 #[.string s] W fun e w' => e = .returned (.tuple #[num n, .int .i64 0]) ∧ Below W.heap.size W w') :
    Calls Tryd.prog 3 #[.string s] w fun x w' => x = .returned (.bool true) ∧ Below w.heap.size w w' := by
  have HP : Hid _ := hp
  have hq := print_any _ _ (wf_of hn)
  rw [val_hl] at hq
  have HQ : Hid _ := hq
  clear hp hq
  go_enter Tryd.func3, Tryd.ntmps3
  go_wp2_with fail
  refine (HP.out _ htab).mono ?_
  rintro e w1 ⟨rfl, hb1⟩
  go_wp2_with fail
  refine (HQ.out _ ((htab.below hb1).alloc _)).mono ?_
  rintro e w2 ⟨rfl, hb2⟩
  have B2 : Below w.heap.size w w2 := hb1.trans (((bel1 w1 _).trans (hb2.mono (by simp))).mono hb1.size)
  go_wp2_with fail
  refine (fixed_any _ (htab.below B2)).mono ?_
  rintro e w3 ⟨rfl, hb3⟩
  go_wp2
  go_ret
  exact ⟨rfl, B2.trans (hb3.mono B2.size)⟩
theorem reads_walk (s : ByteArray) (w : World) (htab : Tab w) :
    Calls Tryd.prog 3 #[.string s] w fun x w' => x = .returned (.bool true) ∧ Below w.heap.size w w' := by
  by_cases hl : 40 < s.size
  · exact reads_no s w htab (fun W _ => parse_long s hl W)
  · by_cases hc : Lib.itoa (readF s.data.toList) = s.data.toList
    · refine reads_yes s _ (inR_readF s.data.toList) (by rw [beq_iff_eq, hc, ByteArray.toList_eq]) w htab (fun W hW => ?_)
      have h := parse_short s (by omega) W hW
      rw [if_pos hc] at h
      exact h
    · refine reads_no s w htab (fun W hW => ?_)
      have h := parse_short s (by omega) W hW
      rw [if_neg hc] at h
      exact h
end Go.Proofs.YtbobhjgndgaoaabDoor
