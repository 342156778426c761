import Derived.Test.YtbobhjgndgaoaaaDoorLeaf
import Derived.Test.YtbobhjgndgaoaaaDoorT2
import Derived.Test.YtbobhjgndgaoaaaDoorT3
namespace Go.Proofs.YtbobhjgndgaoaaaDoor
open Go.RowKit
theorem bcell {W w1 : World} (hb : Below W.heap.size W w1) : (∀ b o, b < W.heap.size → w1.cell? ⟨b, o, none⟩ = W.cell? ⟨b, o, none⟩) ∧ (∀ b o, b < W.heap.size → w1.frozen? ⟨b, o, none⟩ = W.frozen? ⟨b, o, none⟩) :=
  ⟨fun b o h => hb.cell (p := ⟨b, o, none⟩) h, fun b o h => hb.frozen (p := ⟨b, o, none⟩) h⟩
/-- .. and with one block more. -/
theorem bcellA {W w1 : World} (hb : Below W.heap.size W w1) : (∀ ob b o, b < W.heap.size → (w1.alloc ob).cell? ⟨b, o, none⟩ = W.cell? ⟨b, o, none⟩) ∧ (∀ ob b o, b < W.heap.size → (w1.alloc ob).frozen? ⟨b, o, none⟩ = W.frozen? ⟨b, o, none⟩) :=
  ⟨fun ob b o h => (hb.alloc hb.size ob).cell (p := ⟨b, o, none⟩) h, fun ob b o h => (hb.alloc hb.size ob).frozen (p := ⟨b, o, none⟩) h⟩
theorem Below.drewN' {B : Nat} {a w : World} (h : Below B a w) (n : Nat) : Below B a (w.drewN n) := by
  induction n with
  | zero => exact h
  | succ n ih => exact ⟨ih.os, ih.tape, ih.output, ih.size, ih.block⟩

set_option maxHeartbeats 400000 in
theorem neg_any (ah al : Int) (h1 : Wf ah al) (w : World) :
    Calls Tryd.prog 14 #[.agg #[.int .i64 ah, .int .u64 al]] w fun e w' =>
      e = .returned (num (rnd (- val ah al))) ∧ Below w.heap.size w w' := by
  have hs := sub_any 0 0 ah al ⟨by decide, by decide, by decide, by decide⟩ h1
  rw [show val 0 0 - val ah al = - val ah al from by rw [show val 0 0 = 0 from by decide]; omega] at hs
  have HS : Hid _ := hs
  clear hs
  go_enter Tryd.func14, Tryd.ntmps14
  go_wp2_with fail
  refine (HS.out _).mono ?_
  rintro e w1 ⟨rfl, hb⟩
  obtain ⟨hc, hf⟩ := bcell hb
  have hz : w.heap.size + 1 < w1.heap.size := by have := hb.size; simp at this; omega
  go_wp2
  simp [bodyPost, results, Tryd.results14, go_sem, hc]
  exact (((bel2 w _ _).trans (hb.mono (by simp; omega))).setCell (by simp) _).setCell (by simp) _
set_option maxHeartbeats 400000 in
theorem refsub_any (ah al bh bl : Int) (h1 : Wf ah al) (h2 : Wf bh bl) (w : World) :
    Calls Tryd.prog 13 #[.agg #[.int .i64 ah, .int .u64 al], .agg #[.int .i64 bh, .int .u64 bl]] w fun e w' =>
      e = .returned (num (rnd (val ah al - val bh bl))) ∧ Below w.heap.size w w' := by
  have hs := refadd_any ah al _ _ h1 (wf_rnd (- val bh bl))
  rw [val_hl, rnd_add_rnd', show val ah al + - val bh bl = val ah al - val bh bl from by omega] at hs
  have HS : Hid _ := hs
  clear hs
  go_enter Tryd.func13, Tryd.ntmps13
  go_wp2_with fail
  refine (refneg_any _ _ h2 _).mono ?_
  rintro e w1 ⟨rfl, hb⟩
  obtain ⟨hc, hf⟩ := bcellA hb
  have hz : w.heap.size + 1 + 1 < w1.heap.size := by have := hb.size; simp at this; omega
  go_wp2_with fail
  refine (HS.out _).mono ?_
  rintro e w2 ⟨rfl, hb2⟩
  obtain ⟨hc2, hf2⟩ := bcell hb2
  have hz2 : w.heap.size + 1 + 1 < w2.heap.size := by have := hb2.size; simp at this; omega
  have hz3 : w.heap.size + 1 + 1 < w1.heap.size + 1 := by omega
  go_wp2
  simp [bodyPost, results, Tryd.results13, go_sem, hc, hc2, hz3]
  refine Below.setCell (Below.setCell ?_ ?_ _) ?_ _
  · exact (((bel3 w _ _ _).trans (hb.mono (by simp; omega))).alloc (by omega) _).trans (hb2.mono (by simp; omega))
  · show w.heap.size ≤ w.heap.size + 1 + 1; omega
  · show w.heap.size ≤ w.heap.size + 1 + 1; omega
set_option maxHeartbeats 400000 in
theorem sign_any (ah al : Int) (h1 : Wf ah al) (w : World) :
    Calls Tryd.prog 18 #[.agg #[.int .i64 ah, .int .u64 al]] w fun e w' =>
      e = .returned (.int .i64 (cmp (val ah al) 0)) ∧ Below w.heap.size w w' := by
  have hs := cmp_any ah al 0 0 h1 ⟨by decide, by decide, by decide, by decide⟩
  rw [show val 0 0 = 0 from by decide] at hs
  have HS : Hid _ := hs
  clear hs
  go_enter Tryd.func18, Tryd.ntmps18
  go_wp2_with fail
  refine (HS.out _).mono ?_
  rintro e w1 ⟨rfl, hb⟩
  go_wp2
  go_ret
  exact ⟨rfl, (bel1 w _).trans (hb.mono (by simp))⟩
set_option maxHeartbeats 400000 in
theorem refsign_any (ah al : Int) (h1 : Wf ah al) (w : World) :
    Calls Tryd.prog 19 #[.agg #[.int .i64 ah, .int .u64 al]] w fun e w' =>
      e = .returned (.int .i64 (cmp (val ah al) 0)) ∧ Below w.heap.size w w' := by
  have hs := refcmp_any ah al 0 0 h1 ⟨by decide, by decide, by decide, by decide⟩
  rw [show val 0 0 = 0 from by decide] at hs
  have HS : Hid _ := hs
  clear hs
  go_enter Tryd.func19, Tryd.ntmps19
  go_wp2_with fail
  refine (HS.out _).mono ?_
  rintro e w1 ⟨rfl, hb⟩
  go_wp2
  go_ret
  exact ⟨rfl, (bel1 w _).trans (hb.mono (by simp))⟩

/-- The magnitude: its two words. -/
def mag (n : Int) : Int := if n < 0 then -n else n
theorem mag_words {ah al : Int} (h1 : Wf ah al) (hn : 0 ≤ ah) : ah = hiOf (mag (val ah al)) ∧ al = loOf (mag (val ah al)) := by
  obtain ⟨_, _, _, _⟩ := h1
  have : mag (val ah al) = val ah al := by unfold mag; rw [if_neg (by unfold val; omega)]
  rw [this]; unfold hiOf loOf val; constructor <;> omega
theorem mag_words' {ah al : Int} (h1 : Wf ah al) (hn : ah < 0) : IntKind.u64.wrap (hiOf (rnd (- val ah al))) = hiOf (mag (val ah al)) ∧ loOf (rnd (- val ah al)) = loOf (mag (val ah al)) := by
  obtain ⟨_, _, _, _⟩ := h1
  have : mag (val ah al) = - val ah al := by unfold mag; rw [if_pos (by unfold val; omega)]
  rw [this, IntKind.wrap_u64]; unfold hiOf loOf rnd val; constructor <;> omega
set_option maxHeartbeats 400000 in
theorem mag_any (ah al : Int) (h1 : Wf ah al) (w : World) :
    Calls Tryd.prog 40 #[.agg #[.int .i64 ah, .int .u64 al]] w fun e w' =>
      e = .returned (.tuple #[.int .u64 (hiOf (mag (val ah al))), .int .u64 (loOf (mag (val ah al)))]) ∧ Below w.heap.size w w' := by
  by_cases hn : 0 ≤ ah
  · obtain ⟨e1, e2⟩ := mag_words h1 hn
    rw [← e1, ← e2]
    clear e1 e2
    obtain ⟨a1, a2, a3, a4⟩ := h1
    go_enter Tryd.func40, Tryd.ntmps40
    go_wp2
    go_quiet (fail)
    go_wp2
    go_ret2
    exact ⟨rfl, Below.drewN' (bel1 w _) _⟩
  · obtain ⟨e1, e2⟩ := mag_words' h1 (by omega)
    rw [← e1, ← e2]
    clear e1 e2
    have hn' : ah < 0 := by omega
    go_enter Tryd.func40, Tryd.ntmps40
    go_wp2_with fail
    refine (neg_any _ _ h1 _).mono ?_
    rintro e w1 ⟨rfl, hb⟩
    obtain ⟨hc, hf⟩ := bcell hb
    have hz : w.heap.size < w1.heap.size := by have := hb.size; simp at this; omega
    go_wp2
    go_quiet (fail)
    go_wp2
    go_ret2
    exact ⟨rfl, Below.drewN' ((((bel1 w _).trans (hb.mono (by simp))).setCell (by simp) _).setCell (by simp) _) _⟩
end Go.Proofs.YtbobhjgndgaoaaaDoor
