/- WideTexts: THE WALK. Own work of the verifier. -/
import Derived.Test.YtbobhjgndgaoaaaDoorU5
import Derived.Test.YtbobhjgndgaoaaaDoorT12
import Derived.Deep.RegionHeld3
namespace Go.Proofs.YtbobhjgndgaoaaaDoor
open Go.RowKit Go.Sort

theorem keep6 {w W W1 : World} {p q r : Nat} {x0 x1 y0 y1 z0 z1 : Value} (hb : Below W.heap.size W W1)
    (h : W.cell? ⟨p, 0, none⟩ = some x0 ∧ W.cell? ⟨p, 1, none⟩ = some x1 ∧ W.cell? ⟨q, 0, none⟩ = some y0 ∧ W.cell? ⟨q, 1, none⟩ = some y1 ∧ W.cell? ⟨r, 0, none⟩ = some z0 ∧ W.cell? ⟨r, 1, none⟩ = some z1 ∧ (p < W.heap.size ∧ q < W.heap.size ∧ r < W.heap.size ∧ Below w.heap.size w W) ∧ Tab W) :
    W1.cell? ⟨p, 0, none⟩ = some x0 ∧ W1.cell? ⟨p, 1, none⟩ = some x1 ∧ W1.cell? ⟨q, 0, none⟩ = some y0 ∧ W1.cell? ⟨q, 1, none⟩ = some y1 ∧ W1.cell? ⟨r, 0, none⟩ = some z0 ∧ W1.cell? ⟨r, 1, none⟩ = some z1 ∧ (p < W1.heap.size ∧ q < W1.heap.size ∧ r < W1.heap.size ∧ Below w.heap.size w W1) ∧ Tab W1 := by
  obtain ⟨h1, h2, h3, h4, h5, h6, ⟨hp, hq, hr, hB⟩, hT⟩ := h
  have hs := hb.size
  refine ⟨?_, ?_, ?_, ?_, ?_, ?_, ⟨by omega, by omega, by omega, hB.trans (hb.mono hB.size)⟩, hT.below hb⟩
  · rw [hb.cell (p := ⟨p, 0, none⟩) hp, h1]
  · rw [hb.cell (p := ⟨p, 1, none⟩) hp, h2]
  · rw [hb.cell (p := ⟨q, 0, none⟩) hq, h3]
  · rw [hb.cell (p := ⟨q, 1, none⟩) hq, h4]
  · rw [hb.cell (p := ⟨r, 0, none⟩) hr, h5]
  · rw [hb.cell (p := ⟨r, 1, none⟩) hr, h6]
theorem tabS {A B C D E F G : Prop} {W : World} (h : A ∧ B ∧ C ∧ D ∧ E ∧ F ∧ G ∧ Tab W) : Tab W := h.2.2.2.2.2.2.2

set_option maxHeartbeats 4000000 in
set_option maxRecDepth 100000 in
theorem texts_of (ah al : Int) (h1 : Wf ah al) (s : ByteArray) (x y e : Int) (w : World) (htab : Tab w)
    (hp : ∀ W, Tab W → Calls Tryd.prog 24 #[.string s] W fun z w' => z = .returned (.tuple #[.agg #[.int .i64 x, .int .u64 y], .int .i64 e]) ∧ Below W.heap.size W w')
    (hr : ∀ W, Calls Tryd.prog 25 #[.string s] W fun z w' => z = .returned (.tuple #[.agg #[.int .i64 x, .int .u64 y], .int .i64 e]) ∧ Below W.heap.size W w') :
    Calls Tryd.prog 5 #[.agg #[.int .i64 ah, .int .u64 al], .string s] w fun z w' => z = .returned (.bool true) ∧ Below w.heap.size w w' := by
  have HP : Hid _ := hp
  have HR : Hid _ := hr
  clear hp hr
  go_enter Tryd.func5, Tryd.ntmps5
  go_wp2_with fail
  refine (HP.out _ (htab.alloc _)).mono ?_
  rintro z w1 ⟨rfl, hb1⟩
  go_wp2_with fail
  refine (HR.out _).mono ?_
  rintro z w2 ⟨rfl, hb2⟩
  have a1 := own2 hb1
  have a2 := own2 hb2
  have hS0 : (w2.alloc (.cells #[.int .i64 x, .int .u64 y] 25)).cell? ⟨w.heap.size, 0, none⟩ = some (.int .i64 ah) ∧ (w2.alloc (.cells #[.int .i64 x, .int .u64 y] 25)).cell? ⟨w.heap.size, 1, none⟩ = some (.int .u64 al) ∧
      (w2.alloc (.cells #[.int .i64 x, .int .u64 y] 25)).cell? ⟨w1.heap.size, 0, none⟩ = some (.int .i64 x) ∧ (w2.alloc (.cells #[.int .i64 x, .int .u64 y] 25)).cell? ⟨w1.heap.size, 1, none⟩ = some (.int .u64 y) ∧
      (w2.alloc (.cells #[.int .i64 x, .int .u64 y] 25)).cell? ⟨w2.heap.size, 0, none⟩ = some (.int .i64 x) ∧ (w2.alloc (.cells #[.int .i64 x, .int .u64 y] 25)).cell? ⟨w2.heap.size, 1, none⟩ = some (.int .u64 y) ∧
      (w.heap.size < (w2.alloc (.cells #[.int .i64 x, .int .u64 y] 25)).heap.size ∧ w1.heap.size < (w2.alloc (.cells #[.int .i64 x, .int .u64 y] 25)).heap.size ∧ w2.heap.size < (w2.alloc (.cells #[.int .i64 x, .int .u64 y] 25)).heap.size ∧ Below w.heap.size w (w2.alloc (.cells #[.int .i64 x, .int .u64 y] 25))) ∧ Tab (w2.alloc (.cells #[.int .i64 x, .int .u64 y] 25)) := by
    have B1 : Below w.heap.size w w1 := (bel1 w _).trans (hb1.mono (by simp))
    have B2 : Below w.heap.size w w2 := B1.trans (((bel1 w1 _).trans (hb2.mono (by simp))).mono B1.size)
    have B3 : Below (w.alloc (.cells #[.int .i64 ah, .int .u64 al] 25)).heap.size (w.alloc (.cells #[.int .i64 ah, .int .u64 al] 25)) (w2.alloc (.cells #[.int .i64 x, .int .u64 y] 25)) :=
      (hb1.trans (((bel1 w1 _).trans (hb2.mono (by simp))).mono hb1.size)).alloc (by have := hb1.size; have := a2.2.2.2.2; omega) _
    have o1 := own2 B3
    have o2 := own2 (hb2.alloc hb2.size (.cells #[.int .i64 x, .int .u64 y] 25))
    refine ⟨o1.1, o1.2.1, o2.1, o2.2.1, by simp [go_sem], by simp [go_sem], ⟨o1.2.2.2.2, o2.2.2.2.2, by simp, B2.alloc B2.size _⟩, (htab.below B2).alloc _⟩
  clear a1 a2 hb1 hb2
  go_wp2
  go_region_held3 (fun W => W.cell? ⟨w.heap.size, 0, none⟩ = some (.int .i64 ah) ∧ W.cell? ⟨w.heap.size, 1, none⟩ = some (.int .u64 al) ∧ W.cell? ⟨w1.heap.size, 0, none⟩ = some (.int .i64 x) ∧ W.cell? ⟨w1.heap.size, 1, none⟩ = some (.int .u64 y) ∧ W.cell? ⟨w2.heap.size, 0, none⟩ = some (.int .i64 x) ∧ W.cell? ⟨w2.heap.size, 1, none⟩ = some (.int .u64 y) ∧ (w.heap.size < W.heap.size ∧ w1.heap.size < W.heap.size ∧ w2.heap.size < W.heap.size ∧ Below w.heap.size w W) ∧ Tab W)
    (first | exact keep6 (by assumption) (by assumption) | exact keep6 (Below.drew (Below.refl _ _)) hS0)
    (first
      | (go_at_call 26; refine (print_any _ _ h1 _ (tabS (by assumption))).mono ?_; rintro z w3 ⟨rfl, hb⟩)
      | (go_at_call 27; refine (refprint_any _ _ h1 _).mono ?_; rintro z w3 ⟨rfl, hb⟩)
      | (go_at_call 9; refine (fixed_any _ (tabS (by assumption))).mono ?_; rintro z w3 ⟨rfl, hb⟩))
  rename_i hS
  have B := hS.2.2.2.2.2.2.1.2.2.2
  go_wp2
  go_ret
  exact ⟨rfl, B⟩
theorem texts_walk (ah al : Int) (h1 : Wf ah al) (s : ByteArray) (hs : s.size ≤ maxLen) (w : World) (htab : Tab w) :
    Calls Tryd.prog 5 #[.agg #[.int .i64 ah, .int .u64 al], .string s] w fun z w' => z = .returned (.bool true) ∧ Below w.heap.size w w' := by
  have p := fun W hW => parse_any s W hW
  have r := fun W => refparse_any s hs W
  unfold parseV at p r
  by_cases h : refOK s.data.toList = true
  · rw [if_pos h] at p r
    exact texts_of ah al h1 s _ _ _ w htab p r
  · rw [if_neg h] at p r
    exact texts_of ah al h1 s _ _ _ w htab p r
end Go.Proofs.YtbobhjgndgaoaaaDoor
