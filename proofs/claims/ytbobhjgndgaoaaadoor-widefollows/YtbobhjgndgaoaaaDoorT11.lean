import Derived.Test.YtbobhjgndgaoaaaDoorT10
namespace Go.Proofs.YtbobhjgndgaoaaaDoor
open Go.RowKit Go.Sort

/-- The number that 'read' tells. -/
def readF (l : List UInt8) : Int := if Lib.hasPrefix l [45] then rnd (- readL (Lib.trimPrefix l [45])) else readL (Lib.trimPrefix l [45])
theorem inR_readF (l : List UInt8) : InR (readF l) := by
  unfold readF; split
  · exact inR_rnd _
  · exact inR_readL _
/-- Is that a number's text? -/
def isText (l : List UInt8) : Bool := decide (l.length ≤ 40) && (Lib.itoa (readF l) == l)

theorem own2 {w w1 : World} {a b : Value} {t : TypeId} (hb : Below (w.alloc (.cells #[a, b] t)).heap.size (w.alloc (.cells #[a, b] t)) w1) :
    w1.cell? ⟨w.heap.size, 0, none⟩ = some a ∧ w1.cell? ⟨w.heap.size, 1, none⟩ = some b ∧ w1.frozen? ⟨w.heap.size, 0, none⟩ = false ∧ w1.frozen? ⟨w.heap.size, 1, none⟩ = false ∧ w.heap.size < w1.heap.size := by
  refine ⟨?_, ?_, ?_, ?_, by have := hb.size; simp at this; omega⟩
  · rw [hb.cell (p := ⟨w.heap.size, 0, none⟩) (by simp)]; simp [go_sem]
  · rw [hb.cell (p := ⟨w.heap.size, 1, none⟩) (by simp)]; simp [go_sem]
  · rw [hb.frozen (p := ⟨w.heap.size, 0, none⟩) (by simp)]; simp [go_sem]
  · rw [hb.frozen (p := ⟨w.heap.size, 1, none⟩) (by simp)]; simp [go_sem]
set_option maxHeartbeats 1000000 in
set_option maxRecDepth 100000 in
theorem parse_long (s : ByteArray) (hs : 40 < s.size) (w : World) :
    Calls Tryd.prog 24 #[.string s] w fun e w' =>
      e = .returned (.tuple #[.agg #[.int .i64 0, .int .u64 0], .int .i64 5]) ∧ Below w.heap.size w w' := by
  have h' : 40 < (s.size : Int) := by omega
  go_enter Tryd.func24, Tryd.ntmps24
  go_wp2
  exact bodyPost_ret (v := .tuple #[.agg #[.int .i64 0, .int .u64 0], .int .i64 5]) (by simp [results, Tryd.results24, go_sem]) rfl ⟨rfl, bel1 _ _⟩
set_option maxHeartbeats 1000000 in
set_option maxRecDepth 100000 in
theorem parse_short (s : ByteArray) (hs : s.size ≤ 40) (w : World) (htab : Tab w) :
    Calls Tryd.prog 24 #[.string s] w fun e w' =>
      e = .returned (if Lib.itoa (readF s.data.toList) = s.data.toList then .tuple #[num (readF s.data.toList), .int .i64 0] else .tuple #[.agg #[.int .i64 0, .int .u64 0], .int .i64 5]) ∧ Below w.heap.size w w' := by
  have h' : (s.size : Int) ≤ 40 := by omega
  have hr := read_any s hs
  have hi := inR_readF s.data.toList
  rw [show (if Lib.hasPrefix s.data.toList [45] = true then rnd (- readL (Lib.trimPrefix s.data.toList [45])) else readL (Lib.trimPrefix s.data.toList [45])) = readF s.data.toList from rfl] at hr
  have hp := print_any _ _ (wf_of hi)
  rw [val_hl] at hp
  have HR : Hid _ := hr
  have HP : Hid _ := hp
  clear hr hp
  by_cases hc : Lib.itoa (readF s.data.toList) = s.data.toList
  · rw [if_pos hc]
    have hq : (Lib.itoa (readF s.data.toList) == s.toList) = true := by rw [beq_iff_eq, hc, ByteArray.toList_eq]
    clear hc
    generalize readF s.data.toList = n at *
    go_enter Tryd.func24, Tryd.ntmps24
    go_wp2_with fail
    refine (HR.out _).mono ?_
    rintro e w1 ⟨rfl, hb1⟩
    go_wp2_with fail
    refine (HP.out _ (((htab.alloc _).below hb1).alloc _)).mono ?_
    rintro e w2 ⟨rfl, hb2⟩
    obtain ⟨x1, x2, x3, x4, x5⟩ := own2 (hb1.trans ((bel1 w1 _).trans (hb2.mono (by simp)) |>.mono hb1.size))
    obtain ⟨y1, y2, y3, y4, y5⟩ := own2 hb2
    go_wp2
    refine bodyPost_ret (v := .tuple #[num n, .int .i64 0]) (by simp [results, Tryd.results24, go_sem, *]) rfl ⟨rfl, ?_⟩
    refine Below.setCell (Below.setCell ?_ ?_ _) ?_ _ <;> try exact Nat.le_refl _
    exact ((bel1 w _).trans (hb1.mono (by simp))).trans (((bel1 w1 _).trans (hb2.mono (by simp))).mono (by have := hb1.size; simp at this; omega))
  · rw [if_neg hc]
    have hq : (Lib.itoa (readF s.data.toList) == s.toList) = false := by rw [beq_eq_false_iff_ne, ByteArray.toList_eq]; exact hc
    clear hc
    generalize readF s.data.toList = n at *
    go_enter Tryd.func24, Tryd.ntmps24
    go_wp2_with fail
    refine (HR.out _).mono ?_
    rintro e w1 ⟨rfl, hb1⟩
    go_wp2_with fail
    refine (HP.out _ (((htab.alloc _).below hb1).alloc _)).mono ?_
    rintro e w2 ⟨rfl, hb2⟩
    obtain ⟨x1, x2, x3, x4, x5⟩ := own2 (hb1.trans ((bel1 w1 _).trans (hb2.mono (by simp)) |>.mono hb1.size))
    go_wp2
    refine bodyPost_ret (v := .tuple #[.agg #[.int .i64 0, .int .u64 0], .int .i64 5]) (by simp [results, Tryd.results24, go_sem, *]) rfl ⟨rfl, ?_⟩
    refine Below.setCell (Below.setCell ?_ ?_ _) ?_ _ <;> try exact Nat.le_refl _
    exact ((bel1 w _).trans (hb1.mono (by simp))).trans (((bel1 w1 _).trans (hb2.mono (by simp))).mono (by have := hb1.size; simp at this; omega))
end Go.Proofs.YtbobhjgndgaoaaaDoor
