/- THE DOCUMENT's TEXTS: Parse of no text; Parse of any. Own work of the verifier. -/
import Derived.Test.YtbobhjgndgaoaaaDoorU4
import Derived.Test.YtbobhjgndgaoaaaDoorS1
namespace Go.Proofs.YtbobhjgndgaoaaaDoor
open Go.RowKit Go.Sort

theorem itoa_zero : Lib.itoa 0 = [48] := by decide +kernel
set_option maxHeartbeats 1000000 in
set_option maxRecDepth 100000 in
theorem refparse_e (w : World) :
    Calls Tryd.prog 25 #[.string ⟨#[]⟩] w fun e w' => e = .returned (.tuple #[.agg #[.int .i64 0, .int .u64 0], .int .i64 5]) ∧ Below w.heap.size w w' := by
  have hp := refprint_any 0 0 ⟨by decide, by decide, by decide, by decide⟩
  rw [show val 0 0 = 0 from by decide, itoa_zero] at hp
  have HP : Hid _ := hp
  clear hp
  go_enter Tryd.func25, Tryd.ntmps25
  go_wp2
  refine wp_loop_rounds 1 ?_
  rw [rounds_succ]
  go_wp2_with fail
  refine (HP.out _).mono ?_
  rintro e w1 ⟨rfl, hb1⟩
  have hS := start4 w (.int .i64 0) (.int .u64 0) (.int .i64 0) (.int .u64 0) 25
  obtain ⟨x1, x2, _, _, x5, x6⟩ := keep4 hb1 hS
  have x3 : w1.frozen? ⟨w.heap.size, 0, none⟩ = false := by
    rw [hb1.frozen (p := ⟨w.heap.size, 0, none⟩) (by simp; omega)]; simp [go_sem]
  have x4 : w1.frozen? ⟨w.heap.size, 1, none⟩ = false := by
    rw [hb1.frozen (p := ⟨w.heap.size, 1, none⟩) (by simp; omega)]; simp [go_sem]
  clear hS
  go_wp2
  refine bodyPost_ret (v := .tuple #[.agg #[.int .i64 0, .int .u64 0], .int .i64 5]) (by simp [results, Tryd.results25, go_sem, x1, x2]) rfl ⟨rfl, ?_⟩
  refine Below.setCell (Below.setCell x6 ?_ _) ?_ _ <;> exact Nat.le_refl _

/-- What the document reads. -/
def parseV (l : List UInt8) : Value := if refOK l = true then .tuple #[num (refV l (fromOf l)), .int .i64 0] else .tuple #[.agg #[.int .i64 0, .int .u64 0], .int .i64 5]
theorem seen_mem (l : List UInt8) (f m : Nat) (h : m < l.length) (hf : f ≤ m) (h41 : m < 41) : l[m] ∈ seen l f 41 := by
  unfold seen
  rw [List.mem_drop_iff_getElem]
  exact ⟨m - f, by rw [List.length_take]; omega, by rw [List.getElem_take]; congr 1; omega⟩
theorem parse_facts (l : List UInt8) (f : Nat) (hf : fromOf l = f) :
    (∀ m (h : m < l.length), f ≤ m → m < 41 → isDig (l[m]) = false → parseV l = .tuple #[.agg #[.int .i64 0, .int .u64 0], .int .i64 5]) ∧
    ((seen l f 41).all isDig = true → Lib.itoa (refV l f) = l → parseV l = .tuple #[num (refV l f), .int .i64 0]) ∧
    ((seen l f 41).all isDig = true → Lib.itoa (refV l f) ≠ l → parseV l = .tuple #[.agg #[.int .i64 0, .int .u64 0], .int .i64 5]) := by
  unfold parseV refOK
  rw [hf]
  refine ⟨fun m h h1 h2 h3 => ?_, fun h1 h2 => ?_, fun h1 h2 => ?_⟩
  · have : (seen l f 41).all isDig = false := by
      rw [List.all_eq_false]
      exact ⟨l[m], seen_mem l f m h h1 h2, by rw [h3]; decide⟩
    rw [this]; simp
  · rw [h1, h2]; simp
  · rw [h1]; simp [h2]
theorem refparse_any (s : ByteArray) (hmax : s.size ≤ maxLen) (w : World) :
    Calls Tryd.prog 25 #[.string s] w fun e w' => e = .returned (parseV s.data.toList) ∧ Below w.heap.size w w' := by
  have hsz : s.data.toList.length = s.size := by rw [Array.length_toList]; rfl
  by_cases h0 : s.size = 0
  · have hs : s = ⟨#[]⟩ := by
      apply ByteArray.ext
      exact Array.eq_empty_of_size_eq_zero h0
    have hv : parseV s.data.toList = .tuple #[.agg #[.int .i64 0, .int .u64 0], .int .i64 5] := by
      rw [hs]
      unfold parseV
      rw [if_neg (by decide +kernel)]
    rw [hv, hs]
    exact refparse_e w
  · have hpos : 0 < s.size := by omega
    have hfst : s.data.toList = s[0] :: s.data.toList.tail := by
      cases hl : s.data.toList with
      | nil => rw [hl] at hsz; simp at hsz; omega
      | cons c r =>
        have : s[0] = s.data.toList[0]'(by omega) := rfl
        rw [this]
        simp [hl]
    by_cases hc : s[0] = 45
    · have hf : fromOf s.data.toList = 1 := by
        unfold fromOf
        rw [hfst, hc, pre_cons]; rfl
      obtain ⟨p1, p2, p3⟩ := parse_facts s.data.toList 1 hf
      exact refparse_1 s hmax hpos hc _ p1 (fun h1 h2 => p2 h1 (by rw [beq_iff_eq, ByteArray.toList_eq] at h2; exact h2)) (fun h1 h2 => p3 h1 (by rw [beq_eq_false_iff_ne, ByteArray.toList_eq] at h2; exact h2)) w
    · have hf : fromOf s.data.toList = 0 := by
        unfold fromOf
        have : Lib.hasPrefix s.data.toList [45] = false := by
          rw [hfst]
          simp [Lib.hasPrefix, List.isPrefixOf]
          exact fun e => hc e.symm
        rw [this]; rfl
      obtain ⟨p1, p2, p3⟩ := parse_facts s.data.toList 0 hf
      exact refparse_n s hmax hpos hc _ p1 (fun h1 h2 => p2 h1 (by rw [beq_iff_eq, ByteArray.toList_eq] at h2; exact h2)) (fun h1 h2 => p3 h1 (by rw [beq_eq_false_iff_ne, ByteArray.toList_eq] at h2; exact h2)) w
/-- The code's Parse tells the same. -/
theorem parse_any (s : ByteArray) (w : World) (htab : Tab w) :
    Calls Tryd.prog 24 #[.string s] w fun e w' => e = .returned (parseV s.data.toList) ∧ Below w.heap.size w w' := by
  have hsz : s.data.toList.length = s.size := by rw [Array.length_toList]; rfl
  obtain ⟨o1, o2⟩ := ok_same s.data.toList
  unfold parseV
  by_cases hl : 40 < s.size
  · rw [if_neg (by rw [o1]; unfold isText; simp; intro h; omega)]
    exact parse_long s hl w
  · have h := parse_short s (by omega) w htab
    by_cases ht : Lib.itoa (readF s.data.toList) = s.data.toList
    · have hk : refOK s.data.toList = true := by rw [o1]; unfold isText; simp [ht]; omega
      rw [if_pos ht] at h
      rw [if_pos hk, o2 hk]
      exact h
    · have hk : ¬ refOK s.data.toList = true := by rw [o1]; unfold isText; simp [ht]
      rw [if_neg ht] at h
      rw [if_neg hk]
      exact h
end Go.Proofs.YtbobhjgndgaoaaaDoor
