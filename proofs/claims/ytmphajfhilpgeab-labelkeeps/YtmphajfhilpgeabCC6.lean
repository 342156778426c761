/- LabelPrints: beyond, the walk, the row. Own work of the verifier. -/
import Derived.Test.YtmphajfhilpgeabCC0
import Derived.Test.YtmphajfhilpgeabCC1
namespace Go.Proofs.Ytmphajfhilpgeab
open Go.ChangeShapes Go.WideShapes Go.ChangeAt Go.RowKit Go.Joins

/-- How much labels weigh by the document's bound. -/
def wgt : List Lb → Nat
  | [] => 0
  | a :: r => 8 + a.1.length + a.2.length + wgt r
theorem wgt_take (L : List Lb) (i : Nat) (h : i < L.length) : wgt (L.take (i + 1)) = wgt (L.take i) + (8 + L[i].1.length + L[i].2.length) := by
  induction L generalizing i with
  | nil => simp at h
  | cons a r ih =>
    cases i with
    | zero => simp [wgt]
    | succ i =>
      have := ih i (by simpa using h)
      rw [List.take_succ_cons, List.take_succ_cons, wgt, wgt, this]
      simp only [List.getElem_cons_succ]
      omega
theorem wgt_le (L : List Lb) : ∀ i, wgt (L.take i) ≤ wgt L := by
  induction L with
  | nil => intro i; simp
  | cons a r ih =>
    intro i
    cases i with
    | zero => simp [wgt]
    | succ i => rw [List.take_succ_cons, wgt, wgt]; have := ih i; omega
theorem escL_len (q : Bool) (l : List UInt8) : (escL q l).length ≤ 2 * l.length := by
  induction l with
  | nil => simp [escL]
  | cons b r ih =>
    rw [escL, List.length_append, List.length_cons]
    have : (esc1 q b).length ≤ 2 := by
      unfold esc1
      split
      · simp
      · split <;> simp
    omega
theorem prB_len (f : Bool) (L : List Lb) : (prB f L).length ≤ 2 * wgt L := by
  induction L generalizing f with
  | nil => simp [prB, wgt]
  | cons a r ih =>
    rw [prB, wgt]
    have h1 := ih false
    have h2 := escL_len true a.2
    unfold lbT
    simp only [List.length_cons, List.length_append, List.length_nil]
    omega
theorem print_len (n : List UInt8) (L : List Lb) : (printT n L).length ≤ n.length + 2 * wgt L + 1 := by
  unfold printT
  rw [List.length_append, List.length_append]
  have := prB_len true L
  split
  · simp; omega
  · simp; omega
theorem wgt_mem (L : List Lb) (a : Lb) (h : a ∈ L) : a.2.length ≤ wgt L := by
  induction L with
  | nil => cases h
  | cons b r ih =>
    rw [wgt]
    rcases List.mem_cons.1 h with rfl | k
    · omega
    · have := ih k; omega
set_option maxHeartbeats 4000000 in
set_option maxRecDepth 100000 in
theorem beyond_any (n : List UInt8) (hn : n.length ≤ 140737488351232) (ao : Option Addr) (b o cap : Nat) (L : List Lb) (hao : L ≠ [] → ao = some ⟨b, o, none⟩) (hl : L.length ≤ 9223372036854775807) (hs : ∀ a ∈ L, a.1.length ≤ 140737488351232 ∧ a.2.length ≤ 140737488351232) (w : World) (hR : RowL w b o L) :
    Calls Try.prog 15 #[.string ⟨n.toArray⟩, .slice ao L.length cap] w fun r w' => r = .returned (.bool (decide (2147483647 < n.length + wgt L))) ∧ w' = w := by
  obtain ⟨x0, hx0⟩ : ∃ x0 : Int, 2147483647 - (n.length : Int) = x0 := ⟨_, rfl⟩
  have hw0 : IntKind.i64.wrap (2147483647 - (n.length : Int)) = x0 := by rw [IntKind.wrap_i64]; omega
  have HI0 : Hid (x0 = 2147483647 - ((n.length + wgt (L.take 0) : Nat) : Int)) := by show _ = _; rw [List.take_zero, wgt]; omega
  have HR : Hid (RowL w b o L) := hR
  have HS : Hid _ := hs
  have HM : Hid (∀ i, wgt (L.take i) ≤ wgt L) := wgt_le L
  have hxr : -140737488351232 ≤ x0 ∧ x0 ≤ 2147483647 := by omega
  obtain ⟨T, hT⟩ : ∃ T, T = n.length + wgt L := ⟨_, rfl⟩
  have HTT : Hid _ := hT
  rw [← hT]
  clear hR hs hT hx0
  go_enter Try.func15, Try.ntmps15
  go_wp2_with fail
  go_loopw [5, 6] (fun v a W => ∃ (i : Nat) (x : Int), i ≤ L.length ∧ a = .int .i64 (i : Int) ∧ v = .int .i64 x ∧ (-562949953421312 ≤ x ∧ x ≤ 2147483647) ∧ Hid (x = 2147483647 - ((n.length + wgt (L.take i) : Nat) : Int)) ∧ W = w) (fun _ a _ => L.length - (intOf a).toNat)
  case atStart => exact ⟨0, x0, by omega, rfl, rfl, by omega, HI0, rfl⟩
  case round =>
    clear HI0 hxr
    obtain ⟨i, x, hi, rfl, rfl, hxr, HI, hw⟩ := hrel
    subst wr
    by_cases hx : 0 ≤ x
    · by_cases hlt : i < L.length
      · have hlt' : (i : Int) < (L.length : Int) := by omega
        obtain rfl := hao (by intro k; rw [k] at hlt; simp at hlt)
        obtain ⟨q1, q2⟩ := HR.out i hlt
        obtain ⟨m1, m2⟩ := HS.out L[i] (List.getElem_mem hlt)
        have HI' : Hid (x - 8 - (L[i].1.length : Int) - (L[i].2.length : Int) = 2147483647 - ((n.length + wgt (L.take (i + 1)) : Nat) : Int)) := by
          show _ = _
          rw [wgt_take L i hlt, HI.out]
          omega
        generalize L[i].1 = y1 at *
        generalize L[i].2 = y2 at *
        obtain ⟨x1, hx1⟩ : ∃ x1 : Int, x - 8 = x1 := ⟨_, rfl⟩
        have hw1 : IntKind.i64.wrap (x - 8) = x1 := by rw [IntKind.wrap_i64]; omega
        obtain ⟨x2, hx2⟩ : ∃ x2 : Int, x1 - (y1.length : Int) = x2 := ⟨_, rfl⟩
        have hw2 : IntKind.i64.wrap (x1 - (y1.length : Int)) = x2 := by rw [IntKind.wrap_i64]; omega
        obtain ⟨x3, hx3⟩ : ∃ x3 : Int, x2 - (y2.length : Int) = x3 := ⟨_, rfl⟩
        have hw3 : IntKind.i64.wrap (x2 - (y2.length : Int)) = x3 := by rw [IntKind.wrap_i64]; omega
        have HI2 : Hid (x3 = 2147483647 - ((n.length + wgt (L.take (i + 1)) : Nat) : Int)) := by
          show _ = _
          rw [← HI'.out, hx1, hx2, hx3]
        have hr3 : -562949953421312 ≤ x3 ∧ x3 ≤ 2147483647 := by omega
        have hxd : decide ((0 : Int) ≤ x) = true := decide_eq_true hx
        clear HI HI' HS HR HM HTT hx1 hx2 hx3
        as_aux_lemma =>
          go_wp2_with fail
          exact ⟨⟨i + 1, x3, by omega, by go_num, rfl, hr3, HI2, trivial⟩, by simp [intOf]; omega⟩
      · have hlt' : ¬ (i : Int) < (L.length : Int) := by omega
        have hx' : ¬ x < 0 := by omega
        have HF : Hid (decide (2147483647 < T) = false) := by
          have h1 := HI.out
          rw [List.take_of_length_le (by omega)] at h1
          have h2 := HTT.out
          exact decide_eq_false (by omega)
        clear HI HS HR HM HTT
        as_aux_lemma =>
          go_wp2_with fail
          go_ret
          exact ⟨retB HF.out.symm, rfl⟩
    · have hx' : x < 0 := by omega
      have HF : Hid (decide (2147483647 < T) = true) := by
        have h1 := HI.out
        have h2 := HTT.out
        have h3 := HM.out i
        exact decide_eq_true (by omega)
      clear HI HS HR HM HTT
      by_cases hlt : i < L.length
      · have hlt' : (i : Int) < (L.length : Int) := by omega
        as_aux_lemma =>
          go_wp2_with fail
          go_ret
          exact ⟨retB HF.out.symm, rfl⟩
      · have hlt' : ¬ (i : Int) < (L.length : Int) := by omega
        as_aux_lemma =>
          go_wp2_with fail
          go_ret
          exact ⟨retB HF.out.symm, rfl⟩
end Go.Proofs.Ytmphajfhilpgeab
