/- Print, the document's. Own work of the verifier. -/
import Derived.Test.YtmphajfhilpgeabLA12
namespace Go.Proofs.Ytmphajfhilpgeab
open Go.RowKit

def lbT (a : Lb) : List UInt8 := a.1 ++ [61, 34] ++ escL true a.2 ++ [34]
def prB : Bool → List Lb → List UInt8
  | _, [] => []
  | f, a :: r => (if f then 123 else 44) :: (lbT a ++ prB false r)
/-- The text of a series. -/
def printT (n : List UInt8) (L : List Lb) : List UInt8 := n ++ prB true L ++ (if L.length = 0 then [] else [125])
theorem prB_drop (f : Bool) (L : List Lb) (i : Nat) (h : i < L.length) : prB f (L.drop i) = (if f then 123 else 44) :: (lbT L[i] ++ prB false (L.drop (i + 1))) := by
  rw [List.drop_eq_getElem_cons h, prB]
theorem sadd (a b : List UInt8) (h : a.length + b.length ≤ 9223372036854775807) (W : World) : (Op.stringOp .add ⟨a.toArray⟩ ⟨b.toArray⟩).run Try.prog W = .ok (.string ⟨(a ++ b).toArray⟩) W := by
  rw [run_string_add_sum W _ _ (by simp [ByteArray.size]; omega), ByteArray.mk_append_mk]
structure KQ (w : World) (b o : Nat) (A : List Lb) (W : World) : Prop where
  r : RowL W b o A
  bl : Below w.heap.size w W
theorem KQ.below {w W W1 : World} {b o : Nat} {A : List Lb} (h : KQ w b o A W) (hb : Below W.heap.size W W1) : KQ w b o A W1 := ⟨h.r.below hb, h.bl.trans (hb.mono h.bl.size)⟩
theorem keepQ {w W W1 : World} {b o i : Nat} {A : List Lb} {x y : Value} (hb : Below W.heap.size W W1)
    (h : W.cell? ⟨b, o + i * 2, none⟩ = some x ∧ W.cell? ⟨b, o + i * 2 + 1, none⟩ = some y ∧ KQ w b o A W) :
    W1.cell? ⟨b, o + i * 2, none⟩ = some x ∧ W1.cell? ⟨b, o + i * 2 + 1, none⟩ = some y ∧ KQ w b o A W1 := by
  obtain ⟨h1, h2, h3⟩ := h
  exact ⟨by rw [hb.cell (p := ⟨b, o + i * 2, none⟩) (lt_of_cell h1)]; exact h1, by rw [hb.cell (p := ⟨b, o + i * 2 + 1, none⟩) (lt_of_cell h2)]; exact h2, h3.below hb⟩
set_option maxHeartbeats 4000000 in
set_option maxRecDepth 100000 in
theorem dprint_any (n : List UInt8) (ao : Option Addr) (b o cap : Nat) (A : List Lb) (hao : A ≠ [] → ao = some ⟨b, o, none⟩) (hl : A.length ≤ 9223372036854775807) (hv : ∀ a ∈ A, a.2.length ≤ 35184372088832) (hT : (printT n A).length ≤ 4611686018427387904) (w : World) (hR : RowL w b o A) :
    Calls Try.prog 18 #[.string ⟨n.toArray⟩, .slice ao A.length cap] w fun r w' => r = .returned (.string ⟨(printT n A).toArray⟩) ∧ Below w.heap.size w w' := by
  have HE : Hid (∀ l : List UInt8, l.length ≤ 35184372088832 → ∀ W, Calls Try.prog 37 #[.string ⟨l.toArray⟩, .bool true] W fun r w' => r = .returned (.string ⟨(escL true l).toArray⟩) ∧ Below W.heap.size W w') := fun l h W => escaped_any l true h W
  have hP : printT n A = n ++ prB true A ++ (if A.length = 0 then [] else [125]) := rfl
  obtain ⟨R, hR0⟩ : ∃ R, R = n ++ prB true A := ⟨_, rfl⟩
  rw [← hR0] at hP
  rw [hP] at hT
  obtain ⟨T, hTT⟩ : ∃ T, T = printT n A := ⟨_, rfl⟩
  rw [← hTT]
  have HTT : Hid (T = R ++ (if A.length = 0 then [] else [125])) := by show T = _; rw [hTT, hP]
  clear hTT
  have HR0 : Hid (R = n ++ prB (decide (0 = 0)) (A.drop 0)) := hR0
  have hRl : R.length ≤ 4611686018427387904 := by rw [List.length_append] at hT; omega
  have HK0 : Hid (KQ w b o A w) := ⟨hR, Below.refl _ _⟩
  have HV : Hid _ := hv
  clear hR hP hR0 hv
  go_enter Try.func18, Try.ntmps18
  go_wp2_with fail
  go_loopw [5, 6] (fun v a W => ∃ (i : Nat) (s : List UInt8), i ≤ A.length ∧ a = .int .i64 (i : Int) ∧ v = .string ⟨s.toArray⟩ ∧ Hid (R = s ++ prB (decide (i = 0)) (A.drop i)) ∧ Hid (KQ w b o A W)) (fun _ a _ => A.length - (intOf a).toNat)
  case atStart => exact ⟨0, n, by omega, rfl, rfl, HR0, HK0⟩
  case round =>
    clear HR0 HK0
    obtain ⟨i, s, hi, rfl, rfl, HR, HK⟩ := hrel
    by_cases hlt : i < A.length
    · have hlt' : (i : Int) < (A.length : Int) := by omega
      obtain rfl := hao (by intro k; rw [k] at hlt; simp at hlt)
      obtain ⟨q1, q2⟩ := HK.out.r i hlt
      have m2 := HV.out A[i] (List.getElem_mem hlt)
      have hS := HR.out
      rw [prB_drop _ A i hlt] at hS
      have HE1 : Hid _ := HE.out A[i].2 m2
      have hlb : lbT A[i] = A[i].1 ++ [61, 34] ++ escL true A[i].2 ++ [34] := rfl
      rw [hlb] at hS
      have hlen := congrArg List.length hS
      simp only [List.length_append, List.length_cons, List.length_nil] at hlen
      generalize escL true A[i].2 = e2 at *
      generalize A[i].1 = x1 at *
      generalize A[i].2 = x2 at *
      clear HR HE hlb m2 HV
      have b1 : s.length ≤ 4611686018427387904 := by omega
      have b2 : x1.length ≤ 4611686018427387904 := by omega
      have b3 : e2.length ≤ 4611686018427387904 := by omega
      have b4 : s.length + x1.length + e2.length ≤ 4611686018427387904 := by omega
      clear hlen
      by_cases i0 : i = 0
      · have i0' : ((i : Int) == 0) = true := by rw [beq_iff_eq]; omega
        rw [decide_eq_true i0, if_pos rfl] at hS
        obtain ⟨s1, hs1⟩ : ∃ s1, s1 = s ++ [123] := ⟨_, rfl⟩
        obtain ⟨y1, hy1⟩ : ∃ y1, y1 = x1 ++ [61, 34] := ⟨_, rfl⟩
        obtain ⟨y2, hy2⟩ : ∃ y2, y2 = y1 ++ e2 := ⟨_, rfl⟩
        obtain ⟨y3, hy3⟩ : ∃ y3, y3 = y2 ++ [34] := ⟨_, rfl⟩
        obtain ⟨s2, hs2⟩ : ∃ s2, s2 = s1 ++ y3 := ⟨_, rfl⟩
        have HF : Hid (R = s2 ++ prB (decide (i + 1 = 0)) (A.drop (i + 1))) := by
          show R = _
          rw [hS, decide_eq_false (by omega), hs2, hs1, hy3, hy2, hy1]
          simp
        have a0 : ∀ W, (Op.stringOp .add ⟨s.toArray⟩ ⟨#[123]⟩).run Try.prog W = .ok (.string ⟨s1.toArray⟩) W := fun W => by rw [hs1]; exact sadd s [123] (by simp; omega) W
        have a1 : ∀ W, (Op.stringOp .add ⟨x1.toArray⟩ ⟨#[61, 34]⟩).run Try.prog W = .ok (.string ⟨y1.toArray⟩) W := fun W => by rw [hy1]; exact sadd x1 [61, 34] (by simp; omega) W
        have a2 : ∀ W, (Op.stringOp .add ⟨y1.toArray⟩ ⟨e2.toArray⟩).run Try.prog W = .ok (.string ⟨y2.toArray⟩) W := fun W => by rw [hy2]; exact sadd y1 e2 (by rw [hy1]; simp; omega) W
        have a3 : ∀ W, (Op.stringOp .add ⟨y2.toArray⟩ ⟨#[34]⟩).run Try.prog W = .ok (.string ⟨y3.toArray⟩) W := fun W => by rw [hy3]; exact sadd y2 [34] (by rw [hy2, hy1]; simp; omega) W
        have a4 : ∀ W, (Op.stringOp .add ⟨s1.toArray⟩ ⟨y3.toArray⟩).run Try.prog W = .ok (.string ⟨s2.toArray⟩) W := fun W => by rw [hs2]; exact sadd s1 y3 (by rw [hs1, hy3, hy2, hy1]; simp; omega) W
        clear hS i0 hs1 hy1 hy2 hy3 hs2
        as_aux_lemma =>
        go_wp2_with fail
        have hG0 : wr.cell? ⟨b, o + i * 2, none⟩ = some (.string ⟨x1.toArray⟩) ∧ wr.cell? ⟨b, o + i * 2 + 1, none⟩ = some (.string ⟨x2.toArray⟩) ∧ KQ w b o A wr := ⟨q1, q2, HK.out⟩
        go_region_held3 (fun W => W.cell? ⟨b, o + i * 2, none⟩ = some (.string ⟨x1.toArray⟩) ∧ W.cell? ⟨b, o + i * 2 + 1, none⟩ = some (.string ⟨x2.toArray⟩) ∧ KQ w b o A W)
          (first | assumption | exact keepQ (by assumption) (by assumption) | exact keepQ (bel_drew (Below.refl _ _)) hG0 | exact keepQ (bel_drewN (Below.refl _ _) _) hG0)
          (first | (go_at_call 37; with_reducible refine (HE1.out _).mono ?_; rintro r w1 ⟨rfl, hb1⟩))
        rename_i hG1
        go_wp2_with fail
        exact ⟨⟨i + 1, s2, by omega, by go_num, rfl, HF, hG1.2.2⟩, by simp [intOf]; omega⟩
      · have i0' : ((i : Int) == 0) = false := by rw [beq_eq_false_iff_ne]; omega
        rw [decide_eq_false i0, if_neg (by decide)] at hS
        obtain ⟨s1, hs1⟩ : ∃ s1, s1 = s ++ [44] := ⟨_, rfl⟩
        obtain ⟨y1, hy1⟩ : ∃ y1, y1 = x1 ++ [61, 34] := ⟨_, rfl⟩
        obtain ⟨y2, hy2⟩ : ∃ y2, y2 = y1 ++ e2 := ⟨_, rfl⟩
        obtain ⟨y3, hy3⟩ : ∃ y3, y3 = y2 ++ [34] := ⟨_, rfl⟩
        obtain ⟨s2, hs2⟩ : ∃ s2, s2 = s1 ++ y3 := ⟨_, rfl⟩
        have HF : Hid (R = s2 ++ prB (decide (i + 1 = 0)) (A.drop (i + 1))) := by
          show R = _
          rw [hS, decide_eq_false (by omega), hs2, hs1, hy3, hy2, hy1]
          simp
        have a0 : ∀ W, (Op.stringOp .add ⟨s.toArray⟩ ⟨#[44]⟩).run Try.prog W = .ok (.string ⟨s1.toArray⟩) W := fun W => by rw [hs1]; exact sadd s [44] (by simp; omega) W
        have a1 : ∀ W, (Op.stringOp .add ⟨x1.toArray⟩ ⟨#[61, 34]⟩).run Try.prog W = .ok (.string ⟨y1.toArray⟩) W := fun W => by rw [hy1]; exact sadd x1 [61, 34] (by simp; omega) W
        have a2 : ∀ W, (Op.stringOp .add ⟨y1.toArray⟩ ⟨e2.toArray⟩).run Try.prog W = .ok (.string ⟨y2.toArray⟩) W := fun W => by rw [hy2]; exact sadd y1 e2 (by rw [hy1]; simp; omega) W
        have a3 : ∀ W, (Op.stringOp .add ⟨y2.toArray⟩ ⟨#[34]⟩).run Try.prog W = .ok (.string ⟨y3.toArray⟩) W := fun W => by rw [hy3]; exact sadd y2 [34] (by rw [hy2, hy1]; simp; omega) W
        have a4 : ∀ W, (Op.stringOp .add ⟨s1.toArray⟩ ⟨y3.toArray⟩).run Try.prog W = .ok (.string ⟨s2.toArray⟩) W := fun W => by rw [hs2]; exact sadd s1 y3 (by rw [hs1, hy3, hy2, hy1]; simp; omega) W
        clear hS i0 hs1 hy1 hy2 hy3 hs2
        as_aux_lemma =>
        go_wp2_with fail
        have hG0 : wr.cell? ⟨b, o + i * 2, none⟩ = some (.string ⟨x1.toArray⟩) ∧ wr.cell? ⟨b, o + i * 2 + 1, none⟩ = some (.string ⟨x2.toArray⟩) ∧ KQ w b o A wr := ⟨q1, q2, HK.out⟩
        go_region_held3 (fun W => W.cell? ⟨b, o + i * 2, none⟩ = some (.string ⟨x1.toArray⟩) ∧ W.cell? ⟨b, o + i * 2 + 1, none⟩ = some (.string ⟨x2.toArray⟩) ∧ KQ w b o A W)
          (first | assumption | exact keepQ (by assumption) (by assumption) | exact keepQ (bel_drew (Below.refl _ _)) hG0 | exact keepQ (bel_drewN (Below.refl _ _) _) hG0)
          (first | (go_at_call 37; with_reducible refine (HE1.out _).mono ?_; rintro r w1 ⟨rfl, hb1⟩))
        rename_i hG1
        go_wp2_with fail
        exact ⟨⟨i + 1, s2, by omega, by go_num, rfl, HF, hG1.2.2⟩, by simp [intOf]; omega⟩
    · have hlt' : ¬ (i : Int) < (A.length : Int) := by omega
      have hS := HR.out
      rw [List.drop_eq_nil_of_le (by omega), prB, List.append_nil] at hS
      have hbl := HK.out.bl
      have HF : Hid (R = s) := hS
      have hsl : s.length ≤ 4611686018427387904 := by rw [← hS]; exact hRl
      clear HR HK HE HV hS hT hRl
      by_cases z : A.length = 0
      · have z' : ¬ (0 : Int) < (A.length : Int) := by omega
        have HE2 : Hid (T = s) := by
          show T = s
          rw [HTT.out, if_pos z, List.append_nil]; exact HF.out
        clear z HTT HF
        as_aux_lemma =>
          go_wp2_with fail
          go_ret
          exact ⟨congrArg (fun z : List UInt8 => Ending.returned (Value.string ⟨z.toArray⟩)) HE2.out.symm, hbl⟩
      · have z' : (0 : Int) < (A.length : Int) := by omega
        have a0 : ∀ W, (Op.stringOp .add ⟨s.toArray⟩ ⟨#[125]⟩).run Try.prog W = .ok (.string ⟨T.toArray⟩) W := fun W => by rw [HTT.out, if_neg z, HF.out]; exact sadd s [125] (by simp; omega) W
        clear z HTT HF
        as_aux_lemma =>
          go_wp2_with fail
          go_ret
          exact ⟨rfl, hbl⟩
end Go.Proofs.Ytmphajfhilpgeab
