/- SUMS OVER LISTS, and what their pairs are worth. Own work of the verifier. -/
import Derived.Test.YtdlaloakochfeaaB14
namespace Go.Proofs.Ytdlaloakochfeaa
open Go.RowKit Soft

def sP : List Nat → Nat
  | [] => 0
  | x :: l => pv x + sP l
def sN : List Nat → Nat
  | [] => 0
  | x :: l => nv x + sN l
theorem sP_snoc (L : List Nat) (x : Nat) : sP (L ++ [x]) = sP L + pv x := by
  induction L with
  | nil => simp [sP]
  | cons y l ih => simp only [List.cons_append, sP, ih]; omega
theorem sN_snoc (L : List Nat) (x : Nat) : sN (L ++ [x]) = sN L + nv x := by
  induction L with
  | nil => simp [sN]
  | cons y l ih => simp only [List.cons_append, sN, ih]; omega
theorem sP_take (L : List Nat) (j : Nat) (h : j < L.length) : sP (L.take (j + 1)) = sP (L.take j) + pv L[j] := by rw [List.take_succ_eq_append_getElem h, sP_snoc]
theorem sN_take (L : List Nat) (j : Nat) (h : j < L.length) : sN (L.take (j + 1)) = sN (L.take j) + nv L[j] := by rw [List.take_succ_eq_append_getElem h, sN_snoc]
/-- All of them may be recorded. -/
def AM (L : List Nat) : Prop := ∀ x ∈ L, x < 18446744073709551616 ∧ mayN x
def UM : Nat := uV 8930638061075693568
theorem sum_le {L : List Nat} (h : AM L) : sP L + sN L ≤ L.length * UM := by
  induction L with
  | nil => simp [sP, sN]
  | cons x l ih =>
    have h1 := h x (by simp)
    have h2 := ih (fun y hy => h y (by simp [hy]))
    have h3 := may_abs h1.1 h1.2
    rw [abs_pn] at h3
    have h4 : uV 8930638061075693568 = UM := rfl
    rw [h4] at h3
    rw [List.length_cons, Nat.add_mul, Nat.one_mul]
    simp only [sP, sN]
    generalize l.length * UM = a at *
    omega
theorem acc_eq {p : Nat × Nat} {X Y : Int} {A B m n : Nat} (h : Acc p X A m) (h1 : X = Y) (h2 : A = B) (h3 : m = n) : Acc p Y B n := by subst h1 h2 h3; exact h
theorem acc_fold (L : List Nat) : ∀ {p : Nat × Nat} {X : Int} {A m c : Nat}, AM L → Acc p X A m → A ≤ c * UM → c + L.length ≤ 2147483647 → 3 * (m + L.length) ≤ 9007199254740992 →
    Acc (L.foldl putW p) (X + ((sP L : Int) - (sN L : Int))) (A + (sP L + sN L)) (m + L.length) := by
  induction L with
  | nil => intro p X A m c _ h _ _ _; exact acc_eq h (by simp [sP, sN]) (by simp [sP, sN]) (by simp)
  | cons x l ih =>
    intro p X A m c hL h hA hc hm
    have h1 := hL x (by simp)
    have h3 := may_abs h1.1 h1.2
    have h4 : uV 8930638061075693568 = UM := rfl
    rw [h4] at h3
    have h5 : A + (vw x).natAbs ≤ (c + 1) * UM := by rw [Nat.add_mul, Nat.one_mul]; omega
    rw [List.length_cons] at hc hm
    have hT : 1024 * (A + (vw x).natAbs) < TOP := low_top (c := c + 1) (by omega) h5
    have hp := acc_put h (may_fin h1.1 h1.2) (by omega) hT
    have hi := ih (c := c + 1) (fun y hy => hL y (by simp [hy])) hp h5 (by omega) (by omega)
    rw [List.foldl_cons]
    refine acc_eq hi ?_ ?_ ?_
    · rw [vw_pn]; simp only [sP, sN]; omega
    · rw [abs_pn]; simp only [sP, sN]; omega
    · rw [List.length_cons]; omega
theorem acc_of {L : List Nat} (h : AM L) (hl : L.length ≤ 2147483647) : Acc (ofW L) ((sP L : Int) - (sN L : Int)) (sP L + sN L) L.length := by
  have := acc_fold L (c := 0) h acc_zero (by omega) (by omega) (by omega)
  exact acc_eq this (by omega) (by omega) (by omega)
/-- One more list. -/
theorem acc_step {p : Nat × Nat} {P N m c : Nat} {L : List Nat} (h : Acc p ((P : Int) - (N : Int)) (P + N) m) (hL : AM L) (hc : P + N ≤ c * UM) (hn : c + L.length ≤ 2147483647) (hm : 3 * m ≤ 9007199254740992) :
    Acc (mergeW p (ofW L)) (((P + sP L : Nat) : Int) - ((N + sN L : Nat) : Int)) (P + sP L + (N + sN L)) (m + L.length + 2) ∧ P + sP L + (N + sN L) ≤ (c + L.length) * UM := by
  have h1 := acc_of hL (by omega)
  have h2 := sum_le hL
  have h3 : P + N + (sP L + sN L) ≤ (c + L.length) * UM := by rw [Nat.add_mul]; omega
  have h4 := acc_merge h h1 hm (by omega) (low_top hn h3)
  exact ⟨acc_eq h4 (by omega) (by omega) rfl, by omega⟩
end Go.Proofs.Ytdlaloakochfeaa
