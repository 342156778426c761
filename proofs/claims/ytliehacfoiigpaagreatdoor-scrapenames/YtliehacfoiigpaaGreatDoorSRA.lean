/- WHAT A VALUE HOLDS: counts. Own work of the verifier. -/
import Derived.Test.YtliehacfoiigpaaGreatDoorSAR
namespace Go.Proofs.YtliehacfoiigpaaGreatDoor
open Go.RowKit Me

def lowN (P : Nat) (C : List Cn) : Nat := (C.map fun c => lo (2 ^ P) c.1.toNat * c.2).sum
def highN (P : Nat) (C : List Cn) : Nat := (C.map fun c => hiV P c.1.toNat * c.2).sum
theorem lowN_take (P : Nat) (C : List Cn) (i : Nat) (h : i < C.length) : lowN P (C.take (i + 1)) = lowN P (C.take i) + lo (2 ^ P) C[i].1.toNat * C[i].2 := by
  unfold lowN
  rw [List.take_succ_eq_append_getElem h, List.map_append, List.sum_append]
  simp
theorem highN_take (P : Nat) (C : List Cn) (i : Nat) (h : i < C.length) : highN P (C.take (i + 1)) = highN P (C.take i) + hiV P C[i].1.toNat * C[i].2 := by
  unfold highN
  rw [List.take_succ_eq_append_getElem h, List.map_append, List.sum_append]
  simp
/-- The error of counts. -/
noncomputable def mayE (p : Int) (C : List Cn) : Int := Classical.choose (mayIs_ex p C)
theorem mayE_is (p : Int) (C : List Cn) : MayIs p C (mayE p C) := Classical.choose_spec (mayIs_ex p C)
theorem sum_mul_le (C : List Cn) (f : Cn → Nat) (M : Nat) (h : ∀ c ∈ C, f c ≤ M) : (C.map fun c => f c * c.2).sum ≤ M * (C.map (·.2)).sum := by
  induction C with
  | nil => simp
  | cons c C ih =>
    simp only [List.map_cons, List.sum_cons, Nat.mul_add]
    have := ih (fun d hd => h d (List.mem_cons_of_mem _ hd))
    have := Nat.mul_le_mul_right c.2 (h c List.mem_cons_self)
    omega
theorem sum_take_le (C : List Cn) (i : Nat) : ((C.take i).map (·.2)).sum ≤ (C.map (·.2)).sum := by
  conv => rhs; rw [← List.take_append_drop i C]
  rw [List.map_append, List.sum_append]
  omega
theorem in_may {p : Nat} {C : List Cn} (h : MayIs (p : Int) C 0) {c : Cn} (hc : c ∈ C) : c.1.toNat < (64 - p) * 2 ^ p ∧ lo (2 ^ p) c.1.toNat ≤ 9223372036854775807 ∧ hiV p c.1.toNat ≤ 9223372036854775807 := by
  obtain ⟨hp, _, h3⟩ := may_ok h
  obtain ⟨i, hi, rfl⟩ := List.mem_iff_getElem.1 hc
  obtain ⟨g1, g2, _⟩ := h3 i hi
  simp only [Int.toNat_natCast] at g2
  have hlt : C[i].1.toNat < (64 - p) * 2 ^ p := by omega
  have ht := hi_top hlt (by omega)
  have h2 : 0 < 2 ^ kk (2 ^ p) C[i].1.toNat := Nat.two_pow_pos _
  unfold hiV
  refine ⟨hlt, ?_, ?_⟩ <;> omega
theorem low_bound {p : Nat} {C : List Cn} (h : MayIs (p : Int) C 0) (i : Nat) : lowN p (C.take i) ≤ 85070591730234615847396907784232501249 ∧ highN p (C.take i) ≤ 85070591730234615847396907784232501249 := by
  obtain ⟨hp, h2, h3⟩ := may_ok h
  have hs : ((C.take i).map (·.2)).sum ≤ 9223372036854775807 := Nat.le_trans (sum_take_le C i) (by exact h2)
  constructor
  · have := sum_mul_le (C.take i) (fun c => lo (2 ^ p) c.1.toNat) 9223372036854775807 (fun c hc => (in_may h (List.mem_of_mem_take hc)).2.1)
    have k := Nat.mul_le_mul_left 9223372036854775807 hs
    unfold lowN
    omega
  · have := sum_mul_le (C.take i) (fun c => hiV p c.1.toNat) 9223372036854775807 (fun c hc => (in_may h (List.mem_of_mem_take hc)).2.2)
    have k := Nat.mul_le_mul_left 9223372036854775807 hs
    unfold highN
    omega
/-- Does the sum lie between what the buckets let it be? -/
def btw (p : Int) (x : Vl) : Bool := decide ((lowN p.toNat x.cs : Int) ≤ x.t) && decide (x.t ≤ (highN p.toNat x.cs : Int))
noncomputable def cntB (p : Int) (x : Vl) : Bool := decide (mayE p x.cs = 0) && decide (x.n = tot x.cs) && btw p x
/-- A sum in memory that one more is added to. -/
theorem addN_any {s y : Nat} (hs : s + y < 170141183460469231731687303715884105728) (W : World) :
    Calls Tryz.prog 41 #[.agg #[.int .i64 (hiOf (s : Int)), .int .u64 (loOf (s : Int))], .agg #[.int .i64 (hiOf (y : Int)), .int .u64 (loOf (y : Int))]] W fun e w' => e = .returned (.agg #[.int .i64 (hiOf ((s + y : Nat) : Int)), .int .u64 (loOf ((s + y : Nat) : Int))]) ∧ Below W.heap.size W w' := by
  have := add_any _ _ _ _ (wf_of (n := (s : Int)) ⟨by omega, by omega⟩) (wf_of (n := (y : Int)) ⟨by omega, by omega⟩) W
  rw [val_hl, val_hl, rnd_of ⟨by omega, by omega⟩, ← Int.natCast_add] at this
  exact this
theorem cmp_le_any (s t : Int) (hs : InR s) (ht : InR t) (W : World) :
    Calls Tryz.prog 136 #[.agg #[.int .i64 (hiOf s), .int .u64 (loOf s)], .agg #[.int .i64 (hiOf t), .int .u64 (loOf t)]] W fun e w' => e = .returned (.int .i64 (cmp s t)) ∧ Below W.heap.size W w' := by
  have := cmp_any _ _ _ _ (wf_of hs) (wf_of ht) W
  rw [val_hl, val_hl] at this
  exact this
theorem cmp_le (s t : Int) : decide (cmp s t ≤ 0) = decide (s ≤ t) := by
  apply decide_eq_decide.2
  unfold cmp
  split
  · omega
  · split <;> omega
end Go.Proofs.YtliehacfoiigpaaGreatDoor
