/- TWO LISTS OF VALUES AS ONE: the document's merging is the code's. Own work of the verifier. -/
import Derived.Test.YtckdkcnnfjbdmaaGreatZH3
namespace Go.Proofs.YtckdkcnnfjbdmaaGreat

/-- The document's merging: each value with its error. -/
noncomputable def dmL : List Vl → List Vl → List (Vl × Int)
  | [], B => B.map (fun x => (x, 0))
  | a :: A, [] => (a :: A).map (fun x => (x, 0))
  | a :: A, b :: B => if La.ordD a.d b.d < 0 then (a, 0) :: dmL A (b :: B) else if 0 < La.ordD a.d b.d then (b, 0) :: dmL (a :: A) B else joinV a b :: dmL A B
termination_by A B => A.length + B.length
/-- The first error. -/
def fstE : List (Vl × Int) → Int
  | [] => 0
  | r :: R => if r.2 ≠ 0 then r.2 else fstE R
theorem fstE_zero (L : List Vl) : fstE (L.map (fun x => (x, 0))) = 0 := by
  induction L with
  | nil => rfl
  | cons x L ih => rw [List.map_cons, fstE, if_neg (by simp), ih]
theorem fst_map (L : List Vl) : (L.map (fun x => ((x, 0) : Vl × Int))).map (·.1) = L := by
  rw [List.map_map]
  exact List.map_id L
abbrev PW (L : List Vl) : Prop := L.Pairwise (fun x y => La.ordD x.d y.d < 0)
/-- No value of a list is of the series ahead of it. -/
def Apt (p : Option Vl) (L : List Vl) : Prop := ∀ q, p = some q → ∀ x ∈ L, La.ordD q.d x.d ≠ 0
theorem apt_none (L : List Vl) : Apt none L := fun _ h => by cases h
theorem apt_some {q : Vl} {L : List Vl} (h : ∀ x ∈ L, La.ordD q.d x.d ≠ 0) : Apt (some q) L := fun r hr x hx => by
  cases hr
  exact h x hx
theorem jn_new (J : List Vl) (p : Option Vl) (v : Vl) (r : List Vl) (h : ∀ q, p = some q → La.ordD q.d v.d ≠ 0) : jnL J p (v :: r) = jnL (J ++ [v]) (some v) r := by
  cases p with
  | none => rw [jnL]
  | some q => rw [jnL, if_pos (h q rfl)]
theorem ser_new (p : Option Vl) (v : Vl) (r : List Vl) (h : ∀ q, p = some q → La.ordD q.d v.d ≠ 0) : serN p (v :: r) = 1 + serN (some v) r := by
  cases p with
  | none => rw [serN]
  | some q => rw [serN, if_pos (h q rfl)]
theorem jn_plain (L : List Vl) : ∀ (J : List Vl) (p : Option Vl), PW L → Apt p L → jnL J p L = (J ++ L, 0) ∧ serN p L = L.length := by
  induction L with
  | nil => intro J p _ _; cases p <;> simp [jnL, serN]
  | cons v r ih =>
    intro J p hL hp
    obtain ⟨h1, h2⟩ := List.pairwise_cons.1 hL
    obtain ⟨i1, i2⟩ := ih (J ++ [v]) (some v) h2 (apt_some (fun x hx => by have := h1 x hx; omega))
    have hh : ∀ q, p = some q → La.ordD q.d v.d ≠ 0 := fun q hq => hp q hq v List.mem_cons_self
    rw [jn_new J p v r hh, ser_new p v r hh, i1, i2]
    exact ⟨by simp, by rw [List.length_cons]; omega⟩
theorem ord_eq_l {a b x : Vl} (h : La.ordD a.d b.d = 0) : La.ordD a.d x.d = La.ordD b.d x.d := by
  obtain ⟨h1, h2⟩ := (La.ordD_zero _ _).1 h
  unfold La.ordD
  rw [h1, h2]
theorem ord_eq_r {a b x : Vl} (h : La.ordD a.d b.d = 0) : La.ordD x.d a.d = La.ordD x.d b.d := by
  obtain ⟨h1, h2⟩ := (La.ordD_zero _ _).1 h
  unfold La.ordD
  rw [h1, h2]
theorem ord_symm0 {a b : Vl} (h : La.ordD a.d b.d = 0) : La.ordD b.d a.d = 0 := by
  obtain ⟨h1, h2⟩ := (La.ordD_zero _ _).1 h
  exact (La.ordD_zero _ _).2 ⟨h1.symm, h2.symm⟩
theorem all_eq {a b : Vl} {A B : List Vl} (hA : PW (a :: A)) (h : La.ordD a.d b.d = 0) : mAllV A (b :: B) = b :: mAllV A B := by
  cases A with
  | nil => simp [mAllV]
  | cons c A =>
    have h1 : La.ordD a.d c.d < 0 := (List.pairwise_cons.1 hA).1 c List.mem_cons_self
    have h2 : ¬ La.ordD c.d b.d ≤ 0 := fun k => by
      have := (La.T3.ordD a.d c.d b.d (by omega) k).2.1 h
      omega
    rw [mAllV, if_neg h2]
theorem dmL_nil (A : List Vl) : dmL A [] = A.map (fun x => (x, 0)) := by
  cases A with
  | nil => rw [dmL]
  | cons a A => rw [dmL]
theorem mAllV_nil (A : List Vl) : mAllV A [] = A := by
  cases A with
  | nil => rw [mAllV]
  | cons a A => rw [mAllV]
/-- THE CODE'S JOINING IS THE DOCUMENT'S MERGING. -/
theorem jn_dm : ∀ (n : Nat) (A B : List Vl), A.length + B.length = n → ∀ (J : List Vl) (p : Option Vl), PW A → PW B → Apt p A → Apt p B →
    jnL J p (mAllV A B) = (if fstE (dmL A B) ≠ 0 then ([], fstE (dmL A B)) else (J ++ (dmL A B).map (·.1), 0)) ∧ serN p (mAllV A B) = (dmL A B).length := by
  intro n
  induction n using Nat.strongRecOn with
  | _ n ih =>
    intro A B hn J p hA hB pA pB
    match A, B, hn, hA, hB, pA, pB with
    | [], B, _, _, hB, _, pB =>
      obtain ⟨j1, j2⟩ := jn_plain B J p hB pB
      have e : mAllV [] B = B := by rw [mAllV]
      have e2 : dmL [] B = B.map (fun x => (x, 0)) := by rw [dmL]
      rw [e, e2, fstE_zero, if_neg (by simp), fst_map, List.length_map]
      exact ⟨j1, j2⟩
    | a :: A, [], _, hA, _, pA, _ =>
      obtain ⟨j1, j2⟩ := jn_plain (a :: A) J p hA pA
      rw [mAllV_nil, dmL_nil, fstE_zero, if_neg (by simp), fst_map, List.length_map]
      exact ⟨j1, j2⟩
    | a :: A, b :: B, hn, hA, hB, pA, pB =>
      simp only [List.length_cons] at hn
      obtain ⟨a1, a2⟩ := List.pairwise_cons.1 hA
      obtain ⟨b1, b2⟩ := List.pairwise_cons.1 hB
      have pa : ∀ q, p = some q → La.ordD q.d a.d ≠ 0 := fun q hq => pA q hq a List.mem_cons_self
      have pb : ∀ q, p = some q → La.ordD q.d b.d ≠ 0 := fun q hq => pB q hq b List.mem_cons_self
      by_cases c1 : La.ordD a.d b.d < 0
      · rw [mAllV, if_pos (by omega), dmL, if_pos c1, jn_new J p a _ pa, ser_new p a _ pa]
        obtain ⟨i1, i2⟩ := ih (A.length + (b :: B).length) (by simp only [List.length_cons]; omega) A (b :: B) rfl (J ++ [a]) (some a) a2 hB
          (apt_some (fun x hx => by have := a1 x hx; omega))
          (apt_some (fun x hx => by
            rcases List.mem_cons.1 hx with rfl | hx
            · omega
            · have := ord_trans c1 (b1 x hx); omega))
        rw [i1, i2, fstE, if_neg (by simp : ¬ ((a, (0 : Int)) : Vl × Int).2 ≠ 0)]
        refine ⟨?_, by rw [List.length_cons]; omega⟩
        simp
      · by_cases c2 : 0 < La.ordD a.d b.d
        · rw [mAllV, if_neg (by omega), dmL, if_neg c1, if_pos c2, jn_new J p b _ pb, ser_new p b _ pb]
          obtain ⟨i1, i2⟩ := ih ((a :: A).length + B.length) (by simp only [List.length_cons]; omega) (a :: A) B rfl (J ++ [b]) (some b) hA b2
            (apt_some (fun x hx k => by
              rcases List.mem_cons.1 hx with rfl | hx
              · have := ord_symm0 k; omega
              · have h1 := a1 x hx
                have h2 := ord_symm0 k
                have := (La.T3.ordD a.d x.d b.d (by omega) (by omega)).1
                omega))
            (apt_some (fun x hx => by have := b1 x hx; omega))
          rw [i1, i2, fstE, if_neg (by simp : ¬ ((b, (0 : Int)) : Vl × Int).2 ≠ 0)]
          refine ⟨?_, by rw [List.length_cons]; omega⟩
          simp
        · have c3 : La.ordD a.d b.d = 0 := by omega
          have e1 : mAllV (a :: A) (b :: B) = a :: b :: mAllV A B := by rw [mAllV, if_pos (by omega), all_eq hA c3]
          have e2 : dmL (a :: A) (b :: B) = joinV a b :: dmL A B := by rw [dmL, if_neg c1, if_neg c2]
          have e3 : serN (some a) (b :: mAllV A B) = serN (some b) (mAllV A B) := by rw [serN, if_neg (by simpa using c3), Nat.zero_add]
          have e4 : jnL (J ++ [a]) (some a) (b :: mAllV A B) = if (joinV a b).2 ≠ 0 then ([], (joinV a b).2) else jnL (J ++ [(joinV a b).1]) (some b) (mAllV A B) := by
            rw [jnL, if_neg (by simpa using c3), List.dropLast_concat]
          obtain ⟨i1, i2⟩ := ih (A.length + B.length) (by omega) A B rfl (J ++ [(joinV a b).1]) (some b) a2 b2
            (apt_some (fun x hx => by have := a1 x hx; rw [← ord_eq_l c3]; omega))
            (apt_some (fun x hx => by have := b1 x hx; omega))
          rw [e1, e2, jn_new J p a _ pa, ser_new p a _ pa, e3, e4, i2]
          refine ⟨?_, by rw [List.length_cons]; omega⟩
          by_cases c4 : (joinV a b).2 = 0
          · have e5 : fstE (joinV a b :: dmL A B) = fstE (dmL A B) := by rw [fstE, if_neg (by simpa using c4)]
            rw [e5, if_neg (by simpa using c4), i1]
            simp
          · have e5 : fstE (joinV a b :: dmL A B) = (joinV a b).2 := by rw [fstE, if_pos c4]
            rw [e5, if_pos c4, if_pos c4]
/-- Two names the other way round. -/
theorem ordE_neg (p q : List UInt8) : La.ordE q p = - La.ordE p q := by
  unfold La.ordE La.bltB
  by_cases h1 : p < q
  · have h2 : ¬ q < p := fun h => List.lt_irrefl _ (List.lt_trans h1 h)
    simp [h1, h2]
  · by_cases h2 : q < p
    · simp [h1, h2]
    · simp [h1, h2]
theorem ordL_neg : ∀ A B : List La.Lb, La.ordL B A = - La.ordL A B
  | [], [] => rfl
  | [], _ :: _ => rfl
  | _ :: _, [] => rfl
  | a :: A, b :: B => by
    rw [La.ordL, La.ordL, ordE_neg a.1 b.1, ordE_neg a.2 b.2, ordL_neg A B]
    by_cases h1 : La.ordE a.1 b.1 = 0
    · by_cases h2 : La.ordE a.2 b.2 = 0
      · simp [h1, h2]
      · simp [h1, h2]
    · simp [h1]
theorem ordD_neg (d e : La.Ds) : La.ordD e d = - La.ordD d e := by
  unfold La.ordD
  rw [ordE_neg d.name e.name, ordL_neg d.labels e.labels]
  by_cases h1 : La.ordE d.name e.name = 0
  · simp [h1]
  · simp [h1]
theorem ord_name {x y : Vl} (h : La.ordD x.d y.d ≤ 0) : La.ordE x.d.name y.d.name ≤ 0 := by
  unfold La.ordD at h
  by_cases h1 : La.ordE x.d.name y.d.name = 0
  · omega
  · rw [if_pos h1] at h; exact h
theorem ord_le_trans {x y z : Vl} (h1 : La.ordD x.d y.d ≤ 0) (h2 : La.ordD y.d z.d ≤ 0) : La.ordD x.d z.d ≤ 0 := (La.T3.ordD x.d y.d z.d h1 h2).1
theorem all_ord (A B : List Vl) (hA : PW A) (hB : PW B) : (mAllV A B).Pairwise (fun x y => La.ordD x.d y.d ≤ 0) := by
  fun_induction mAllV A B with
  | case1 B => exact hB.imp (fun h => by omega)
  | case2 a A => exact hA.imp (fun h => by omega)
  | case3 a A b B h ih =>
    obtain ⟨a1, a2⟩ := List.pairwise_cons.1 hA
    obtain ⟨b1, b2⟩ := List.pairwise_cons.1 hB
    refine List.pairwise_cons.2 ⟨fun x hx => ?_, ih a2 hB⟩
    rcases mAllV_mem hx with k | k
    · have := a1 x k; omega
    · rcases List.mem_cons.1 k with rfl | k
      · exact h
      · exact ord_le_trans h (by have := b1 x k; omega)
  | case4 a A b B h ih =>
    obtain ⟨a1, a2⟩ := List.pairwise_cons.1 hA
    obtain ⟨b1, b2⟩ := List.pairwise_cons.1 hB
    have hba : La.ordD b.d a.d ≤ 0 := by rw [ordD_neg a.d b.d]; omega
    refine List.pairwise_cons.2 ⟨fun x hx => ?_, ih hA b2⟩
    rcases mAllV_mem hx with k | k
    · rcases List.mem_cons.1 k with rfl | k
      · exact hba
      · exact ord_le_trans hba (by have := a1 x k; omega)
    · have := b1 x k; omega
theorem unl_false {x y : Vl} : unlB x y = false ↔ (x.d.name = y.d.name → x.d.kind = y.d.kind ∧ x.d.help = y.d.help) := by
  unfold unlB
  by_cases h1 : x.d.name = y.d.name
  · by_cases h2 : x.d.kind = y.d.kind
    · by_cases h3 : x.d.help = y.d.help <;> simp [h1, h2, h3]
    · simp [h1, h2]
  · simp [h1]
theorem unl_symm {x y : Vl} (h : unlB x y = false) : unlB y x = false := by
  rw [unl_false] at h ⊢
  intro k
  obtain ⟨h1, h2⟩ := h k.symm
  exact ⟨h1.symm, h2.symm⟩
/-- Behind it, or of its name, and then alike. -/
def Fam (x y : Vl) : Prop := La.ordE x.d.name y.d.name ≤ 0 ∧ unlB x y = false
theorem Fam.trans {x y z : Vl} (h1 : Fam x y) (h2 : Fam y z) : Fam x z := by
  obtain ⟨t1, t2⟩ := La.T3.ordE x.d.name y.d.name z.d.name h1.1 h2.1
  refine ⟨t1, unl_false.2 (fun k => ?_)⟩
  obtain ⟨e1, e2⟩ := t2.1 ((La.ordE_zero _ _).2 k)
  have k1 := (unl_false.1 h1.2) ((La.ordE_zero _ _).1 e1)
  have k2 := (unl_false.1 h2.2) ((La.ordE_zero _ _).1 e2)
  exact ⟨k1.1.trans k2.1, k1.2.trans k2.2⟩
theorem un_pair (L : List Vl) : ∀ p : Vl, (p :: L).Pairwise (fun x y => La.ordE x.d.name y.d.name ≤ 0) → unN (some p) L = false → (p :: L).Pairwise Fam := by
  induction L with
  | nil => intro p _ _; simp
  | cons v r ih =>
    intro p ho h
    obtain ⟨o1, o2⟩ := List.pairwise_cons.1 ho
    rw [unN, Bool.or_eq_false_iff] at h
    have hr := ih v o2 h.2
    have hpv : Fam p v := ⟨o1 v List.mem_cons_self, h.1⟩
    refine List.pairwise_cons.2 ⟨fun x hx => ?_, hr⟩
    rcases List.mem_cons.1 hx with rfl | hx
    · exact hpv
    · exact hpv.trans ((List.pairwise_cons.1 hr).1 x hx)
theorem pair_un (L : List Vl) : ∀ p : Vl, (p :: L).Pairwise (fun x y => unlB x y = false) → unN (some p) L = false := by
  induction L with
  | nil => intro p _; rfl
  | cons v r ih =>
    intro p h
    obtain ⟨h1, h2⟩ := List.pairwise_cons.1 h
    rw [unN, h1 v List.mem_cons_self, ih v h2]
    rfl
theorem unN_iff (L : List Vl) (ho : L.Pairwise (fun x y => La.ordE x.d.name y.d.name ≤ 0)) : unN none L = false ↔ L.Pairwise (fun x y => unlB x y = false) := by
  cases L with
  | nil => simp [unN]
  | cons p L =>
    rw [unN]
    exact ⟨fun h => (un_pair L p ho h).imp (fun k => k.2), fun h => pair_un L p h⟩
/-- Is there a value of the one that is unlike one of the other? -/
def unX (A B : List Vl) : Bool := A.any (fun x => B.any (fun y => unlB x y))
theorem unX_false (A B : List Vl) : unX A B = false ↔ ∀ x ∈ A, ∀ y ∈ B, unlB x y = false := by
  unfold unX
  simp
theorem fam_pair {L : List Vl} (hS : PW L) (hu : ∀ i (h : i + 1 < L.length), unlB (L[i]'(by omega)) L[i + 1] = false) : L.Pairwise (fun x y => unlB x y = false) := by
  have key : L.Pairwise Fam := by
    rw [List.pairwise_iff_getElem]
    intro i j hi hj hij
    induction j with
    | zero => omega
    | succ j ih =>
      have h1 : Fam L[j] L[j + 1] := ⟨ord_name (by have := (List.pairwise_iff_getElem.1 hS) j (j + 1) (by omega) hj (by omega); omega), hu j hj⟩
      rcases Nat.lt_or_ge i j with k | k
      · exact (ih (by omega) k).trans h1
      · obtain rfl : i = j := by omega
        exact h1
  exact key.imp (fun k => k.2)
theorem unN_X (A B : List Vl) (hA : PW A) (hB : PW B) (uA : A.Pairwise (fun x y => unlB x y = false)) (uB : B.Pairwise (fun x y => unlB x y = false)) : unN none (mAllV A B) = unX A B := by
  have ho := (all_ord A B hA hB).imp (fun h => ord_name h)
  have h1 : unN none (mAllV A B) = false ↔ unX A B = false := by
    rw [unN_iff _ ho, (mAllV_perm A B).pairwise_iff (fun h => unl_symm h), List.pairwise_append, unX_false]
    exact ⟨fun h => h.2.2, fun h => ⟨uA, uB, h⟩⟩
  cases e1 : unN none (mAllV A B)
  · exact (h1.1 e1).symm
  · cases e2 : unX A B
    · rw [h1.2 e2] at e1; exact absurd e1 (by decide)
    · rfl
/-- WHAT THE CODE TELLS OF THE VALUES OF TWO, AS THE DOCUMENT SAYS IT. -/
theorem mv_doc (A B : List Vl) (hA : PW A) (hB : PW B) (uA : A.Pairwise (fun x y => unlB x y = false)) (uB : B.Pairwise (fun x y => unlB x y = false)) :
    mvL (mAllV A B) = if unX A B then ([], 12) else if 256 < (dmL A B).length then ([], 3) else if fstE (dmL A B) ≠ 0 then ([], fstE (dmL A B)) else ((dmL A B).map (·.1), 0) := by
  obtain ⟨h1, h2⟩ := jn_dm _ A B rfl [] none hA hB (apt_none _) (apt_none _)
  unfold mvL
  rw [unN_X A B hA hB uA uB, h1, h2, List.nil_append]
end Go.Proofs.YtckdkcnnfjbdmaaGreat
/- WHAT A LIST IN ORDER SAYS OF EACH SERIES. Own work of the verifier. -/
namespace Go.Proofs.YtckdkcnnfjbdmaaGreat

/-- The value of a series. -/
def lk (L : List Vl) (k : List UInt8 × List La.Lb) : Option Vl := L.find? (fun x => decide (ky x = k))
theorem lk_cons (a : Vl) (A : List Vl) (k : List UInt8 × List La.Lb) : lk (a :: A) k = if ky a = k then some a else lk A k := by
  unfold lk
  rw [List.find?_cons]
  by_cases h : ky a = k <;> simp [h]
theorem lk_nil (k : List UInt8 × List La.Lb) : lk [] k = none := rfl
theorem lk_some {L : List Vl} {k : List UInt8 × List La.Lb} {x : Vl} (h : lk L k = some x) : x ∈ L ∧ ky x = k := ⟨List.mem_of_find?_eq_some h, by have := List.find?_some h; simpa using this⟩
theorem lk_none {L : List Vl} {k : List UInt8 × List La.Lb} (h : ∀ x ∈ L, ky x ≠ k) : lk L k = none := by
  unfold lk
  rw [List.find?_eq_none]
  intro x hx
  simpa using h x hx
theorem pw_ne {a : Vl} {A : List Vl} (h : PW (a :: A)) {x : Vl} (hx : x ∈ A) : ky x ≠ ky a := fun e => by
  have h1 := (List.pairwise_cons.1 h).1 x hx
  have h2 := (ord_ky a x).2 e.symm
  omega
theorem lk_mem {L : List Vl} (hL : PW L) {x : Vl} (hx : x ∈ L) : lk L (ky x) = some x := by
  induction L with
  | nil => cases hx
  | cons a A ih =>
    rw [lk_cons]
    rcases List.mem_cons.1 hx with rfl | hx
    · rw [if_pos rfl]
    · rw [if_neg (fun e => pw_ne hL hx e.symm)]
      exact ih (List.pairwise_cons.1 hL).2 hx
theorem lk_tail {a : Vl} {A : List Vl} (hL : PW (a :: A)) (k : List UInt8 × List La.Lb) : lk A k = if ky a = k then none else lk (a :: A) k := by
  by_cases h : ky a = k
  · rw [if_pos h]
    exact lk_none (fun x hx e => pw_ne hL hx (e.trans h.symm))
  · rw [if_neg h, lk_cons, if_neg h]
/-- Two lists, value by value. -/
def all2 (r : Vl → Vl → Prop) : List Vl → List Vl → Prop
  | [], [] => True
  | x :: A, y :: B => r x y ∧ all2 r A B
  | _, _ => False
def orel (r : Vl → Vl → Prop) : Option Vl → Option Vl → Prop
  | none, none => True
  | some x, some y => r x y
  | _, _ => False
/-- TWO LISTS IN ORDER ARE ALIKE if what they say of every series is. -/
theorem rel_ext (r : Vl → Vl → Prop) : ∀ (A B : List Vl), PW A → PW B → (∀ k, orel r (lk A k) (lk B k)) → all2 r A B
  | [], [], _, _, _ => trivial
  | [], b :: B, _, _, h => by
    have := h (ky b)
    rw [lk_nil, lk_cons, if_pos rfl] at this
    exact this.elim
  | a :: A, [], _, _, h => by
    have := h (ky a)
    rw [lk_nil, lk_cons, if_pos rfl] at this
    exact this.elim
  | a :: A, b :: B, hA, hB, h => by
    have e : ky a = ky b := by
      apply Classical.byContradiction
      intro hne
      have h1 := h (ky a)
      rw [lk_cons, if_pos rfl, lk_cons, if_neg (fun e => hne e.symm)] at h1
      have h2 := h (ky b)
      rw [lk_cons, if_neg hne, lk_cons, if_pos rfl] at h2
      cases e1 : lk B (ky a) with
      | none => rw [e1] at h1; exact h1.elim
      | some y =>
        cases e2 : lk A (ky b) with
        | none => rw [e2] at h2; exact h2.elim
        | some x =>
          obtain ⟨m1, k1⟩ := lk_some e1
          obtain ⟨m2, k2⟩ := lk_some e2
          have o1 := (List.pairwise_cons.1 hB).1 y m1
          have o2 := (List.pairwise_cons.1 hA).1 x m2
          rw [ord_eq_r ((ord_ky y a).2 k1)] at o1
          rw [ord_eq_r ((ord_ky x b).2 k2)] at o2
          have := ord_trans o1 o2
          have h0 := (ord_ky b b).2 rfl
          omega
    refine ⟨?_, rel_ext r A B (List.pairwise_cons.1 hA).2 (List.pairwise_cons.1 hB).2 (fun k => ?_)⟩
    · have h1 := h (ky a)
      rw [lk_cons, if_pos rfl, lk_cons, if_pos e.symm] at h1
      exact h1
    · rw [lk_tail hA k, lk_tail hB k, ← e]
      by_cases hk : ky a = k
      · rw [if_pos hk, if_pos hk]; trivial
      · rw [if_neg hk, if_neg hk]; exact h k
/-- What comes of what two lists say of a series. -/
noncomputable def opt2 : Option Vl → Option Vl → Option Vl
  | none, y => y
  | some x, none => some x
  | some x, some y => some (joinV x y).1
theorem opt2_none (x : Option Vl) : opt2 x none = x := by cases x <;> rfl
noncomputable def dV (A B : List Vl) : List Vl := (dmL A B).map (·.1)
/-- No error. -/
def Ner (A B : List Vl) : Prop := ∀ x ∈ A, ∀ y ∈ B, ky x = ky y → (joinV x y).2 = 0
theorem dmL_cases {a b : Vl} {A B : List Vl} : (La.ordD a.d b.d < 0 ∧ dmL (a :: A) (b :: B) = (a, 0) :: dmL A (b :: B)) ∨ (0 < La.ordD a.d b.d ∧ dmL (a :: A) (b :: B) = (b, 0) :: dmL (a :: A) B) ∨ (La.ordD a.d b.d = 0 ∧ dmL (a :: A) (b :: B) = joinV a b :: dmL A B) := by
  by_cases c1 : La.ordD a.d b.d < 0
  · exact Or.inl ⟨c1, by rw [dmL, if_pos c1]⟩
  · by_cases c2 : 0 < La.ordD a.d b.d
    · exact Or.inr (Or.inl ⟨c2, by rw [dmL, if_neg c1, if_pos c2]⟩)
    · exact Or.inr (Or.inr ⟨by omega, by rw [dmL, if_neg c1, if_neg c2]⟩)
theorem below_all {a b : Vl} {B : List Vl} (hB : PW (b :: B)) (h : La.ordD a.d b.d < 0) {y : Vl} (hy : y ∈ b :: B) : La.ordD a.d y.d < 0 := by
  rcases List.mem_cons.1 hy with rfl | hy
  · exact h
  · exact ord_trans h ((List.pairwise_cons.1 hB).1 y hy)
theorem ord_flip {x y : Vl} (h : 0 < La.ordD x.d y.d) : La.ordD y.d x.d < 0 := by rw [ordD_neg x.d y.d]; omega
theorem fst_iff : ∀ (n : Nat) (A B : List Vl), A.length + B.length = n → PW A → PW B → (fstE (dmL A B) = 0 ↔ Ner A B) := by
  intro n
  induction n using Nat.strongRecOn with
  | _ n ih =>
    intro A B hn hA hB
    match A, B, hn, hA, hB with
    | [], B, _, _, _ =>
      rw [show dmL [] B = B.map (fun x => (x, 0)) by rw [dmL], fstE_zero]
      exact ⟨fun _ x hx => absurd hx (by simp), fun _ => rfl⟩
    | a :: A, [], _, _, _ =>
      rw [dmL_nil, fstE_zero]
      exact ⟨fun _ x _ y hy => absurd hy (by simp), fun _ => rfl⟩
    | a :: A, b :: B, hn, hA, hB =>
      simp only [List.length_cons] at hn
      have a2 := (List.pairwise_cons.1 hA).2
      have b2 := (List.pairwise_cons.1 hB).2
      rcases dmL_cases (a := a) (b := b) (A := A) (B := B) with ⟨c, e⟩ | ⟨c, e⟩ | ⟨c, e⟩
      · rw [e, fstE, if_neg (by simp), ih (A.length + (b :: B).length) (by simp only [List.length_cons]; omega) A (b :: B) rfl a2 hB]
        refine ⟨fun h x hx y hy k => ?_, fun h x hx y hy k => h x (List.mem_cons_of_mem _ hx) y hy k⟩
        rcases List.mem_cons.1 hx with rfl | hx
        · have := below_all hB c hy
          have := (ord_ky _ _).2 k
          omega
        · exact h x hx y hy k
      · rw [e, fstE, if_neg (by simp), ih ((a :: A).length + B.length) (by simp only [List.length_cons]; omega) (a :: A) B rfl hA b2]
        refine ⟨fun h x hx y hy k => ?_, fun h x hx y hy k => h x hx y (List.mem_cons_of_mem _ hy) k⟩
        rcases List.mem_cons.1 hy with rfl | hy
        · have := below_all hA (ord_flip c) hx
          have := (ord_ky _ _).2 k.symm
          omega
        · exact h x hx y hy k
      · rw [e, fstE]
        have key := ih (A.length + B.length) (by omega) A B rfl a2 b2
        have kab := (ord_ky a b).1 c
        by_cases c4 : (joinV a b).2 = 0
        · rw [if_neg (by simpa using c4), key]
          refine ⟨fun h x hx y hy k => ?_, fun h x hx y hy k => h x (List.mem_cons_of_mem _ hx) y (List.mem_cons_of_mem _ hy) k⟩
          rcases List.mem_cons.1 hx with rfl | hx
          · rcases List.mem_cons.1 hy with rfl | hy
            · exact c4
            · exact absurd (k.symm.trans kab) (pw_ne hB hy)
          · rcases List.mem_cons.1 hy with rfl | hy
            · exact absurd (k.trans kab.symm) (pw_ne hA hx)
            · exact h x hx y hy k
        · rw [if_pos c4]
          exact ⟨fun h => absurd h c4, fun h => absurd (h a List.mem_cons_self b List.mem_cons_self kab) c4⟩
theorem Ner.tl {a : Vl} {A B : List Vl} (h : Ner (a :: A) B) : Ner A B := fun x hx y hy k => h x (List.mem_cons_of_mem _ hx) y hy k
theorem Ner.tr {b : Vl} {A B : List Vl} (h : Ner A (b :: B)) : Ner A B := fun x hx y hy k => h x hx y (List.mem_cons_of_mem _ hy) k
/-- What is merged stands in order, and says of each series what both say. -/
theorem dV_all (hj : ∀ x y : Vl, (joinV x y).2 = 0 → ky (joinV x y).1 = ky x) : ∀ (n : Nat) (A B : List Vl), A.length + B.length = n → PW A → PW B → Ner A B →
    (∀ k, lk (dV A B) k = opt2 (lk A k) (lk B k)) ∧ PW (dV A B) ∧ (∀ v ∈ dV A B, (∃ x ∈ A, ky v = ky x) ∨ ∃ y ∈ B, ky v = ky y) := by
  intro n
  induction n using Nat.strongRecOn with
  | _ n ih =>
    intro A B hn hA hB hN
    unfold dV
    match A, B, hn, hA, hB, hN with
    | [], B, _, _, hB, _ =>
      rw [show dmL [] B = B.map (fun x => (x, 0)) by rw [dmL], fst_map]
      exact ⟨fun k => rfl, hB, fun v hv => Or.inr ⟨v, hv, rfl⟩⟩
    | a :: A, [], _, hA, _, _ =>
      rw [dmL_nil, fst_map]
      exact ⟨fun k => (opt2_none _).symm, hA, fun v hv => Or.inl ⟨v, hv, rfl⟩⟩
    | a :: A, b :: B, hn, hA, hB, hN =>
      simp only [List.length_cons] at hn
      have a2 := (List.pairwise_cons.1 hA).2
      have b2 := (List.pairwise_cons.1 hB).2
      rcases dmL_cases (a := a) (b := b) (A := A) (B := B) with ⟨c, e⟩ | ⟨c, e⟩ | ⟨c, e⟩
      · obtain ⟨i1, i2, i3⟩ := ih (A.length + (b :: B).length) (by simp only [List.length_cons]; omega) A (b :: B) rfl a2 hB hN.tl
        unfold dV at i1 i2 i3
        rw [e, List.map_cons]
        have hlt : ∀ v ∈ (dmL A (b :: B)).map (·.1), La.ordD a.d v.d < 0 := fun v hv => by
          rcases i3 v hv with ⟨x, hx, k⟩ | ⟨y, hy, k⟩
          · rw [ord_eq_r ((ord_ky v x).2 k)]; exact (List.pairwise_cons.1 hA).1 x hx
          · rw [ord_eq_r ((ord_ky v y).2 k)]; exact below_all hB c hy
        refine ⟨fun k => ?_, List.pairwise_cons.2 ⟨hlt, i2⟩, fun v hv => ?_⟩
        · rw [lk_cons, lk_cons]
          by_cases hk : ky a = k
          · rw [if_pos hk, if_pos hk, lk_none (L := b :: B) (fun y hy ey => by have := below_all hB c hy; have := (ord_ky a y).2 (hk.trans ey.symm); omega)]
            rfl
          · rw [if_neg hk, if_neg hk]; exact i1 k
        · rcases List.mem_cons.1 hv with rfl | hv
          · exact Or.inl ⟨_, List.mem_cons_self, rfl⟩
          · rcases i3 v hv with ⟨x, hx, k⟩ | k
            · exact Or.inl ⟨x, List.mem_cons_of_mem _ hx, k⟩
            · exact Or.inr k
      · obtain ⟨i1, i2, i3⟩ := ih ((a :: A).length + B.length) (by simp only [List.length_cons]; omega) (a :: A) B rfl hA b2 hN.tr
        unfold dV at i1 i2 i3
        rw [e, List.map_cons]
        have hlt : ∀ v ∈ (dmL (a :: A) B).map (·.1), La.ordD b.d v.d < 0 := fun v hv => by
          rcases i3 v hv with ⟨x, hx, k⟩ | ⟨y, hy, k⟩
          · rw [ord_eq_r ((ord_ky v x).2 k)]; exact below_all hA (ord_flip c) hx
          · rw [ord_eq_r ((ord_ky v y).2 k)]; exact (List.pairwise_cons.1 hB).1 y hy
        refine ⟨fun k => ?_, List.pairwise_cons.2 ⟨hlt, i2⟩, fun v hv => ?_⟩
        · rw [lk_cons (a := b), lk_cons (a := b)]
          by_cases hk : ky b = k
          · rw [if_pos hk, if_pos hk, lk_none (L := a :: A) (fun y hy ey => by have := below_all hA (ord_flip c) hy; have := (ord_ky b y).2 (hk.trans ey.symm); omega)]
            rfl
          · rw [if_neg hk, if_neg hk]; exact i1 k
        · rcases List.mem_cons.1 hv with rfl | hv
          · exact Or.inr ⟨_, List.mem_cons_self, rfl⟩
          · rcases i3 v hv with k | ⟨y, hy, k⟩
            · exact Or.inl k
            · exact Or.inr ⟨y, List.mem_cons_of_mem _ hy, k⟩
      · obtain ⟨i1, i2, i3⟩ := ih (A.length + B.length) (by omega) A B rfl a2 b2 hN.tl.tr
        unfold dV at i1 i2 i3
        rw [e, List.map_cons]
        have kab := (ord_ky a b).1 c
        have kj := hj a b (hN a List.mem_cons_self b List.mem_cons_self kab)
        have hlt : ∀ v ∈ (dmL A B).map (·.1), La.ordD (joinV a b).1.d v.d < 0 := fun v hv => by
          rw [ord_eq_l ((ord_ky _ a).2 kj)]
          rcases i3 v hv with ⟨x, hx, k⟩ | ⟨y, hy, k⟩
          · rw [ord_eq_r ((ord_ky v x).2 k)]; exact (List.pairwise_cons.1 hA).1 x hx
          · rw [ord_eq_r ((ord_ky v y).2 k), ord_eq_l c]; exact (List.pairwise_cons.1 hB).1 y hy
        refine ⟨fun k => ?_, List.pairwise_cons.2 ⟨hlt, i2⟩, fun v hv => ?_⟩
        · rw [lk_cons, lk_cons, lk_cons, kj, ← kab]
          by_cases hk : ky a = k
          · rw [if_pos hk, if_pos hk, if_pos hk]
            rfl
          · rw [if_neg hk, if_neg hk, if_neg hk]; exact i1 k
        · rcases List.mem_cons.1 hv with rfl | hv
          · exact Or.inl ⟨_, List.mem_cons_self, kj⟩
          · rcases i3 v hv with ⟨x, hx, k⟩ | ⟨y, hy, k⟩
            · exact Or.inl ⟨x, List.mem_cons_of_mem _ hx, k⟩
            · exact Or.inr ⟨y, List.mem_cons_of_mem _ hy, k⟩
end Go.Proofs.YtckdkcnnfjbdmaaGreat
