/- ROWS OF VALUES that grow. Own work of the verifier. -/
import Derived.Test.YtgkdggcpplmnaaaGreatZAQ
import Derived.Test.YtgkdggcpplmnaaaGreatZAS
import Derived.Deep.AppendLies
import Derived.Lib.AppendZeros
namespace Go.Proofs.YtgkdggcpplmnaaaGreat
open Go.RowKit Me

/-- A value with its lists as they lie in memory. -/
abbrev Rv : Type := Vl × Value × Value
abbrev cl (r : Rv) : List Value := [.int .i64 r.1.d.kind, .string ⟨r.1.d.name.toArray⟩, .string ⟨r.1.d.help.toArray⟩, r.2.1, .int .i64 (hiOf r.1.t), .int .u64 (loOf r.1.t), r.2.2, .int .u64 (r.1.n : Int), .float .f64 r.1.sum, .float .f64 r.1.mn, .float .f64 r.1.mx]
def flV : List Rv → List Value
  | [] => []
  | r :: L => cl r ++ flV L
theorem flV_length (L : List Rv) : (flV L).length = L.length * 11 := by
  induction L with
  | nil => rfl
  | cons c L ih => simp only [flV, List.length_append, List.length_cons, ih, List.length_nil]; omega
theorem flV_append (A B : List Rv) : flV (A ++ B) = flV A ++ flV B := by
  induction A with
  | nil => rfl
  | cons c A ih => simp only [List.cons_append, flV, ih, List.append_assoc]
theorem flV_get (L : List Rv) (i j : Nat) (h : i < L.length) (hj : j < 11) : (flV L)[i * 11 + j]? = (cl L[i])[j]? := by
  induction L generalizing i with
  | nil => simp at h
  | cons c L ih =>
    cases i with
    | zero =>
      rw [flV, List.getElem?_append_left (by simp; omega)]
      simp
    | succ i =>
      rw [flV, List.getElem?_append_right (by simp; omega)]
      have := ih i (by simpa using h)
      rw [show (i + 1) * 11 + j - (cl c).length = i * 11 + j by simp; omega]
      exact this
/-- Are the lists lists? -/
def Lz (R : List Rv) : Prop := ∀ r ∈ R, r.2.1.oneCell' = true ∧ r.2.2.oneCell' = true
theorem flV_one (L : List Rv) (hz : Lz L) : ∀ u ∈ flV L, u.oneCell' = true := by
  induction L with
  | nil => intro u hu; cases hu
  | cons c L ih =>
    intro u hu
    simp only [flV, List.mem_append] at hu
    rcases hu with hu | hu
    · obtain ⟨h1, h2⟩ := hz c List.mem_cons_self
      simp only [cl, List.mem_cons, List.not_mem_nil, or_false] at hu
      rcases hu with rfl | rfl | rfl | rfl | rfl | rfl | rfl | rfl | rfl | rfl | rfl <;> first | rfl | exact h1 | exact h2
    · exact ih (fun r hr => hz r (List.mem_cons_of_mem _ hr)) u hu
/-- Values with their lists, one behind the other. -/
def RowR (W : World) (b o : Nat) (R : List Rv) : Prop := ∀ i (h : i < R.length), C11 W b (o + i * 11) R[i].1 R[i].2.1 R[i].2.2
/-- Their lists. -/
def Ls (W : World) (R : List Rv) : Prop := ∀ r ∈ R, SLb W r.2.1 r.1.d.labels ∧ SN W r.2.2 r.1.cs
theorem RowR.below {W W1 : World} {b o : Nat} {R : List Rv} (h : RowR W b o R) (hb : Below W.heap.size W W1) : RowR W1 b o R := fun i hi => (h i hi).below hb
theorem Ls.lz {W : World} {R : List Rv} (h : Ls W R) : Lz R := fun r hr => by
  obtain ⟨h1, h2⟩ := h r hr
  obtain ⟨_, _, e1⟩ := h1.form
  obtain ⟨_, _, e2⟩ := h2.form
  exact ⟨by rw [e1]; rfl, by rw [e2]; rfl⟩
theorem RowV.raw {W : World} {b o : Nat} {L : List Vl} (h : RowV W b o L) : ∃ R : List Rv, R.map (·.1) = L ∧ RowR W b o R ∧ Ls W R := by
  have h' : ∀ i : Fin L.length, ∃ q : Value × Value, C11 W b (o + i.val * 11) L[i.val] q.1 q.2 ∧ SLb W q.1 L[i.val].d.labels ∧ SN W q.2 L[i.val].cs := fun i => by
    obtain ⟨lv, cv, h1, h2, h3⟩ := h i.val i.isLt
    exact ⟨(lv, cv), h1, h2, h3⟩
  obtain ⟨f, hf⟩ := Classical.axiomOfChoice h'
  refine ⟨List.ofFn (fun i : Fin L.length => (L[i.val], f i)), ?_, ?_, ?_⟩
  · apply List.ext_getElem
    · simp
    · intro i h1 h2
      simp
  · intro i hi
    have hi' : i < L.length := by simpa using hi
    have := (hf ⟨i, hi'⟩).1
    simpa using this
  · intro r hr
    obtain ⟨i, rfl⟩ := (List.mem_ofFn).1 hr
    exact (hf i).2
theorem RowR.row {W : World} {b o : Nat} {R : List Rv} (h : RowR W b o R) (k : Ls W R) : RowV W b o (R.map (·.1)) := fun i hi => by
  have hi' : i < R.length := by simpa using hi
  refine ⟨R[i].2.1, R[i].2.2, ?_, ?_⟩
  · have := h i hi'
    simpa using this
  · have := k R[i] (List.getElem_mem hi')
    simpa using this
theorem RowR.cells {w : World} {b o : Nat} {R : List Rv} (h : RowR w b o R) (j : Nat) (u : Value) (hu : (flV R)[j]? = some u) : w.cell? ((⟨b, o, none⟩ : Addr).add j) = some u := by
  have hj : j < (flV R).length := by
    rcases Nat.lt_or_ge j (flV R).length with c | c
    · exact c
    · rw [List.getElem?_eq_none c] at hu; cases hu
  rw [flV_length] at hj
  have hi : j / 11 < R.length := by omega
  have hm : j % 11 < 11 := by omega
  have e := flV_get R (j / 11) (j % 11) hi hm
  rw [show j / 11 * 11 + j % 11 = j by omega, hu] at e
  have hr := h (j / 11) hi
  have ej : o + j = o + j / 11 * 11 + j % 11 := by omega
  rw [Addr.add_lit, ej]
  generalize j % 11 = q at *
  match q, hm with
  | 0, _ => simp only [cl] at e; simp at e; rw [e]; simpa using hr.c0
  | 1, _ => simp only [cl] at e; simp at e; rw [e]; exact hr.c1
  | 2, _ => simp only [cl] at e; simp at e; rw [e]; exact hr.c2
  | 3, _ => simp only [cl] at e; simp at e; rw [e]; exact hr.c3
  | 4, _ => simp only [cl] at e; simp at e; rw [e]; exact hr.c4
  | 5, _ => simp only [cl] at e; simp at e; rw [e]; exact hr.c5
  | 6, _ => simp only [cl] at e; simp at e; rw [e]; exact hr.c6
  | 7, _ => simp only [cl] at e; simp at e; rw [e]; exact hr.c7
  | 8, _ => simp only [cl] at e; simp at e; rw [e]; exact hr.c8
  | 9, _ => simp only [cl] at e; simp at e; rw [e]; exact hr.c9
  | 10, _ => simp only [cl] at e; simp at e; rw [e]; exact hr.c10
theorem own_row {W : World} {B g n cap : Nat} {R : List Rv} (h : W.ownsRow B 45 11 (.slice (some ⟨g, 0, none⟩) n cap) n (flV R)) (hn : n = R.length) : RowR W g 0 R := fun i hi => by
  subst hn
  have key : ∀ j, j < 11 → W.cell? ⟨g, 0 + i * 11 + j, none⟩ = (cl R[i])[j]? := fun j hj => by
    have := h.cellAt (i * 11 + j) (by omega)
    rw [show 0 + i * 11 + j = i * 11 + j by omega, this]
    exact flV_get R i j hi hj
  exact ⟨key 0 (by omega), key 1 (by omega), key 2 (by omega), key 3 (by omega), key 4 (by omega), key 5 (by omega), key 6 (by omega), key 7 (by omega), key 8 (by omega), key 9 (by omega), key 10 (by omega)⟩
/-- A row of values of the call's own that grows. -/
structure GV (B : Nat) (W0 : World) (v : Value) (R : List Rv) (w : World) : Prop where
  own : w.ownsRow B 45 11 v R.length (flV R)
  below : Below B W0 w
  size : B ≤ w.heap.size
theorem GV.nil {W0 w : World} {B : Nat} (hb : Below B W0 w) (hs : B ≤ w.heap.size) : GV B W0 (.slice none 0 0) [] w := ⟨World.ownsRow_nil _ _ _ _, hb, hs⟩
theorem GV.keep {B : Nat} {W0 w w' : World} {v : Value} {xs : List Rv} (h : GV B W0 v xs w) (hb : Below w.heap.size w w') : GV B W0 v xs w' := ⟨own_belG h.own hb, h.below.trans (hb.mono h.size), by have := hb.size; have := h.size; omega⟩
theorem GV.grow {B : Nat} {W0 w w1 w' : World} {v v' : Value} {xs ys : List Rv} (h : GV B W0 v xs w) (hb : Below B W0 w1) (hs : B ≤ w1.heap.size) (hown : w'.ownsRow B 45 11 v' (xs.length + ys.length) (flV xs ++ flV ys)) (hg : w1.grownBy w' v.ownBlock) : GV B W0 v' (xs ++ ys) w' := by
  refine ⟨by rw [List.length_append, flV_append]; exact hown, ?_, by have := hg.size; omega⟩
  refine hb.grown hg hs (fun k e => ?_)
  rcases h.own.2 with ⟨rfl, _⟩ | ⟨g, cap, cur, rfl, hB, _⟩
  · cases e
  · cases e; exact hB
theorem own_slice {W : World} {B : Nat} {e : TypeId} {s n : Nat} {v : Value} {xs : List Value} (h : W.ownsRow B e s v n xs) : ∃ ao g cap, v = .slice ao n cap ∧ (0 < n → ao = some ⟨g, 0, none⟩) ∧ n ≤ cap ∧ cap ≤ 9223372036854775807 := by
  rcases h.2 with ⟨q, q2⟩ | ⟨g, cap, cur, q, _, _, h3, h4, _⟩
  · exact ⟨none, 0, 0, by rw [q, q2], fun k => by omega, by omega, by omega⟩
  · exact ⟨_, g, cap, q, fun _ => rfl, h3, by unfold maxLen at h4; omega⟩
theorem GV.sv {B : Nat} {W0 w : World} {v : Value} {R : List Rv} (h : GV B W0 v R w) (hl : Ls w R) : SV w v (R.map (·.1)) := by
  rcases h.own.2 with ⟨q, q2⟩ | ⟨g, cap, cur, q, _, _, h3, h4, _⟩
  · have : R = [] := List.length_eq_zero_iff.1 q2
    subst this
    exact Or.inl ⟨q, rfl⟩
  · subst q
    refine Or.inr ⟨g, 0, cap, by simp, by simpa using h3, by unfold maxLen at h4; omega, (own_row h.own rfl).row hl⟩
/-- append of one value, at a step of a region that draws. -/
theorem step_val {w : World} {ops : Array Oper} {o : Oper} {a : Act} {K : Act → World → Prop} {Q : Exit → Act → World → Prop} {E : Prop} (hgd : o.guard = none) (s x : Operand)
    (ho : o.op = .call { callee := .builtin .append, args := #[s, x], argTypes := #[28, 28] }) {B : Nat} {W0 : World} {v : Value} {R : List Rv} (hs : a.eval s = v) (hG : GV B W0 v R w) (hl : R.length ≤ 1048576) (k : Nat) (hx : a.eval x = .slice (some ⟨k, 0, none⟩) 1 1) (r : Rv) (hr : Lz [r])
    (hk : w.heap[k]? = some (.cells (cl r).toArray 45 (0, 0)))
    (hh : ∀ v' w', GV B W0 v' (R ++ [r]) w' → K (a.put o.dst v') w') :
    if Region.wanted o (yielded ops a.tmps) = true then Oper.wp Tryz.prog o a w K Q else E := by
  obtain ⟨i0, hi, hz0, hz1, hz2⟩ := info_parts infoV
  refine step_append_lies w hgd s x _ ho B 45 i0 (.agg #[.int .i64 0, .string ⟨#[]⟩, .string ⟨#[]⟩, .slice none 0 0, .int .i64 0, .int .u64 0, .slice none 0 0, .int .u64 0, .float .f64 0, .float .f64 0, .float .f64 0]) 11 136 Tryz.underlying28 hi hz0 hz1 hz2 rfl (by decide) v R.length (flV R) hs hG.own ⟨k, 0, none⟩ 1 1 (flV [r]) hx (by rw [flV_length]; rfl) (World.news_of_block (by simpa [flV] using hk)) (flV_one _ hr) (by omega) (by unfold maxLen; omega) (by omega) hG.size _ rfl ?_
  intro g cap w' h1 h2 h3 h4
  exact hh _ w' (hG.grow (ys := [r]) hG.below hG.size h1 h2)
end Go.Proofs.YtgkdggcpplmnaaaGreat
/- TWO LISTS AS ONE: the generic merge. Own work of the verifier. -/
namespace Go.Proofs.YtgkdggcpplmnaaaGreat
open Go.RowKit Me

/-- Two lists in order as one; of two that stand alike the first list's is ahead. -/
def mAll : List Rv → List Rv → List Rv
  | [], B => B
  | a :: A, [] => a :: A
  | a :: A, b :: B => if La.ordD a.1.d b.1.d ≤ 0 then a :: mAll A (b :: B) else b :: mAll (a :: A) B
termination_by A B => A.length + B.length
theorem mAll_nil (A : List Rv) : mAll A [] = A := by cases A <;> simp [mAll]
theorem mAll_drop (A B : List Rv) (i k : Nat) (h1 : i < A.length) (h2 : k < B.length) : mAll (A.drop i) (B.drop k) = if La.ordD A[i].1.d B[k].1.d ≤ 0 then A[i] :: mAll (A.drop (i + 1)) (B.drop k) else B[k] :: mAll (A.drop i) (B.drop (k + 1)) := by
  rw [List.drop_eq_getElem_cons h1, List.drop_eq_getElem_cons h2, mAll]
/-- What the walk holds on to: the two heads. -/
abbrev S3h (w : World) (b o : Nat) (x : Rv) (c p : Nat) (y : Rv) (W : World) : Prop := cC b o x.1 x.2.1 x.2.2 W ∧ cC c p y.1 y.2.1 y.2.2 W ∧ Below w.heap.size w W
theorem c11_bel {w W : World} {b o : Nat} {x : Rv} (h : C11 w b o x.1 x.2.1 x.2.2) (hb : Below w.heap.size w W) : cC b o x.1 x.2.1 x.2.2 W := (h.below hb).cC
/-- append of some values. -/
theorem run_vals {w W0 : World} {B : Nat} {v u : Value} {R Z : List Rv} {ao : Option Addr} {b o n cap : Nat} (hG : GV B W0 v R w) (hu : u = .slice ao n cap) (hn : n = Z.length) (hz0 : n = 0 → ao = none ∧ cap = 0 ∨ ∃ a, ao = some a) (hao : 0 < n → ao = some ⟨b, o, none⟩) (hr : RowR w b o Z) (hz : Lz Z) (hl : R.length + Z.length ≤ 1048576) (ty : TypeId) :
    ∃ v' w', (Builtin.append_ #[28, 28] ty #[v, u]).run Tryz.prog w = .ok v' w' ∧ GV B W0 v' (R ++ Z) w' := by
  obtain ⟨i0, hi, hz1, hz2, hz3⟩ := info_parts infoV
  subst hn
  subst hu
  have some_case : ∀ a : Addr, (0 < Z.length → a = ⟨b, o, none⟩) → ∃ v' w', (Builtin.append_ #[28, 28] ty #[v, .slice (some a) Z.length cap]).run Tryz.prog w = .ok v' w' ∧ GV B W0 v' (R ++ Z) w' := fun a ha => by
    obtain ⟨v', w', k1, k2, k3, _⟩ := run_append_own (P := Tryz.prog) w B 28 ty 45 i0 _ 11 136 Tryz.underlying28 hi hz1 hz2 hz3 rfl (by decide) v R.length (flV R) hG.own a Z.length cap (flV Z) (flV_length Z) (fun j u hj => by
      have hj2 : 0 < Z.length := by
        rcases Nat.eq_zero_or_pos Z.length with e | e
        · rw [List.length_eq_zero_iff.1 e] at hj; simp [flV] at hj
        · exact e
      rw [ha hj2]
      exact hr.cells j u hj) (flV_one Z hz) (by unfold maxLen; omega) (by omega) hG.size
    exact ⟨v', w', k1, hG.grow hG.below hG.size k2 k3⟩
  rcases Nat.eq_zero_or_pos Z.length with e | e
  · rcases hz0 e with ⟨rfl, rfl⟩ | ⟨a, rfl⟩
    · have : Z = [] := List.length_eq_zero_iff.1 e
      subst this
      refine ⟨v, w, ?_, by rw [List.append_nil]; exact hG⟩
      exact run_append_owned_none (P := Tryz.prog) (w := w) B 28 ty 45 i0 11 Tryz.underlying28 hi v R.length (flV R) hG.own
    · exact some_case a (fun k => by omega)
  · obtain rfl := hao e
    exact some_case _ (fun _ => rfl)
theorem wpList_run {P : Program} (w : World) {ops : Array Oper} {rest : List Oper} {o : Oper} {a : Act} {Q : Exit → Act → World → Prop} (hgd : o.guard = none) (s x : Operand) (t : TypeId)
    (ho : o.op = .call { callee := .builtin .append, args := #[s, x], argTypes := #[t, t] }) (v0 v : Value) (hs : a.eval s = v0) (hx : a.eval x = v) {R : Value → World → Prop}
    (hrun : ∃ v' w', (Builtin.append_ #[t, t] o.type #[v0, v]).run P w = .ok v' w' ∧ R v' w')
    (h : ∀ v' w', R v' w' → wpList P ops Q rest (a.put o.dst v') w') : wpList P ops Q (o :: rest) a w := by
  refine wpList_plain hgd fun K hK => ?_
  obtain ⟨v', w', hr, h2⟩ := hrun
  unfold Oper.wp execOp
  simp only [ho, resolve, invoke, builtin, Sem.run_bind, Sem.run_pure, Result.andThen_ok, List.map_toArray, List.map_cons, List.map_nil, hs, hx, hr]
  exact hK _ _ (h v' w' h2)
/-- What is left of a list that is gone through. -/
structure Lf (b o : Nat) (R : List Rv) (i : Nat) (aa : Option Addr) (ac : Nat) : Prop where
  le : i ≤ R.length
  c : R.length - i ≤ ac
  m : ac ≤ 9223372036854775807
  z : R.length - i = 0 → aa = none ∧ ac = 0 ∨ ∃ a, aa = some a
  s : i < R.length → aa = some ⟨b, o + i * 11, none⟩
theorem head_ix (b o n cap : Nat) (h : 0 < n) (W : World) : (Instr.indexAt 28 (.slice (some ⟨b, o, none⟩) n cap) (.int .i64 0)).run Tryz.prog W = .ok (.pointer (some ⟨b, o, none⟩)) W := by
  have := index_val b o n cap 0 0 rfl h W
  simpa using this
theorem SV.lf {W : World} {v : Value} {L : List Vl} (h : SV W v L) : ∃ ao b o cap R, v = .slice ao L.length cap ∧ R.map (·.1) = L ∧ R.length = L.length ∧ Lf b o R 0 ao cap ∧ RowR W b o R ∧ Ls W R := by
  rcases h with ⟨rfl, rfl⟩ | ⟨b, o, cap, rfl, h2, h3, hr⟩
  · exact ⟨none, 0, 0, 0, [], rfl, rfl, rfl, ⟨by simp, by simp, by omega, fun _ => Or.inl ⟨rfl, rfl⟩, fun k => by simp at k⟩, fun i hi => by simp at hi, fun r hr => by cases hr⟩
  · obtain ⟨R, e1, e2, e3⟩ := hr.raw
    have hl : R.length = L.length := by rw [← e1, List.length_map]
    exact ⟨_, b, o, cap, R, rfl, e1, hl, ⟨by omega, by omega, h3, fun _ => Or.inr ⟨_, rfl⟩, fun _ => by simp⟩, e2, e3⟩
end Go.Proofs.YtgkdggcpplmnaaaGreat
