/- TWO SNAPSHOTS AS ONE, the document's: memory, and how far it has come. Own work of the verifier. -/
import Derived.Test.YtckdkcnnfjbdmaaGreatZD5
import Derived.Test.YtckdkcnnfjbdmaaGreatZD6
import Derived.Test.YtckdkcnnfjbdmaaGreatZH4
import Derived.Test.YtckdkcnnfjbdmaaGreatZK
import Derived.Deep.RegionLaw
namespace Go.Proofs.YtckdkcnnfjbdmaaGreat
open Go.RowKit Me

/-- A value of the merged ones: its lists lie in memory that was there at the call, or are the call's own. -/
def El (wb wo : World) (r : Rv) (W : World) : Prop := SLb wb r.2.1 r.1.d.labels ∧ (SN wb r.2.2 r.1.cs ∨ OwnC (wo.heap.size + 1) r.2.2 r.1.cs W)
theorem El.keep {wb wo W W1 : World} {r : Rv} (h : El wb wo r W) (hb : Below W.heap.size W W1) : El wb wo r W1 := ⟨h.1, h.2.imp id (fun k => own_belG k hb)⟩
/-- The merged snapshot while it comes to be. -/
structure Mo (wb wo : World) (p : Int) (r : Nat) (v : Value) (R : List Rv) (W : World) : Prop where
  go : W.heap[wo.heap.size]? = some (.cells #[.int .i64 p, v, .int .u64 (r : Int)] 26 (0, 0))
  own : W.ownsRow (wo.heap.size + 1) 45 11 v R.length (flV R)
  el : ∀ q ∈ R, El wb wo q W
  b0 : Below wb.heap.size wb wo
  bl : Below wo.heap.size wo W
theorem Mo.keep {wb wo W W1 : World} {p : Int} {r : Nat} {v : Value} {R : List Rv} (h : Mo wb wo p r v R W) (hb : Below W.heap.size W W1) : Mo wb wo p r v R W1 := ⟨hkN h.go hb, own_belG h.own hb, fun q hq => (h.el q hq).keep hb, h.b0, bt h.bl hb⟩
theorem Mo.size {wb wo W : World} {p : Int} {r : Nat} {v : Value} {R : List Rv} (h : Mo wb wo p r v R W) : wo.heap.size + 1 ≤ W.heap.size := (Array.getElem?_eq_some_iff.1 h.go).1
theorem Mo.new {wb wo : World} (hb : Below wb.heap.size wb wo) (p : Int) (r : Nat) : Mo wb wo p r (.slice none 0 0) [] (wo.alloc (.cells #[.int .i64 p, .slice none 0 0, .int .u64 (r : Int)] 26)) := ⟨new_1 wo _, World.ownsRow_nil _ _ _ _, (fun q hq => absurd hq (by simp)), hb, bel1 _ _⟩
theorem El.ls {wb wo W : World} {r : Rv} (h : El wb wo r W) (hb : Below wb.heap.size wb W) (hs : wo.heap.size + 1 ≤ W.heap.size) : SLb W r.2.1 r.1.d.labels ∧ SN W r.2.2 r.1.cs := by
  refine ⟨h.1.below hb, ?_⟩
  rcases h.2 with k | k
  · exact k.below hb
  · exact k.sn hs
theorem Mo.ls {wb wo W : World} {p : Int} {r : Nat} {v : Value} {R : List Rv} (h : Mo wb wo p r v R W) : Ls W R := fun q hq => (h.el q hq).ls (bt h.b0 h.bl) h.size
theorem Mo.sv {wb wo W : World} {p : Int} {r : Nat} {v : Value} {R : List Rv} (h : Mo wb wo p r v R W) : SV W v (R.map (·.1)) := GV.sv (B := wo.heap.size + 1) (W0 := W) ⟨h.own, ⟨rfl, rfl, rfl, Nat.le_refl _, fun _ _ => rfl⟩, h.size⟩ h.ls
/-- The merged values stay while a block is written that was made ahead of them. -/
theorem Mo.fin {wb wo W : World} {p : Int} {r : Nat} {v : Value} {R : List Rv} (h : Mo wb wo p r v R W) {b : Nat} (h1 : wb.heap.size ≤ b) (h2 : b < wo.heap.size) (x y z : Value) : SV (put3 W b x y z) v (R.map (·.1)) := by
  have hsz : (put3 W b x y z).heap.size = W.heap.size := by
    unfold put3
    simp only [World.setCell, Array.size_modify]
  have hs := h.size
  refine GV.sv (B := wo.heap.size + 1) (W0 := put3 W b x y z) ⟨own_put3 h.own (own_ne h.own (by omega)) x y z, ⟨rfl, rfl, rfl, Nat.le_refl _, fun _ _ => rfl⟩, by rw [hsz]; exact hs⟩ (fun q hq => ?_)
  have hbw := put3_bel (bt h.b0 h.bl) h1 x y z
  obtain ⟨k1, k2⟩ := h.el q hq
  refine ⟨k1.below hbw, ?_⟩
  rcases k2 with k | k
  · exact k.below hbw
  · have k3 : OwnC (wo.heap.size + 1) q.2.2 q.1.cs (put3 W b x y z) := own_put3 k (own_ne k (by omega)) x y z
    exact k3.sn (by rw [hsz]; exact hs)
/-- One more value, stored. -/
theorem Mo.push {wb wo W W' : World} {p : Int} {r : Nat} {v v' : Value} {R : List Rv} {x : Rv} (h : Mo wb wo p r v R W) (hx : El wb wo x W) (hown : W'.ownsRow (wo.heap.size + 1) 45 11 v' (R.length + 1) (flV R ++ flV [x])) (hg : W.grownBy W' v.ownBlock) : Mo wb wo p r v' (R ++ [x]) (W'.setCell ⟨wo.heap.size, 1, none⟩ v') := by
  have hn := own_ne h.own (show wo.heap.size < wo.heap.size + 1 by omega)
  have hn' := own_ne hown (show wo.heap.size < wo.heap.size + 1 by omega)
  have hgo : W'.heap[wo.heap.size]? = some (.cells #[.int .i64 p, v, .int .u64 (r : Int)] 26 (0, 0)) := by
    rw [hg.block wo.heap.size (by have := h.size; omega) (fun e => hn e.symm)]
    exact h.go
  have key : ∀ q : Rv, El wb wo q W → El wb wo q (W'.setCell ⟨wo.heap.size, 1, none⟩ v') := fun q k => ⟨k.1, k.2.imp id (fun k => by
    have k1 := World.ownsRow.kept k hg (own_apart k h.own typesCV)
    exact own_set k1 (own_ne k1 (by show wo.heap.size < _; omega)) v')⟩
  refine ⟨?_, ?_, fun q hq => ?_, h.b0, ?_⟩
  · rw [heap_setCell_same _ _ 1 _ _ _ hgo]
    rfl
  · rw [List.length_append, flV_append]
    exact own_set hown hn' v'
  · rcases List.mem_append.1 hq with k | k
    · exact key q (h.el q k)
    · rw [List.mem_singleton] at k
      subst k
      exact key q hx
  · refine Below.setCell (p := ⟨wo.heap.size, 1, none⟩) (h.bl.grown hg (by have := h.size; omega) (fun k e => ?_)) (Nat.le_refl _) v'
    rcases own_atG h.own with q | ⟨g, q, q1, _⟩
    · rw [q] at e; cases e
    · rw [q] at e; cases e; omega
/-- How far the document's merging has come. -/
structure DI (A B : List Vl) (i k : Nat) (f : Int) (R : List Rv) : Prop where
  ex : ∃ Dn : List (Vl × Int), Dn ++ dmL (A.drop i) (B.drop k) = dmL A B ∧ R.map (·.1) = Dn.map (·.1) ∧ f = fstE Dn
  n : R.length ≤ i + k
theorem fstE_z (a : Vl × Int) (D : List (Vl × Int)) (h : a.2 = 0) : fstE (a :: D) = fstE D := by rw [fstE, if_neg (by simpa using h)]
theorem fstE_p (a : Vl × Int) (D : List (Vl × Int)) (h : a.2 ≠ 0) : fstE (a :: D) = a.2 := by rw [fstE, if_pos h]
theorem fstE_app (D : List (Vl × Int)) (q : Vl × Int) : fstE (D ++ [q]) = if fstE D ≠ 0 then fstE D else q.2 := by
  induction D with
  | nil =>
    have e0 : fstE [] = 0 := rfl
    rw [List.nil_append, e0, if_neg (by simp : ¬ (0 : Int) ≠ 0)]
    by_cases h : q.2 = 0
    · rw [fstE_z q [] h, h]; rfl
    · rw [fstE_p q [] h]
  | cons a D ih =>
    rw [List.cons_append]
    by_cases h : a.2 = 0
    · rw [fstE_z a _ h, fstE_z a D h]; exact ih
    · rw [fstE_p a _ h, fstE_p a D h, if_pos h]
theorem DI.new (A B : List Vl) : DI A B 0 0 0 [] := ⟨⟨[], rfl, rfl, rfl⟩, Nat.le_refl _⟩
theorem DI.step {A B : List Vl} {i k i' k' : Nat} {f : Int} {R : List Rv} {q : Rv} {d : Vl × Int} (h : DI A B i k f R) (hd : dmL (A.drop i) (B.drop k) = d :: dmL (A.drop i') (B.drop k')) (hq : q.1 = d.1) (hn : i + k + 1 ≤ i' + k') : DI A B i' k' (if f ≠ 0 then f else d.2) (R ++ [q]) := by
  obtain ⟨Dn, e1, e2, e3⟩ := h.ex
  refine ⟨⟨Dn ++ [d], ?_, ?_, ?_⟩, ?_⟩
  · rw [← e1, hd, List.append_assoc]
    rfl
  · rw [List.map_append, List.map_append, e2, List.map_singleton, List.map_singleton, hq]
  · rw [fstE_app, e3]
  · rw [List.length_append, List.length_singleton]
    have := h.n
    omega
theorem dm_a {A B : List Vl} {i k : Nat} (hi : i < A.length) (h : B.length ≤ k) : dmL (A.drop i) (B.drop k) = (A[i], 0) :: dmL (A.drop (i + 1)) (B.drop k) := by
  rw [List.drop_eq_nil_of_le h, dmL_nil, dmL_nil, List.drop_eq_getElem_cons hi, List.map_cons]
theorem dm_b {A B : List Vl} {i k : Nat} (hk : k < B.length) (h : A.length ≤ i) : dmL (A.drop i) (B.drop k) = (B[k], 0) :: dmL (A.drop i) (B.drop (k + 1)) := by
  rw [List.drop_eq_nil_of_le h, dmL, dmL, List.drop_eq_getElem_cons hk, List.map_cons]
theorem dm_l {A B : List Vl} {i k : Nat} (hi : i < A.length) (hk : k < B.length) (h : La.ordD A[i].d B[k].d < 0) : dmL (A.drop i) (B.drop k) = (A[i], 0) :: dmL (A.drop (i + 1)) (B.drop k) := by
  rw [List.drop_eq_getElem_cons hi, List.drop_eq_getElem_cons hk, dmL, if_pos h]
theorem dm_g {A B : List Vl} {i k : Nat} (hi : i < A.length) (hk : k < B.length) (h : 0 < La.ordD A[i].d B[k].d) : dmL (A.drop i) (B.drop k) = (B[k], 0) :: dmL (A.drop i) (B.drop (k + 1)) := by
  rw [List.drop_eq_getElem_cons hi, List.drop_eq_getElem_cons hk, dmL, if_neg (by omega), if_pos h]
theorem dm_e {A B : List Vl} {i k : Nat} (hi : i < A.length) (hk : k < B.length) (h : La.ordD A[i].d B[k].d = 0) : dmL (A.drop i) (B.drop k) = joinV A[i] B[k] :: dmL (A.drop (i + 1)) (B.drop (k + 1)) := by
  rw [List.drop_eq_getElem_cons hi, List.drop_eq_getElem_cons hk, dmL, if_neg (by omega), if_neg (by omega)]
theorem DI.plain {A B : List Vl} {i k i' k' : Nat} {f : Int} {R : List Rv} {q : Rv} {x : Vl} (h : DI A B i k f R) (hd : dmL (A.drop i) (B.drop k) = (x, 0) :: dmL (A.drop i') (B.drop k')) (hq : q.1 = x) (hn : i + k + 1 ≤ i' + k') : DI A B i' k' f (R ++ [q]) := by
  have := h.step hd hq hn
  by_cases hf : f = 0
  · rw [if_neg (by simpa using hf)] at this
    rw [hf]; exact this
  · rw [if_pos hf] at this
    exact this
theorem DI.end {A B : List Vl} {i k : Nat} {f : Int} {R : List Rv} (h : DI A B i k f R) (hi : A.length ≤ i) (hk : B.length ≤ k) : R.map (·.1) = (dmL A B).map (·.1) ∧ f = fstE (dmL A B) := by
  obtain ⟨Dn, e1, e2, e3⟩ := h.ex
  rw [List.drop_eq_nil_of_le hi, List.drop_eq_nil_of_le hk, dmL_nil, List.map_nil, List.append_nil] at e1
  rw [← e1]
  exact ⟨e2, e3⟩
/-- append of one value: its run. -/
theorem run_one {w : World} {B : Nat} {v : Value} {R : List Rv} (h : w.ownsRow B 45 11 v R.length (flV R)) (hB : B ≤ w.heap.size) (hl : R.length ≤ 1048576) (k : Nat) (r : Rv) (hr : Lz [r]) (hk : w.heap[k]? = some (.cells (cl r).toArray 45 (0, 0))) (ty : TypeId) :
    ∃ v' w', (Builtin.append_ #[23, 23] ty #[v, .slice (some ⟨k, 0, none⟩) 1 1]).run Tryz.prog w = .ok v' w' ∧ (w'.ownsRow B 45 11 v' (R.length + 1) (flV R ++ flV [r]) ∧ w.grownBy w' v.ownBlock) := by
  obtain ⟨i0, hi, hz0, hz1, hz2⟩ := info_parts infoV
  obtain ⟨v', w', k1, k2, k3, _⟩ := run_append_own (P := Tryz.prog) w B 23 ty 45 i0 (.agg #[.int .i64 0, .string ⟨#[]⟩, .string ⟨#[]⟩, .slice none 0 0, .int .i64 0, .int .u64 0, .slice none 0 0, .int .u64 0, .float .f64 0, .float .f64 0, .float .f64 0]) 11 136 Tryz.underlying23 hi hz0 hz1 hz2 rfl (by decide) v R.length (flV R) h ⟨k, 0, none⟩ 1 1 (flV [r]) (by rw [flV_length]; rfl) (World.news_of_block hk) (flV_one [r] hr) (by unfold maxLen; omega) (by omega) hB
  exact ⟨v', w', k1, k2, k3⟩
end Go.Proofs.YtckdkcnnfjbdmaaGreat
/- TWO SNAPSHOTS AS ONE, the document's: Merge. Own work of the verifier. -/
namespace Go.Proofs.YtckdkcnnfjbdmaaGreat
open Go.RowKit Me

/-- append of one value, at a step of a region that draws; where the row lies. -/
theorem step_mo {w : World} {ops : Array Oper} {o : Oper} {a : Act} {K : Act → World → Prop} {Q : Exit → Act → World → Prop} {E : Prop} (hgd : o.guard = none) (s x : Operand)
    (ho : o.op = .call { callee := .builtin .append, args := #[s, x], argTypes := #[23, 23] }) {B : Nat} {v : Value} {R : List Rv} (hs : a.eval s = v) (hG : w.ownsRow B 45 11 v R.length (flV R)) (hB : B ≤ w.heap.size) (hl : R.length ≤ 1048576) (k : Nat) (hx : a.eval x = .slice (some ⟨k, 0, none⟩) 1 1) (r : Rv) (hr : Lz [r])
    (hk : w.heap[k]? = some (.cells (cl r).toArray 45 (0, 0)))
    (hh : ∀ g cap w', w'.ownsRow B 45 11 (.slice (some ⟨g, 0, none⟩) (R.length + 1) cap) (R.length + 1) (flV R ++ flV [r]) → w.grownBy w' v.ownBlock → K (a.put o.dst (.slice (some ⟨g, 0, none⟩) (R.length + 1) cap)) w') :
    if Region.wanted o (yielded ops a.tmps) = true then Oper.wp Tryz.prog o a w K Q else E := by
  obtain ⟨i0, hi, hz0, hz1, hz2⟩ := info_parts infoV
  refine step_append_lies w hgd s x _ ho B 45 i0 (.agg #[.int .i64 0, .string ⟨#[]⟩, .string ⟨#[]⟩, .slice none 0 0, .int .i64 0, .int .u64 0, .slice none 0 0, .int .u64 0, .float .f64 0, .float .f64 0, .float .f64 0]) 11 136 Tryz.underlying23 hi hz0 hz1 hz2 rfl (by decide) v R.length (flV R) hs hG ⟨k, 0, none⟩ 1 1 (flV [r]) hx (by rw [flV_length]; rfl) (World.news_of_block (by simpa [flV] using hk)) (flV_one _ hr) (by omega) (by unfold maxLen; omega) (by omega) hB _ rfl ?_
  intro g cap w' h1 h2 h3 h4
  exact hh g cap w' h1 h2
theorem mo_cell {wb wo W W' : World} {p : Int} {r : Nat} {v : Value} {R : List Rv} (h : Mo wb wo p r v R W) (hg : W.grownBy W' v.ownBlock) : W'.heap[wo.heap.size]? = some (.cells #[.int .i64 p, v, .int .u64 (r : Int)] 26 (0, 0)) := by
  rw [hg.block wo.heap.size (by have := h.size; omega) (fun e => own_ne h.own (show wo.heap.size < wo.heap.size + 1 by omega) e.symm)]
  exact h.go
theorem grown_drew {W W' : World} {o : Option Nat} (h : W.drew.grownBy W' o) : W.grownBy W' o := ⟨h.os, h.tape, h.output, h.size, h.block⟩
/-- What the document's Merge tells. -/
def RmQ (w : World) (a b : Sn) (e : Ending) (w' : World) : Prop := ∃ x, e = .returned (.tuple #[.agg #[.int .i64 (mgS a b).1.p, x, .int .u64 ((mgS a b).1.r : Int)], .int .i64 (mgS a b).2]) ∧ SV w' x (mgS a b).1.vs ∧ Below w.heap.size w w'
theorem rm_err {w W : World} {a b : Sn} {e : Int} (h : mgS a b = (zS, e)) (hb : Below w.heap.size w W) : RmQ w a b (.returned (.tuple #[.agg #[.int .i64 0, .slice none 0 0, .int .u64 0], .int .i64 e])) W := ⟨.slice none 0 0, by rw [h]; rfl, by rw [h]; exact Or.inl ⟨rfl, rfl⟩, hb⟩
/-- What Merge tells, as the document says it. -/
theorem mg_doc {a b : Sn} (h1 : (chkS a).1 = 0) (h2 : (chkS b).1 = 0) : mgS a b = if a.p ≠ b.p then (zS, 12) else if unX a.vs b.vs then (zS, 12) else if 256 < (dmL a.vs b.vs).length then (zS, 3) else if fstE (dmL a.vs b.vs) ≠ 0 then (zS, fstE (dmL a.vs b.vs)) else if (a.r + b.r) % 18446744073709551616 < a.r then (zS, 3) else (⟨a.p, dV a.vs b.vs, (a.r + b.r) % 18446744073709551616⟩, 0) := by
  have s1 := chkS_srd h1
  have s2 := chkS_srd h2
  have hm := mv_doc a.vs b.vs s1.1.pair s2.1.pair (fam_pair s1.1.pair s1.2) (fam_pair s2.1.pair s2.2)
  unfold mgS
  rw [if_neg (by simpa using h1), if_neg (by simpa using h2), hm]
  by_cases c1 : a.p = b.p
  · cases c2 : unX a.vs b.vs
    · by_cases c3 : 256 < (dmL a.vs b.vs).length
      · simp [c1, c3]
      · by_cases c4 : fstE (dmL a.vs b.vs) = 0
        · simp [c1, c3, c4, dV]
        · simp [c1, c3, c4]
    · simp [c1]
  · simp [c1]
end Go.Proofs.YtckdkcnnfjbdmaaGreat
