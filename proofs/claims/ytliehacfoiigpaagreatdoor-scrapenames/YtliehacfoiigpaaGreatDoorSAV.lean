/- ROWS OF VALUES that grow. Own work of the verifier. -/
import Derived.Test.YtliehacfoiigpaaGreatDoorSAS
import Derived.Deep.AppendLies
import Derived.Lib.AppendZeros
import Derived.Test.YtliehacfoiigpaaGreatDoorSAU
import Derived.Deep.RegionLaw
namespace Go.Proofs.YtliehacfoiigpaaGreatDoor
open Go.RowKit Me

/-- A value with its lists as they lie in memory. -/
abbrev Rv : Type := Vl × Value × Value
abbrev cl (r : Rv) : List Value := [.int .i64 r.1.d.kind, .string ⟨r.1.d.name.toArray⟩, .string ⟨r.1.d.help.toArray⟩, r.2.1, .int .i64 (hiOf r.1.t), .int .u64 (loOf r.1.t), r.2.2, .int .u64 (r.1.n : Int), .float .f64 r.1.sum, .float .f64 r.1.mn, .float .f64 r.1.mx]
def flV : List Rv → List Value
  | [] => []
  | r :: L => cl r ++ flV L
theorem flV_length (L : List Rv) : (flV L).length = L.length * 11 := by
  induction L with
  | nil => rfl
  | cons c L ih => simp only [flV, List.length_append, List.length_cons, ih, List.length_nil]; omega
theorem flV_append (A B : List Rv) : flV (A ++ B) = flV A ++ flV B := by
  induction A with
  | nil => rfl
  | cons c A ih => simp only [List.cons_append, flV, ih, List.append_assoc]
theorem flV_get (L : List Rv) (i j : Nat) (h : i < L.length) (hj : j < 11) : (flV L)[i * 11 + j]? = (cl L[i])[j]? := by
  induction L generalizing i with
  | nil => simp at h
  | cons c L ih =>
    cases i with
    | zero =>
      rw [flV, List.getElem?_append_left (by simp; omega)]
      simp
    | succ i =>
      rw [flV, List.getElem?_append_right (by simp; omega)]
      have := ih i (by simpa using h)
      rw [show (i + 1) * 11 + j - (cl c).length = i * 11 + j by simp; omega]
      exact this
/-- Are the lists lists? -/
def Lz (R : List Rv) : Prop := ∀ r ∈ R, r.2.1.oneCell' = true ∧ r.2.2.oneCell' = true
theorem flV_one (L : List Rv) (hz : Lz L) : ∀ u ∈ flV L, u.oneCell' = true := by
  induction L with
  | nil => intro u hu; cases hu
  | cons c L ih =>
    intro u hu
    simp only [flV, List.mem_append] at hu
    rcases hu with hu | hu
    · obtain ⟨h1, h2⟩ := hz c List.mem_cons_self
      simp only [cl, List.mem_cons, List.not_mem_nil, or_false] at hu
      rcases hu with rfl | rfl | rfl | rfl | rfl | rfl | rfl | rfl | rfl | rfl | rfl <;> first | rfl | exact h1 | exact h2
    · exact ih (fun r hr => hz r (List.mem_cons_of_mem _ hr)) u hu
/-- Values with their lists, one behind the other. -/
def RowR (W : World) (b o : Nat) (R : List Rv) : Prop := ∀ i (h : i < R.length), C11 W b (o + i * 11) R[i].1 R[i].2.1 R[i].2.2
/-- Their lists. -/
def Ls (W : World) (R : List Rv) : Prop := ∀ r ∈ R, SLb W r.2.1 r.1.d.labels ∧ SN W r.2.2 r.1.cs
theorem RowR.row {W : World} {b o : Nat} {R : List Rv} (h : RowR W b o R) (k : Ls W R) : RowV W b o (R.map (·.1)) := fun i hi => by
  have hi' : i < R.length := by simpa using hi
  refine ⟨R[i].2.1, R[i].2.2, ?_, ?_⟩
  · have := h i hi'
    simpa using this
  · have := k R[i] (List.getElem_mem hi')
    simpa using this
theorem own_row {W : World} {B g n cap : Nat} {R : List Rv} (h : W.ownsRow B 39 11 (.slice (some ⟨g, 0, none⟩) n cap) n (flV R)) (hn : n = R.length) : RowR W g 0 R := fun i hi => by
  subst hn
  have key : ∀ j, j < 11 → W.cell? ⟨g, 0 + i * 11 + j, none⟩ = (cl R[i])[j]? := fun j hj => by
    have := h.cellAt (i * 11 + j) (by omega)
    rw [show 0 + i * 11 + j = i * 11 + j by omega, this]
    exact flV_get R i j hi hj
  exact ⟨key 0 (by omega), key 1 (by omega), key 2 (by omega), key 3 (by omega), key 4 (by omega), key 5 (by omega), key 6 (by omega), key 7 (by omega), key 8 (by omega), key 9 (by omega), key 10 (by omega)⟩
/-- A row of values of the call's own that grows. -/
structure GV (B : Nat) (W0 : World) (v : Value) (R : List Rv) (w : World) : Prop where
  own : w.ownsRow B 39 11 v R.length (flV R)
  below : Below B W0 w
  size : B ≤ w.heap.size
theorem own_slice {W : World} {B : Nat} {e : TypeId} {s n : Nat} {v : Value} {xs : List Value} (h : W.ownsRow B e s v n xs) : ∃ ao g cap, v = .slice ao n cap ∧ (0 < n → ao = some ⟨g, 0, none⟩) ∧ n ≤ cap ∧ cap ≤ 9223372036854775807 := by
  rcases h.2 with ⟨q, q2⟩ | ⟨g, cap, cur, q, _, _, h3, h4, _⟩
  · exact ⟨none, 0, 0, by rw [q, q2], fun k => by omega, by omega, by omega⟩
  · exact ⟨_, g, cap, q, fun _ => rfl, h3, by unfold maxLen at h4; omega⟩
theorem GV.sv {B : Nat} {W0 w : World} {v : Value} {R : List Rv} (h : GV B W0 v R w) (hl : Ls w R) : SV w v (R.map (·.1)) := by
  rcases h.own.2 with ⟨q, q2⟩ | ⟨g, cap, cur, q, _, _, h3, h4, _⟩
  · have : R = [] := List.length_eq_zero_iff.1 q2
    subst this
    exact Or.inl ⟨q, rfl⟩
  · subst q
    refine Or.inr ⟨g, 0, cap, by simp, by simpa using h3, by unfold maxLen at h4; omega, (own_row h.own rfl).row hl⟩
end Go.Proofs.YtliehacfoiigpaaGreatDoor
/- THE READER AND THE SNAPSHOT that it fills, in memory. Own work of the verifier. -/
namespace Go.Proofs.YtliehacfoiigpaaGreatDoor
open Go.RowKit Me

/-- A list of counts of the call's own. -/
def OwC (B : Nat) (v : Value) (L : List Cn) (W : World) : Prop := W.ownsRow B 122 2 v L.length (fl L)
/-- A reader at rb, a snapshot at sb with the values R in a row of their own. -/
structure Ss (u : World) (rb sb B : Nat) (p : Int) (r : Nat) (v : Value) (R : List Rv) (T : List UInt8) (n : Nat) (W : World) : Prop where
  rd : Rd u rb W T n W
  sn : W.heap[sb]? = some (.cells #[.int .i64 p, v, .int .u64 (r : Int)] 26)
  own : W.ownsRow B 39 11 v R.length (flV R)
  el : ∀ q ∈ R, La.OwnL B q.2.1 q.1.d.labels W ∧ OwC B q.2.2 q.1.cs W
  rB : rb < B
  sB : sb < B
  us : u.heap.size ≤ sb
  ne : sb ≠ rb
  sz : B ≤ W.heap.size
  vw : ∀ q ∈ R, VW q.1
  r64 : r < 18446744073709551616
theorem typesLV : (146 : TypeId) ≠ 39 := by decide
theorem typesCV : (122 : TypeId) ≠ 39 := by decide
theorem own_neG {W : World} {B b : Nat} {e : TypeId} {s n : Nat} {v : Value} {xs : List Value} (h : W.ownsRow B e s v n xs) (hb : b < B) : v.ownBlock ≠ some b := by
  rcases own_atG h with k | ⟨g, k, k1, _⟩
  · rw [k]; intro e; cases e
  · rw [k]; intro e; cases e; omega
theorem Ss.keep {u : World} {rb sb B : Nat} {p : Int} {r : Nat} {v : Value} {R : List Rv} {T : List UInt8} {n : Nat} {W W' : World} (h : Ss u rb sb B p r v R T n W) (hb : Below W.heap.size W W') : Ss u rb sb B p r v R T n W' :=
  ⟨(h.rd.below hb).re, hkN' h.sn hb, own_belG h.own hb, fun q hq => ⟨own_belG (h.el q hq).1 hb, own_belG (h.el q hq).2 hb⟩, h.rB, h.sB, h.us, h.ne, by have := hb.size; have := h.sz; omega, h.vw, h.r64⟩
theorem Ss.called {u : World} {rb sb B : Nat} {p : Int} {r : Nat} {v : Value} {R : List Rv} {T T' : List UInt8} {n n' : Nat} {W W' : World} (h : Ss u rb sb B p r v R T n W) (k : Rd u rb W T' n' W') : Ss u rb sb B p r v R T' n' W' := by
  have hn : ∀ {e : TypeId} {s m : Nat} {y : Value} {xs : List Value}, W.ownsRow B e s y m xs → W'.ownsRow B e s y m xs := fun q => k.ch.row q (fun x hx hx2 => own_neG q h.rB (by rw [hx, hx2]))
  exact ⟨k.re, k.ch.at_ h.sn h.ne, hn h.own, fun q hq => ⟨hn (h.el q hq).1, hn (h.el q hq).2⟩, h.rB, h.sB, h.us, h.ne, by have := k.ch.size; have := h.sz; omega, h.vw, h.r64⟩
/-- One more value behind the others. -/
theorem Ss.push {u : World} {rb sb B : Nat} {p : Int} {r : Nat} {v v' : Value} {R : List Rv} {T : List UInt8} {n : Nat} {W W' : World} {q : Rv} (h : Ss u rb sb B p r v R T n W) (hl : La.OwnL B q.2.1 q.1.d.labels W) (hc : OwC B q.2.2 q.1.cs W) (hw : VW q.1) (hown : W'.ownsRow B 39 11 v' (R.length + 1) (flV R ++ flV [q])) (hg : W.grownBy W' v.ownBlock) :
    Ss u rb sb B p r v' (R ++ [q]) T n (W'.setCell ⟨sb, 1, none⟩ v') ∧ Chg (fun b => b = sb ∨ v.ownBlock = some b) W (W'.setCell ⟨sb, 1, none⟩ v') := by
  have hc1 : Chg (fun b => v.ownBlock = some b) W W' := Chg.of_grown hg (fun x e => e)
  have hc2 : Chg (fun b => b = sb ∨ v.ownBlock = some b) W (W'.setCell ⟨sb, 1, none⟩ v') := (Chg.trans (S := fun b => b = sb ∨ v.ownBlock = some b) ⟨hc1.os, hc1.tape, hc1.output, hc1.size, fun k hk hn => hc1.block k hk (fun e => hn (Or.inr e))⟩ (chg_set W' ⟨sb, 1, none⟩ v') (fun x e => Or.inl (Or.inl e)))
  have hsW := hc1.at_ h.sn (own_neG h.own h.sB)
  have hrW := hc2.at_ h.rd.at_ (by rintro (e | e); exact h.ne e.symm; exact own_neG h.own h.rB e)
  have hne : ∀ {e : TypeId} {s m : Nat} {y : Value} {xs : List Value}, W.ownsRow B e s y m xs → e ≠ 39 → (W'.setCell ⟨sb, 1, none⟩ v').ownsRow B e s y m xs := fun k ke => hc2.row k (fun x hx => by
    rintro (e | e)
    · exact own_neG k h.sB (by rw [hx, e])
    · rcases own_apart k h.own ke with o | o
      · rw [o] at hx; cases hx
      · exact o (by rw [hx, e]))
  have hst : Below u.heap.size u (W'.setCell ⟨sb, 1, none⟩ v') := h.rd.st.trans (hc2.below (by have := h.rd.st.size; omega) (fun x e => by
    rcases e with e | e
    · have := h.us; omega
    · rcases own_atG h.own with o | ⟨g, o, o1, _⟩
      · rw [o] at e; cases e
      · rw [o] at e; cases e; have := h.us; have := h.sB; omega))
  refine ⟨⟨⟨hrW, Chg.refl _ _, h.rd.lo, hst⟩, ?_, ?_, fun z hz => ?_, h.rB, h.sB, h.us, h.ne, by have := hc2.size; have := h.sz; omega, fun z hz => ?_, h.r64⟩, hc2⟩
  · have := Lib.heap_setCell_same (i := 1) hsW v'
    simpa using this
  · rw [List.length_append, List.length_singleton, flV_append]
    exact (chg_set W' ⟨sb, 1, none⟩ v').row hown (fun x hx e => own_neG hown h.sB (by rw [hx, e]))
  · rcases List.mem_append.1 hz with k | k
    · exact ⟨hne (h.el z k).1 typesLV, hne (h.el z k).2 typesCV⟩
    · rw [List.mem_singleton] at k
      subst k
      exact ⟨hne hl typesLV, hne hc typesCV⟩
  · rcases List.mem_append.1 hz with k | k
    · exact h.vw z k
    · rw [List.mem_singleton] at k
      subst k
      exact hw
/-- append of one value, at a step of a region that draws. -/
theorem step_sv {w : World} {ops : Array Oper} {o : Oper} {a : Act} {K : Act → World → Prop} {Q : Exit → Act → World → Prop} {E : Prop} (hgd : o.guard = none) (s x : Operand)
    (ho : o.op = .call { callee := .builtin .append, args := #[s, x], argTypes := #[23, 23] }) {B : Nat} {v : Value} {R : List Rv} (hs : a.eval s = v) (hG : w.ownsRow B 39 11 v R.length (flV R)) (hB : B ≤ w.heap.size) (hl : R.length ≤ 1048576) (k : Nat) (hx : a.eval x = .slice (some ⟨k, 0, none⟩) 1 1) (r : Rv) (hr : Lz [r])
    (hk : w.heap[k]? = some (.cells (cl r).toArray 39 (0, 0)))
    (hh : ∀ g cap w', w'.ownsRow B 39 11 (.slice (some ⟨g, 0, none⟩) (R.length + 1) cap) (R.length + 1) (flV R ++ flV [r]) → w.grownBy w' v.ownBlock → K (a.put o.dst (.slice (some ⟨g, 0, none⟩) (R.length + 1) cap)) w') :
    if Region.wanted o (yielded ops a.tmps) = true then Oper.wp Tryz.prog o a w K Q else E := by
  obtain ⟨i0, hi, hz0, hz1, hz2⟩ := info_parts infoV
  refine step_append_lies w hgd s x _ ho B 39 i0 (.agg #[.int .i64 0, .string ⟨#[]⟩, .string ⟨#[]⟩, .slice none 0 0, .int .i64 0, .int .u64 0, .slice none 0 0, .int .u64 0, .float .f64 0, .float .f64 0, .float .f64 0]) 11 136 Tryz.underlying23 hi hz0 hz1 hz2 rfl (by decide) v R.length (flV R) hs hG ⟨k, 0, none⟩ 1 1 (flV [r]) hx (by rw [flV_length]; rfl) (World.news_of_block (by simpa [flV] using hk)) (flV_one _ hr) (by omega) (by unfold maxLen; omega) (by omega) hB _ rfl ?_
  intro g cap w' h1 h2 h3 h4
  exact hh g cap w' h1 h2
theorem own_slb {B : Nat} {v : Value} {L : List La.Lb} {W : World} (h : La.OwnL B v L W) : SLb W v L := by
  rcases h.2 with ⟨h1, h2⟩ | ⟨g, cap, cur, hv, hg, hh, h3, h4, h5, h6⟩
  · exact Or.inl ⟨h1, List.length_eq_zero_iff.1 h2⟩
  · refine Or.inr (Or.inl ⟨g, 0, cap, hv, h3, by unfold maxLen at h4; omega, fun i hi => ?_⟩)
    obtain ⟨e1, e2⟩ := La.flL_get L i hi
    rw [← h6, List.getElem?_take, if_pos (by omega)] at e1
    rw [← h6, List.getElem?_take, if_pos (by omega)] at e2
    rw [Array.getElem?_toList] at e1 e2
    constructor
    · show W.cell? ⟨g, 0 + i * 2, none⟩ = _
      rw [Nat.zero_add]
      simp [World.cell?, hh, e1]
    · show W.cell? ⟨g, 0 + i * 2 + 1, none⟩ = _
      rw [Nat.zero_add]
      simp [World.cell?, hh, e2]
theorem own_snc {B : Nat} {v : Value} {L : List Cn} {W : World} (h : OwC B v L W) (hB : B ≤ W.heap.size) : SN W v L := GC.sn (B := B) (W0 := W) ⟨h, ⟨rfl, rfl, rfl, Nat.le_refl _, fun _ _ => rfl⟩, hB⟩
/-- The values as they are handed in. -/
theorem Ss.sv {u : World} {rb sb B : Nat} {p : Int} {r : Nat} {v : Value} {R : List Rv} {T : List UInt8} {n : Nat} {W : World} (h : Ss u rb sb B p r v R T n W) : SV W v (R.map (·.1)) :=
  (GV.mk (W0 := W) (B := B) h.own (Below.refl _ _) h.sz).sv (fun q hq => ⟨own_slb (h.el q hq).1, own_snc (h.el q hq).2 h.sz⟩)
end Go.Proofs.YtliehacfoiigpaaGreatDoor
