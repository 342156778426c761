/- ROWS OF VALUES that grow. Own work of the verifier. -/
import Derived.Test.YtlgfgeacphkhnaaGreatDoorWBB
import Derived.Deep.AppendLies
import Derived.Lib.AppendZeros
import Derived.Test.YtlgfgeacphkhnaaGreatDoorWBE
import Derived.OwnWalk
import Derived.Laws.OwnMore
namespace Go.Proofs.YtlgfgeacphkhnaaGreatDoor
open Go.RowKit Me

abbrev Rv : Type := Vl × Value × Value
abbrev cl (r : Rv) : List Value := [.int .i64 r.1.d.kind, .string ⟨r.1.d.name.toArray⟩, .string ⟨r.1.d.help.toArray⟩, r.2.1, .int .i64 (hiOf r.1.t), .int .u64 (loOf r.1.t), r.2.2, .int .u64 (r.1.n : Int), .float .f64 r.1.sum, .float .f64 r.1.mn, .float .f64 r.1.mx]
def flV : List Rv → List Value
 | [] => []
 | r :: L => cl r ++ flV L
theorem flV_length (L : List Rv) : (flV L).length = L.length * 11 := by
 induction L with
 | nil => rfl
 | cons c L ih => simp only [flV, List.length_append, List.length_cons, ih, List.length_nil]; omega
theorem flV_append (A B : List Rv) : flV (A ++ B) = flV A ++ flV B := by
 induction A with
 | nil => rfl
 | cons c A ih => simp only [List.cons_append, flV, ih, List.append_assoc]
theorem flV_get (L : List Rv) (i j : Nat) (h : i < L.length) (hj : j < 11) : (flV L)[i * 11 + j]? = (cl L[i])[j]? := by
 induction L generalizing i with
 | nil => simp at h
 | cons c L ih =>
  cases i with
  | zero =>
   rw [flV, List.getElem?_append_left (by simp; omega)]
   simp
  | succ i =>
   rw [flV, List.getElem?_append_right (by simp; omega)]
   have := ih i (by simpa using h)
   rw [show (i + 1) * 11 + j - (cl c).length = i * 11 + j by simp; omega]
   exact this
def Lz (R : List Rv) : Prop := ∀ r ∈ R, r.2.1.oneCell' = true ∧ r.2.2.oneCell' = true
theorem flV_one (L : List Rv) (hz : Lz L) : ∀ u ∈ flV L, u.oneCell' = true := by
 induction L with
 | nil => intro u hu; cases hu
 | cons c L ih =>
  intro u hu
  simp only [flV, List.mem_append] at hu
  rcases hu with hu | hu
  ·obtain ⟨h1, h2⟩ := hz c List.mem_cons_self
   simp only [cl, List.mem_cons, List.not_mem_nil, or_false] at hu
   rcases hu with rfl | rfl | rfl | rfl | rfl | rfl | rfl | rfl | rfl | rfl | rfl <;> first | rfl | exact h1 | exact h2
  ·exact ih (fun r hr => hz r (List.mem_cons_of_mem _ hr)) u hu
def RowR (W : World) (b o : Nat) (R : List Rv) : Prop := ∀ i (h : i < R.length), C11 W b (o + i * 11) R[i].1 R[i].2.1 R[i].2.2
def Ls (W : World) (R : List Rv) : Prop := ∀ r ∈ R, SLb W r.2.1 r.1.d.labels ∧ SN W r.2.2 r.1.cs
theorem RowR.row {W : World} {b o : Nat} {R : List Rv} (h : RowR W b o R) (k : Ls W R) : RowV W b o (R.map (·.1)) := fun i hi => by
 have hi' : i < R.length := by simpa using hi
 refine ⟨R[i].2.1, R[i].2.2, ?_, ?_⟩
 ·have := h i hi'
  simpa using this
 ·have := k R[i] (List.getElem_mem hi')
  simpa using this
theorem own_row {W : World} {B g n cap : Nat} {R : List Rv} (h : W.ownsRow B 36 11 (.slice (some ⟨g, 0, none⟩) n cap) n (flV R)) (hn : n = R.length) : RowR W g 0 R := fun i hi => by
 subst hn
 have key : ∀ j, j < 11 → W.cell? ⟨g, 0 + i * 11 + j, none⟩ = (cl R[i])[j]? := fun j hj => by
  have := h.cellAt (i * 11 + j) (by omega)
  rw [show 0 + i * 11 + j = i * 11 + j by omega, this]
  exact flV_get R i j hi hj
 exact ⟨key 0 (by omega), key 1 (by omega), key 2 (by omega), key 3 (by omega), key 4 (by omega), key 5 (by omega), key 6 (by omega), key 7 (by omega), key 8 (by omega), key 9 (by omega), key 10 (by omega)⟩
structure GV (B : Nat) (W0 : World) (v : Value) (R : List Rv) (w : World) : Prop where
 own : w.ownsRow B 36 11 v R.length (flV R)
 below : Below B W0 w
 size : B ≤ w.heap.size
theorem own_slice {W : World} {B : Nat} {e : TypeId} {s n : Nat} {v : Value} {xs : List Value} (h : W.ownsRow B e s v n xs) : ∃ ao g cap, v = .slice ao n cap ∧ (0 < n → ao = some ⟨g, 0, none⟩) ∧ n ≤ cap ∧ cap ≤ 9223372036854775807 := by
 rcases h.2 with ⟨q, q2⟩ | ⟨g, cap, cur, q, _, _, h3, h4, _⟩
 ·exact ⟨none, 0, 0, by rw [q, q2], fun k => by omega, by omega, by omega⟩
 ·exact ⟨_, g, cap, q, fun _ => rfl, h3, by unfold maxLen at h4; omega⟩
theorem GV.sv {B : Nat} {W0 w : World} {v : Value} {R : List Rv} (h : GV B W0 v R w) (hl : Ls w R) : SV w v (R.map (·.1)) := by
 rcases h.own.2 with ⟨q, q2⟩ | ⟨g, cap, cur, q, _, _, h3, h4, _⟩
 ·have : R = [] := List.length_eq_zero_iff.1 q2
  subst this
  exact Or.inl ⟨q, rfl⟩
 ·subst q
  refine Or.inr ⟨g, 0, cap, by simp, by simpa using h3, by unfold maxLen at h4; omega, (own_row h.own rfl).row hl⟩
end Go.Proofs.YtlgfgeacphkhnaaGreatDoor
/- ExpoKeeps: memory. Own work of the verifier. -/
namespace Go.Proofs.YtlgfgeacphkhnaaGreatDoor
open Go.RowKit Me

def OwnC (B : Nat) (v : Value) (L : List Cn) (W : World) : Prop := W.ownsRow B 67 2 v L.length (fl L)
theorem OwnC.sn {B : Nat} {v : Value} {L : List Cn} {W : World} (h : OwnC B v L W) (hB : B ≤ W.heap.size) : SN W v L := GC.sn (B := B) (W0 := W) ⟨h, ⟨rfl, rfl, rfl, Nat.le_refl _, fun _ _ => rfl⟩, hB⟩
theorem own_set {W : World} {B : Nat} {e : TypeId} {s n : Nat} {v : Value} {xs : List Value} (h : W.ownsRow B e s v n xs) {a : Addr} (ha : v.ownBlock ≠ some a.block) (u : Value) : (W.setCell a u).ownsRow B e s v n xs := by
 refine ⟨h.1, ?_⟩
 rcases h.2 with k | ⟨g, cap, cur, hv, hg, hh, r⟩
 ·exact Or.inl k
 ·exact Or.inr ⟨g, cap, cur, hv, hg, by rw [Below.heap_setCell _ _ _ _ (fun e => ha (by rw [hv, e]; rfl))]; exact hh, r⟩
theorem own_ne {W : World} {B b : Nat} {e : TypeId} {s n : Nat} {v : Value} {xs : List Value} (h : W.ownsRow B e s v n xs) (hb : b < B) : v.ownBlock ≠ some b := by
 rcases own_atG h with k | ⟨g, k, k1, _⟩
 ·rw [k]; simp
 ·rw [k]; intro q; cases q; omega
theorem hid_fr {W : World} {b : Nat} {c : Array Value} {t : TypeId} (h : Hid (W.heap[b]? = some (.cells c t (0, 0)))) (o : Nat) : W.frozen? ⟨b, o, none⟩ = false := by unfold Hid at h; simp [World.frozen?, h]
theorem eleven_cells {W : World} {b : Nat} {u0 u1 u2 u3 u4 u5 u6 u7 u8 u9 u10 : Value} {t : TypeId} (h : Hid (W.heap[b]? = some (.cells #[u0, u1, u2, u3, u4, u5, u6, u7, u8, u9, u10] t (0, 0)))) : W.cell? ⟨b, 0, none⟩ = some u0 ∧ W.cell? ⟨b, 1, none⟩ = some u1 ∧ W.cell? ⟨b, 2, none⟩ = some u2 ∧ W.cell? ⟨b, 3, none⟩ = some u3 ∧ W.cell? ⟨b, 4, none⟩ = some u4 ∧ W.cell? ⟨b, 5, none⟩ = some u5 ∧ W.cell? ⟨b, 6, none⟩ = some u6 ∧ W.cell? ⟨b, 7, none⟩ = some u7 ∧ W.cell? ⟨b, 8, none⟩ = some u8 ∧ W.cell? ⟨b, 9, none⟩ = some u9 ∧ W.cell? ⟨b, 10, none⟩ = some u10 := by
 unfold Hid at h; simp [World.cell?, h]
theorem set3_heap {W : World} {b : Nat} {x : Vl} {lv cv u : Value} {t : TypeId} (h : W.heap[b]? = some (.cells (vc x lv cv) t (0, 0))) : (W.setCell ⟨b, 3, none⟩ u).heap[b]? = some (.cells (vc x u cv) t (0, 0)) := by
 rw [heap_setCell_same _ b 3 _ _ _ h]; rfl
theorem set6_heap {W : World} {b : Nat} {x : Vl} {lv cv u : Value} {t : TypeId} (h : W.heap[b]? = some (.cells (vc x lv cv) t (0, 0))) : (W.setCell ⟨b, 6, none⟩ u).heap[b]? = some (.cells (vc x lv u) t (0, 0)) := by
 rw [heap_setCell_same _ b 6 _ _ _ h]; rfl
theorem bel_gn {a b : World} (h : a.grownBy b none) : Below a.heap.size a b := ⟨h.os, h.tape, h.output, h.size, fun k hk => h.block k hk (by simp)⟩
theorem SLb.src {W : World} {la : Option Addr} {lc : Nat} {L : List La.Lb} (h : SLb W (.slice la L.length lc) L) : (la = none → L.length = 0 ∧ lc = 0) ∧ ∀ ad, la = some ad → ∀ j u, (flL L)[j]? = some u → W.cell? (ad.add j) = some u := by
 rcases h with ⟨h1, h2⟩ | ⟨b, o, cap, h1, _, _, hr⟩ | ⟨a, cap, h1, _, h2⟩
 ·subst h2
  cases h1
  exact ⟨fun _ => ⟨rfl, rfl⟩, (fun ad e => by cases e)⟩
 ·cases h1
  exact ⟨(fun e => by cases e), (fun ad e => by cases e; exact rowL_cells hr)⟩
 ·subst h2
  cases h1
  exact ⟨(fun e => by cases e), (fun ad e j u hu => by simp [flL] at hu)⟩
theorem SN.src {W : World} {la : Option Addr} {lc : Nat} {L : List Cn} (h : SN W (.slice la L.length lc) L) : (la = none → L.length = 0 ∧ lc = 0) ∧ ∀ ad, la = some ad → ∀ j u, (fl L)[j]? = some u → W.cell? (ad.add j) = some u := by
 rcases h with ⟨h1, h2⟩ | ⟨a, cap, h1, _, hr⟩
 ·subst h2
  cases h1
  exact ⟨fun _ => ⟨rfl, rfl⟩, (fun ad e => by cases e)⟩
 ·cases h1
  exact ⟨(fun e => by cases e), (fun ad e => by cases e; exact hr)⟩
abbrev z4 : List Value := [.string ⟨#[]⟩, .string ⟨#[]⟩, .string ⟨#[]⟩, .string ⟨#[]⟩]
def OwnF (B : Nat) (v : Value) (L : List La.Lb) (W : World) : Prop := ∃ g, v = .slice (some ⟨g, 0, none⟩) L.length (L.length + 2) ∧ W.ownsRow B 46 2 (.slice (some ⟨g, 0, none⟩) (L.length + 2) (L.length + 2)) (L.length + 2) (flL L ++ z4)
theorem OwnF.own {B : Nat} {v : Value} {L : List La.Lb} {W : World} (h : OwnF B v L W) : W.ownsRow B 46 2 v L.length (flL L) := by
 obtain ⟨g, rfl, h⟩ := h
 have k := own_take h (n := L.length) (by omega)
 rw [List.take_append_of_le_length (Nat.le_of_eq (flL_length L).symm), List.take_of_length_le (Nat.le_of_eq (flL_length L))] at k
 exact k
theorem own_slb {B : Nat} {v : Value} {L : List La.Lb} {W : World} (h : W.ownsRow B 46 2 v L.length (flL L)) : SLb W v L := by
 rcases h.2 with ⟨h1, h2⟩ | ⟨g, cap, cur, hv, hg, hh, h3, h4, h5, h6⟩
 ·exact Or.inl ⟨h1, List.length_eq_zero_iff.1 h2⟩
 ·refine Or.inr (Or.inl ⟨g, 0, cap, hv, h3, by unfold maxLen at h4; omega, fun i hi => ?_⟩)
  obtain ⟨e1, e2⟩ := flL_get L i hi
  rw [← h6, List.getElem?_take, if_pos (by omega)] at e1
  rw [← h6, List.getElem?_take, if_pos (by omega)] at e2
  rw [Array.getElem?_toList] at e1 e2
  constructor
  ·show W.cell? ⟨g, 0 + i * 2, none⟩ = _
   rw [Nat.zero_add]
   simp [World.cell?, hh, e1]
  ·show W.cell? ⟨g, 0 + i * 2 + 1, none⟩ = _
   rw [Nat.zero_add]
   simp [World.cell?, hh, e2]
theorem OwnF.keep {B : Nat} {v : Value} {L : List La.Lb} {W W' : World} (h : OwnF B v L W) (k : ∀ {u : Value} {n : Nat} {xs : List Value}, W.ownsRow B 46 2 u n xs → W'.ownsRow B 46 2 u n xs) : OwnF B v L W' := by
 obtain ⟨g, e, h⟩ := h
 exact ⟨g, e, k h⟩
theorem OwnF.le {B B' : Nat} {v : Value} {L : List La.Lb} {W : World} (h : OwnF B v L W) (hb : B' ≤ B) : OwnF B' v L W := by
 obtain ⟨g, e, h⟩ := h
 exact ⟨g, e, own_leG h hb⟩
theorem made_labels (n : Nat) : (madeCells (Value.agg #[.string ⟨#[]⟩, .string ⟨#[]⟩]).cells n).toList = List.replicate n (.string ⟨#[]⟩) := by
 apply List.ext_getElem
 ·simp [madeCells]
 ·intro i h1 h2
  have hi : i < n := by simpa [madeCells] using h1
  simp only [madeCells, List.getElem_replicate, Array.toList_map, List.getElem_map, Value.cells]
  rcases Nat.mod_two_eq_zero_or_one i with e | e <;> simp [e]
theorem wpList_make_F (w : World) {ops : Array Oper} {rest : List Oper} {o : Oper} {a : Act} {Q : Exit → Act → World → Prop}
  (hg : o.guard = none) (l c : Operand) (hop : o.op = Op.makeSlice 28 l c) (base : Nat) (C : Int) (n : Nat) (hl : a.eval l = .int .i64 0) (hc : a.eval c = .int .i64 C) (hC : C = (n : Int)) (b2 : n ≤ 1099511627776) (b4 : base ≤ w.heap.size)
  (hK : ∀ w', w'.ownsRow base 46 2 (.slice (some ⟨w.heap.size, 0, none⟩) n n) n (List.replicate (n * 2) (.string ⟨#[]⟩)) → w.grownBy w' none → wpList Tryz.prog ops Q rest (a.put o.dst (.slice (some ⟨w.heap.size, 0, none⟩) 0 n)) w') :
  wpList Tryz.prog ops Q (o :: rest) a w := by
 obtain ⟨i0, hi0, hz0, hz1, hz2⟩ := info_parts infoLb
 refine wpList_plain hg fun K hK' => ?_
 subst hC
 have hrun := run_make (P := Tryz.prog) w 28 46 i0 _ Tryz.underlying28 hi0 hz0 .i64 .i64 0 n (Int.le_refl _) (by omega) (by rw [hz2]; omega) (by omega)
 simp only [Int.toNat_zero, Int.toNat_natCast, hz1] at hrun
 unfold Oper.wp
 simp [execOp, hop, hl, hc, hrun, Result.andThen]
 refine hK' _ _ (hK _ ?_ (World.grownBy_alloc w _ none))
 rw [← made_labels]
 exact World.ownsRow_lit w _ n b4 (by unfold maxLen; omega) (size_madeCells _ _)
theorem wpList_append_F (w : World) {ops : Array Oper} {rest : List Oper} {o : Oper} {a : Act} {Q : Exit → Act → World → Prop}
  (hg : o.guard = none) (s x : Operand) (hop : o.op = Op.call { callee := Callee.builtin Builtin.append, args := #[s, x], argTypes := #[28, 28] }) (base : Nat)
  (g : Nat) (L : List La.Lb) (hs : a.eval s = .slice (some ⟨g, 0, none⟩) 0 (L.length + 2)) (hown : w.ownsRow base 46 2 (.slice (some ⟨g, 0, none⟩) (L.length + 2) (L.length + 2)) (L.length + 2) (List.replicate ((L.length + 2) * 2) (.string ⟨#[]⟩)))
  (ao : Option Addr) (c : Nat) (hx : a.eval x = .slice ao L.length c)
  (hnone : ao = none → L.length = 0 ∧ c = 0) (hc : ∀ ad, ao = some ad → ∀ j u, (flL L)[j]? = some u → w.cell? (ad.add j) = some u)
  (hK : ∀ w', OwnF base (.slice (some ⟨g, 0, none⟩) L.length (L.length + 2)) L w' → w.grownBy w' (some g) → wpList Tryz.prog ops Q rest (a.put o.dst (.slice (some ⟨g, 0, none⟩) L.length (L.length + 2))) w') :
  wpList Tryz.prog ops Q (o :: rest) a w := by
 obtain ⟨i0, hi0, hz0, hz1, hz2⟩ := info_parts infoLb
 cases ao with
 | some ad =>
  refine wpList_plain hg fun K hK' => ?_
  rcases hown.2 with ⟨h, _⟩ | ⟨g', cap', cur, h, hbg, hgg, hnc, hcm, hcs, htake⟩
  ·cases h
  cases h
  have hcur : cur.toList = List.replicate ((L.length + 2) * 2) (.string ⟨#[]⟩) := by rw [← htake, List.take_of_length_le (Nat.le_of_eq (by rw [Array.length_toList, hcs]))]
  have hrun := run_append_room (P := Tryz.prog) w 28 o.type 46 i0 Tryz.underlying28 hi0 g 0 (L.length + 2) cur hgg ad L.length c (flL L) (by rw [hz1]; exact flL_length L) (hc ad rfl) (flL_one L) (by omega) (by rw [flL_length, hcs]; omega)
  simp only [Nat.zero_mul, List.take_zero, List.nil_append, Nat.zero_add] at hrun
  unfold Oper.wp
  simp [execOp, hop, resolve, invoke, builtin, hs, hx, hrun, Result.andThen]
  refine hK' _ _ (hK _ ⟨g, rfl, ?_⟩ ⟨rfl, rfl, rfl, by simp, fun k _ hk => setRow_other w g k _ (fun e => hk (by simp [e]))⟩)
  have e1 : flL L ++ cur.toList.drop (flL L).length = flL L ++ z4 := by
   rw [hcur, List.drop_replicate, flL_length, show (L.length + 2) * 2 - L.length * 2 = 4 by omega]
   rfl
  refine ⟨by rw [List.length_append, flL_length]; simp; omega, Or.inr ⟨g, L.length + 2, _, rfl, hbg, setRow_heap w g cur _ _ _ hgg, Nat.le_refl _, hcm, ?_, ?_⟩⟩
  ·simp only [List.size_toArray]
   rw [e1, List.length_append, flL_length]
   simp
   omega
  ·rw [List.take_of_length_le (by rw [e1, List.length_append, flL_length]; simp; omega)]
   exact e1
 | none =>
  obtain ⟨h0, rfl⟩ := hnone rfl
  obtain rfl := List.length_eq_zero_iff.1 h0
  refine wpList_plain hg fun K hK' => ?_
  have hrun := run_append_owned_none (P := Tryz.prog) w base 28 o.type 46 i0 2 Tryz.underlying28 hi0 (.slice (some ⟨g, 0, none⟩) 0 2) 0 [] (by have := own_take hown (n := 0) (by omega); simpa using this)
  unfold Oper.wp
  simp at hs hx
  simp [execOp, hop, resolve, invoke, builtin, hs, hx, hrun, Result.andThen]
  exact hK' _ _ (hK w ⟨g, rfl, hown⟩ (World.grownBy.refl _ _))
end Go.Proofs.YtlgfgeacphkhnaaGreatDoor
/- ExpoKeeps: the copy, the texts told, in memory. Own work of the verifier. -/
namespace Go.Proofs.YtlgfgeacphkhnaaGreatDoor
open Go.RowKit Me

abbrev bxS (s : Sn) (u : Value) : Obj := .cells #[.int .i64 s.p, u, .int .u64 (s.r : Int)] 25 (0, 0)
structure Kc (w : World) (B : Nat) (s : Sn) (us v : Value) (J : List Rv) (W : World) : Prop where
 g1 : W.heap[w.heap.size]? = some (bxS s us)
 g3 : W.heap[B]? = some (bxS s v)
 lo : w.heap.size < B
 own : W.ownsRow (B + 1) 36 11 v J.length (flV J)
 el : ∀ r ∈ J, OwnF (B + 1) r.2.1 r.1.d.labels W ∧ OwnC (B + 1) r.2.2 r.1.cs W
 bl : Below w.heap.size w W
theorem Kc.size {w W : World} {B : Nat} {s : Sn} {us v : Value} {J : List Rv} (h : Kc w B s us v J W) : B + 1 ≤ W.heap.size := (Array.getElem?_eq_some_iff.1 h.g3).1
theorem Kc.below {w W W1 : World} {B : Nat} {s : Sn} {us v : Value} {J : List Rv} (h : Kc w B s us v J W) (hb : Below W.heap.size W W1) : Kc w B s us v J W1 :=
 ⟨hkN h.g1 hb, hkN h.g3 hb, h.lo, own_belG h.own hb, fun r hr => ⟨(h.el r hr).1.keep (fun k => own_belG k hb), own_belG (h.el r hr).2 hb⟩, bt h.bl hb⟩
theorem Kc.grown {w W W1 : World} {B B' : Nat} {s : Sn} {us v u : Value} {J : List Rv} {e : TypeId} {k n : Nat} {xs : List Value} (h : Kc w B s us v J W) (hu : W.ownsRow B' e k u n xs) (hB : w.heap.size ≤ B') (e1 : e ≠ 25) (e2 : 36 ≠ e) (e3 : 46 ≠ e) (e4 : 67 ≠ e) (hg : W.grownBy W1 u.ownBlock) : Kc w B s us v J W1 := by
 have hb : ∀ {p : Nat} {y : Value}, W.heap[p]? = some (bxS s y) → W1.heap[p]? = some (bxS s y) := fun {p y} q => (hg.block p (Array.getElem?_eq_some_iff.1 q).1 (fun c => own_notype hu q e1 c.symm)).trans q
 refine ⟨hb h.g1, hb h.g3, h.lo, World.ownsRow.kept h.own hg (own_apart h.own hu e2), fun r hr => ⟨(h.el r hr).1.keep (fun q => World.ownsRow.kept q hg (own_apart q hu e3)), World.ownsRow.kept (h.el r hr).2 hg (own_apart (h.el r hr).2 hu e4)⟩, ?_⟩
 refine h.bl.grown hg (by have := h.size; have := h.lo; omega) (fun g q => ?_)
 rcases own_atG hu with c | ⟨g', c, c1, _⟩
 ·rw [c] at q; cases q
 ·rw [c] at q; cases q; omega
theorem Kc.snap {w W : World} {B : Nat} {s : Sn} {us v : Value} {J : List Rv} (h : Kc w B s us v J W) (hJ : J.map (·.1) = s.vs) : SnAt W s (.agg #[.int .i64 s.p, v, .int .u64 (s.r : Int)]) := by
 refine ⟨v, rfl, ?_⟩
 rw [← hJ]
 exact GV.sv (B := B + 1) (W0 := W) ⟨h.own, Below.refl _ _, h.size⟩ (fun r hr => ⟨own_slb (h.el r hr).1.own, (h.el r hr).2.sn h.size⟩)
theorem Kc.start {w W0 W : World} {B : Nat} {s : Sn} {us v : Value} (g1 : W0.heap[w.heap.size]? = some (bxS s us)) (g3 : W0.heap[B]? = some (bxS s us)) (lo : w.heap.size < B) (bl : Below w.heap.size w W0) (hb : Below W0.heap.size W0 W) (hown : W.ownsRow (B + 1) 36 11 v 0 []) : Kc w B s us v [] (W.setCell ⟨B, 1, none⟩ v) := by
 refine ⟨?_, ?_, lo, ?_, (fun r hr => by cases hr), ?_⟩
 ·rw [heap_other _ _ _ _ (by show _ ≠ B; omega)]
  exact hkN g1 hb
 ·rw [heap_setCell_same _ _ 1 _ _ _ (hkN g3 hb)]
  rfl
 ·exact own_set hown (own_ne hown (by show B < _; omega)) v
 ·exact Below.setCell (p := ⟨B, 1, none⟩) (bt bl hb) (by show w.heap.size ≤ B; omega) v
theorem Kc.block {w W0 W1 W' : World} {B : Nat} {s : Sn} {us v : Value} {J : List Rv} (h : Kc w B s us v J W0) (hb : Below W0.heap.size W0 W1) (hg : W1.grownBy W' v.ownBlock) {k : Nat} {o : Obj} (hk : k < B + 1) (e : W0.heap[k]? = some o) : W'.heap[k]? = some o := by
 rw [hg.block k (by have := hb.size; have := h.size; omega) (fun q => own_ne h.own hk q.symm)]
 exact hkN e hb
theorem typesLV : (46 : TypeId) ≠ 36 := by decide
theorem typesCV : (67 : TypeId) ≠ 36 := by decide
theorem Kc.push {w W0 W1 W' : World} {B : Nat} {s : Sn} {us v v' : Value} {J : List Rv} {r : Rv} (h : Kc w B s us v J W0) (hb : Below W0.heap.size W0 W1) (hl : OwnF W0.heap.size r.2.1 r.1.d.labels W1) (hc : OwnC W0.heap.size r.2.2 r.1.cs W1) (hown : W'.ownsRow (B + 1) 36 11 v' (J.length + 1) (flV J ++ flV [r])) (hg : W1.grownBy W' v.ownBlock) : Kc w B s us v' (J ++ [r]) (W'.setCell ⟨B, 1, none⟩ v') := by
 have hs := h.size
 have h1 := own_belG h.own hb
 have lo := h.lo
 have key : ∀ {e : TypeId} {u : Value} {n : Nat} {xs : List Value}, e ≠ 36 → W1.ownsRow (B + 1) e 2 u n xs → (W'.setCell ⟨B, 1, none⟩ v').ownsRow (B + 1) e 2 u n xs := fun {e u n xs} hne k => by
  have k1 := World.ownsRow.kept k hg (own_apart k h1 hne)
  exact own_set k1 (own_ne k1 (by show B < _; omega)) v'
 refine ⟨?_, ?_, lo, ?_, fun q hq => ?_, ?_⟩
 ·rw [heap_other _ _ _ _ (by show _ ≠ B; omega)]
  exact h.block hb hg (by omega) h.g1
 ·rw [heap_setCell_same _ _ 1 _ _ _ (h.block hb hg (by omega) h.g3)]
  rfl
 ·rw [List.length_append, flV_append]
  exact own_set hown (own_ne hown (by show B < _; omega)) v'
 ·rcases List.mem_append.1 hq with k | k
  ·exact ⟨(h.el q k).1.keep (fun c => key typesLV (own_belG c hb)), key typesCV (own_belG (h.el q k).2 hb)⟩
  ·rw [List.mem_singleton] at k
   subst k
   exact ⟨(hl.le hs).keep (fun c => key typesLV c), key typesCV (own_leG hc hs)⟩
 ·refine Below.setCell (p := ⟨B, 1, none⟩) ((bt h.bl hb).grown hg (by have := hb.size; omega) (fun k e => ?_)) (by show w.heap.size ≤ B; omega) v'
  rcases own_atG h.own with q | ⟨g, q, q1, _⟩
  ·rw [q] at e; cases e
  ·rw [q] at e; cases e; omega
structure Ci (W0 : World) (x : Vl) (lv cv : Value) (W : World) : Prop where
 g5 : W.heap[W0.heap.size]? = some (.cells (vc x lv cv) 36 (0, 0))
 bl : Below W0.heap.size W0 W
theorem Ci.below {W0 W W1 : World} {x : Vl} {lv cv : Value} (h : Ci W0 x lv cv W) (hb : Below W.heap.size W W1) : Ci W0 x lv cv W1 := ⟨hkN h.g5 hb, bt h.bl hb⟩
theorem Ci.size {W0 W : World} {x : Vl} {lv cv : Value} (h : Ci W0 x lv cv W) : W0.heap.size + 1 ≤ W.heap.size := (Array.getElem?_eq_some_iff.1 h.g5).1
theorem Ci.grow {W0 W W1 : World} {x : Vl} {lv cv : Value} {g : Nat} (h : Ci W0 x lv cv W) (hg : W.grownBy W1 (some g)) (hl : W0.heap.size < g) : Ci W0 x lv cv W1 :=
 ⟨(hg.block _ (Array.getElem?_eq_some_iff.1 h.g5).1 (fun e => by cases e; omega)).trans h.g5, h.bl.grown hg (by have := h.size; omega) (fun k e => by cases e; omega)⟩
theorem Ci.set3 {W0 W : World} {x : Vl} {lv cv u : Value} (h : Ci W0 x lv cv W) : Ci W0 x u cv (W.setCell ⟨W0.heap.size, 3, none⟩ u) := ⟨set3_heap h.g5, h.bl.setCell (p := ⟨W0.heap.size, 3, none⟩) (Nat.le_refl _) u⟩
theorem Ci.set6 {W0 W : World} {x : Vl} {lv cv u : Value} (h : Ci W0 x lv cv W) : Ci W0 x lv u (W.setCell ⟨W0.heap.size, 6, none⟩ u) := ⟨set6_heap h.g5, h.bl.setCell (p := ⟨W0.heap.size, 6, none⟩) (Nat.le_refl _) u⟩
theorem wpList_kc {w0 W0 w : World} {B : Nat} {ops : Array Oper} {rest : List Oper} {o : Oper} {a : Act} {Q : Exit → Act → World → Prop} (hgd : o.guard = none) (s x : Operand)
  (ho : o.op = .call { callee := .builtin .append, args := #[s, x], argTypes := #[22, 22] }) {sn : Sn} {us v : Value} {J : List Rv} (hs : a.eval s = v) (hC : Kc w0 B sn us v J W0) (hb : Below W0.heap.size W0 w) (hl : J.length ≤ 1048576) (k : Nat) (hx : a.eval x = .slice (some ⟨k, 0, none⟩) 1 1) (r : Rv) (h1 : OwnF W0.heap.size r.2.1 r.1.d.labels w) (h2 : OwnC W0.heap.size r.2.2 r.1.cs w)
  (hk : w.heap[k]? = some (.cells (cl r).toArray 36 (0, 0)))
  (h : ∀ v' w', w'.ownsRow (B + 1) 36 11 v' (J.length + 1) (flV J ++ flV [r]) → w.grownBy w' v.ownBlock → wpList Tryz.prog ops Q rest (a.put o.dst v') w') : wpList Tryz.prog ops Q (o :: rest) a w := by
 obtain ⟨i0, hi, hz0, hz1, hz2⟩ := info_parts infoV
 have hz : Lz [r] := by
  obtain ⟨_, _, _, e1, _⟩ := own_slice h1.own
  obtain ⟨_, _, _, e2, _⟩ := own_slice h2
  intro q hq
  rw [List.mem_singleton] at hq
  subst hq
  exact ⟨by rw [e1]; rfl, by rw [e2]; rfl⟩
 refine wpList_append_own w hgd s x _ ho (B + 1) 36 i0 _ 11 136 Tryz.underlying22 hi hz0 hz1 hz2 rfl (by decide) v J.length (flV J) hs (own_belG hC.own hb) ⟨k, 0, none⟩ 1 1 (flV [r]) hx (by rw [flV_length]; rfl) (World.news_of_block (by simpa [flV] using hk)) (flV_one _ hz) (by unfold maxLen; omega) (by omega) (by have := hC.size; have := hb.size; omega) ?_
 intro v' w' h3 h4 _
 exact h v' w' h3 h4
structure Kt (w : World) (B : Nat) (s : Sn) (us v : Value) (J : List Rv) (told : Value) (Vs : List Value) (Rs : List (List UInt8)) (W : World) : Prop where
 kc : Kc w B s us v J W
 row : W.ownsRow w.heap.size 41 1 told Vs.length Vs
 len : Rs.length = Vs.length
 el : ∀ j (h : j < Vs.length) (h' : j < Rs.length), W.ownsRow w.heap.size 5 1 Vs[j] Rs[j].length (Lib.byteCells Rs[j])
 ap : ∀ i j (hi : i < Vs.length) (hj : j < Vs.length), i ≠ j → Vs[i].ownBlock = none ∨ Vs[i].ownBlock ≠ Vs[j].ownBlock
theorem Kt.below {w W W1 : World} {B : Nat} {s : Sn} {us v told : Value} {J : List Rv} {Vs : List Value} {Rs : List (List UInt8)} (h : Kt w B s us v J told Vs Rs W) (hb : Below W.heap.size W W1) : Kt w B s us v J told Vs Rs W1 :=
 ⟨h.kc.below hb, own_belG h.row hb, h.len, fun j k k' => own_belG (h.el j k k') hb, h.ap⟩
theorem Kt.byte {w W W1 : World} {B : Nat} {s : Sn} {us v told : Value} {J : List Rv} {Vs : List Value} {Rs : List (List UInt8)} {R : List UInt8} (h : Kt w B s us v J told Vs Rs W) {i : Nat} (hi : i < Vs.length) (hg : W.grownBy W1 Vs[i].ownBlock) (ho : W1.ownsRow w.heap.size 5 1 Vs[i] R.length (Lib.byteCells R)) : Kt w B s us v J told Vs (Rs.set i R) W1 := by
 have hi' : i < Rs.length := by rw [h.len]; exact hi
 have hu := h.el i hi hi'
 refine ⟨h.kc.grown hu (Nat.le_refl _) (by decide) (by decide) (by decide) (by decide) hg, World.ownsRow.kept h.row hg (own_apart h.row hu (by decide)), by rw [List.length_set]; exact h.len, fun j hj hj' => ?_, h.ap⟩
 by_cases e : i = j
 ·subst e
  rw [List.getElem_set_self]
  exact ho
 ·rw [List.getElem_set_ne e]
  exact World.ownsRow.kept (h.el j hj (by rw [h.len]; exact hj)) hg (h.ap j i hj hi (fun c => e c.symm))
theorem Kt.other {w W W1 : World} {B : Nat} {s : Sn} {us v told l : Value} {J : List Rv} {Vs : List Value} {Rs : List (List UInt8)} {n : Nat} {xs : List Value} (h : Kt w B s us v J told Vs Rs W) (hu : W.ownsRow w.heap.size 5 1 l n xs) (ha : ∀ j (hj : j < Vs.length), Vs[j].ownBlock = none ∨ Vs[j].ownBlock ≠ l.ownBlock) (hg : W.grownBy W1 l.ownBlock) : Kt w B s us v J told Vs Rs W1 :=
 ⟨h.kc.grown hu (Nat.le_refl _) (by decide) (by decide) (by decide) (by decide) hg, World.ownsRow.kept h.row hg (own_apart h.row hu (by decide)), h.len, fun j hj hj' => World.ownsRow.kept (h.el j hj hj') hg (ha j hj), h.ap⟩
theorem Kt.push {w W0 W W1 : World} {B : Nat} {s : Sn} {us v told told' u : Value} {J : List Rv} {Vs : List Value} {Rs : List (List UInt8)} {R : List UInt8} (h : Kt w B s us v J told Vs Rs W0) (hb : Below W0.heap.size W0 W) (hu : W.ownsRow W0.heap.size 5 1 u R.length (Lib.byteCells R)) (hg : (∃ g cap, told = .slice (some ⟨g, 0, none⟩) Vs.length cap ∧ told' = .slice (some ⟨g, 0, none⟩) (Vs.length + 1) cap ∧ W1.ownsRow w.heap.size 41 1 told' (Vs.length + 1) (Vs ++ [u]) ∧ W.grownBy W1 (some g)) ∨ (W1.ownsRow W.heap.size 41 1 told' (Vs.length + 1) (Vs ++ [u]) ∧ Below W.heap.size W W1)) : Kt w B s us v J told' (Vs ++ [u]) (Rs ++ [R]) W1 := by
 have h1 := h.below hb
 have hs : w.heap.size ≤ W0.heap.size := by have := h.kc.size; have := h.kc.lo; omega
 have hs2 := hb.size
 have key : Kc w B s us v J W1 ∧ W1.ownsRow w.heap.size 41 1 told' (Vs.length + 1) (Vs ++ [u]) ∧ ∀ {B' n : Nat} {x : Value} {xs : List Value}, W.ownsRow B' 5 1 x n xs → W1.ownsRow B' 5 1 x n xs := by
  rcases hg with ⟨g, cap, e1, e2, k1, k2⟩ | ⟨k1, k2⟩
  ·have hg' : W.grownBy W1 told.ownBlock := by rw [e1]; exact k2
   exact ⟨h1.kc.grown h1.row (Nat.le_refl _) (by decide) (by decide) (by decide) (by decide) hg', k1, fun q => World.ownsRow.kept q hg' (own_apart q h1.row (by decide))⟩
  ·exact ⟨h1.kc.below k2, own_leG k1 (by omega), fun q => own_belG q k2⟩
 obtain ⟨kc, kr, kk⟩ := key
 have hlen := h.len
 have key2 : ∀ j (hj : j < Vs.length), Vs[j].ownBlock = none ∨ Vs[j].ownBlock ≠ u.ownBlock := fun j hj => by
  rcases own_atG (h.el j hj (by omega)) with q | ⟨g1, q, _, q2⟩
  ·exact Or.inl q
  ·refine Or.inr (fun c => ?_)
   rcases own_atG hu with p | ⟨g2, p, p1, _⟩
   ·rw [p, q] at c; cases c
   ·rw [p, q] at c; cases c; omega
 refine ⟨kc, by rw [List.length_append]; exact kr, by simp [hlen], fun j hj hj' => ?_, fun i j hi hj hne => ?_⟩
 ·rw [List.length_append, List.length_singleton] at hj hj'
  by_cases e : j < Vs.length
  ·rw [List.getElem_append_left e, List.getElem_append_left (by omega)]
   exact kk (h1.el j e (by omega))
  ·have e' : j = Vs.length := by omega
   subst e'
   rw [List.getElem_append_right (by omega), List.getElem_append_right (by omega)]
   simp only [hlen, Nat.sub_self, List.getElem_cons_zero]
   exact own_leG (kk hu) hs
 ·rw [List.length_append, List.length_singleton] at hi hj
  by_cases c1 : i < Vs.length
  ·by_cases c2 : j < Vs.length
   ·rw [List.getElem_append_left c1, List.getElem_append_left c2]
    exact h.ap i j c1 c2 hne
   ·rw [List.getElem_append_left c1, List.getElem_append_right (by omega)]
    simp only [show j - Vs.length = 0 by omega, List.getElem_cons_zero]
    exact key2 i c1
  ·have c2 : j < Vs.length := by omega
   rw [List.getElem_append_right (by omega), List.getElem_append_left c2]
   simp only [show i - Vs.length = 0 by omega, List.getElem_cons_zero]
   rcases key2 j c2 with q | q
   ·rw [q]
    cases u.ownBlock <;> simp
   ·exact Or.inr (fun c => q c.symm)
structure Kp (w : World) (B : Nat) (s : Sn) (us v : Value) (J : List Rv) (told : Value) (Vs : List Value) (Rs : List (List UInt8)) (i n : Nat) (m : UInt8) (k : Nat) (l : Value) (W : World) : Prop where
 kt : Kt w B s us v J told Vs Rs W
 hi : i < Vs.length
 rs : Rs[i]? = some (List.replicate n m)
 cur : W.ownsRow w.heap.size 5 1 l (n + k) (Lib.byteCells (List.replicate (n + k) m))
 rel : (∃ g cap, Vs[i] = .slice (some ⟨g, 0, none⟩) n cap ∧ l = .slice (some ⟨g, 0, none⟩) (n + k) cap) ∨ ∀ j (hj : j < Vs.length), Vs[j].ownBlock = none ∨ Vs[j].ownBlock ≠ l.ownBlock
theorem Kp.new {w W : World} {B : Nat} {s : Sn} {us v told : Value} {J : List Rv} {Vs : List Value} {Rs : List (List UInt8)} {i n : Nat} {m : UInt8} (h : Kt w B s us v J told Vs Rs W) (hi : i < Vs.length) (rs : Rs[i]? = some (List.replicate n m)) : Kp w B s us v J told Vs Rs i n m 0 Vs[i] W := by
 have hi' : i < Rs.length := by rw [h.len]; exact hi
 have e : Rs[i] = List.replicate n m := by rw [List.getElem?_eq_getElem hi'] at rs; exact Option.some.inj rs
 have c := h.el i hi hi'
 rw [e, List.length_replicate] at c
 refine ⟨h, hi, rs, c, ?_⟩
 rcases c.2 with ⟨q, _⟩ | ⟨g, cap, cur, q, _⟩
 ·right
  intro j hj
  rw [q]
  cases Vs[j].ownBlock <;> simp [Value.ownBlock]
 ·exact Or.inl ⟨g, cap, q, q⟩
theorem Kp.below {w W W1 : World} {B : Nat} {s : Sn} {us v told l : Value} {J : List Rv} {Vs : List Value} {Rs : List (List UInt8)} {i n k : Nat} {m : UInt8} (h : Kp w B s us v J told Vs Rs i n m k l W) (hb : Below W.heap.size W W1) : Kp w B s us v J told Vs Rs i n m k l W1 := ⟨h.kt.below hb, h.hi, h.rs, own_belG h.cur hb, h.rel⟩
theorem bc_rep (n : Nat) (m : UInt8) : Lib.byteCells (List.replicate n m) = List.replicate n (.int .u8 m.toNat) := by simp [Lib.byteCells]
theorem Kp.push {w W W1 : World} {B : Nat} {s : Sn} {us v told l l' : Value} {J : List Rv} {Vs : List Value} {Rs : List (List UInt8)} {i n k : Nat} {m : UInt8} (h : Kp w B s us v J told Vs Rs i n m k l W) (hg : (∃ g cap, l = .slice (some ⟨g, 0, none⟩) (n + k) cap ∧ l' = .slice (some ⟨g, 0, none⟩) (n + k + 1) cap ∧ W1.ownsRow w.heap.size 5 1 l' (n + k + 1) (Lib.byteCells (List.replicate (n + k) m) ++ [.int .u8 m.toNat]) ∧ W.grownBy W1 (some g)) ∨ (W1.ownsRow W.heap.size 5 1 l' (n + k + 1) (Lib.byteCells (List.replicate (n + k) m) ++ [.int .u8 m.toNat]) ∧ Below W.heap.size W W1)) : Kp w B s us v J told Vs Rs i n m (k + 1) l' W1 := by
 have e0 : Lib.byteCells (List.replicate (n + k) m) ++ [.int .u8 m.toNat] = Lib.byteCells (List.replicate (n + (k + 1)) m) := by
  rw [bc_rep, bc_rep, ← Nat.add_assoc, List.replicate_succ']
 rw [e0] at hg
 have hi' : i < Rs.length := by rw [h.kt.len]; exact h.hi
 have eR : Rs[i] = List.replicate n m := by have := h.rs; rw [List.getElem?_eq_getElem hi'] at this; exact Option.some.inj this
 have hs : w.heap.size ≤ W.heap.size := by have := h.kt.kc.size; have := h.kt.kc.lo; omega
 rcases hg with ⟨g, cap, e1, e2, k1, k2⟩ | ⟨k1, k2⟩
 ·have hg' : W.grownBy W1 l.ownBlock := by rw [e1]; exact k2
  rcases h.rel with ⟨g', cap', q1, q2⟩ | q
  ·rw [e1] at q2
   have hgg : g = g' ∧ cap = cap' := by simpa using q2
   obtain ⟨rfl, rfl⟩ := hgg
   have ht := k1
   rw [e2] at ht
   have ht2 := own_take ht (n := n) (by omega)
   rw [bc_rep, List.take_replicate, Nat.min_eq_left (by omega), Nat.mul_one, ← bc_rep, ← q1] at ht2
   have hb := h.kt.byte h.hi (R := List.replicate n m) (by rw [q1]; exact k2) (by rw [List.length_replicate]; exact ht2)
   have eS : Rs.set i (List.replicate n m) = Rs := by rw [← eR]; exact List.set_getElem_self hi'
   rw [eS] at hb
   exact ⟨hb, h.hi, h.rs, k1, Or.inl ⟨g, cap, q1, e2⟩⟩
  ·refine ⟨h.kt.other h.cur q hg', h.hi, h.rs, k1, Or.inr (fun j hj => ?_)⟩
   have := q j hj
   rw [e1] at this
   rw [e2]
   exact this
 ·refine ⟨h.kt.below k2, h.hi, h.rs, own_leG k1 hs, Or.inr (fun j hj => ?_)⟩
  rcases own_atG (h.kt.el j hj (by rw [h.kt.len]; exact hj)) with q | ⟨g1, q, _, q2⟩
  ·exact Or.inl q
  ·refine Or.inr (fun c => ?_)
   rcases own_atG k1 with p | ⟨g2, p, p1, _⟩
   ·rw [p, q] at c; cases c
   ·rw [p, q] at c; cases c; omega
end Go.Proofs.YtlgfgeacphkhnaaGreatDoor
