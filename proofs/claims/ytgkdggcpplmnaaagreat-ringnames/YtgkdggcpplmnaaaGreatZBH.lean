/- WHERE A RING'S PLACES ARE. Own work of the verifier. -/
import Derived.Test.YtgkdggcpplmnaaaGreatZAI
import Derived.Deep.RegionHeld3
import Derived.Test.YtgkdggcpplmnaaaGreatZBC
import Derived.Laws.OwnMore
namespace Go.Proofs.YtgkdggcpplmnaaaGreat.Ri
open Go.RowKit Me

/-- A snapshot with the list of its values as it lies in memory. -/
abbrev Rs : Type := Sn × Value
abbrev c3 (r : Rs) : List Value := [.int .i64 r.1.p, r.2, .int .u64 (r.1.r : Int)]
abbrev sx (r : Rs) : Value := .agg #[.int .i64 r.1.p, r.2, .int .u64 (r.1.r : Int)]
def flS : List Rs → List Value
  | [] => []
  | r :: L => c3 r ++ flS L
theorem flS_length (L : List Rs) : (flS L).length = L.length * 3 := by
  induction L with
  | nil => rfl
  | cons c L ih => simp only [flS, List.length_append, List.length_cons, ih, List.length_nil]; omega
theorem flS_append (A B : List Rs) : flS (A ++ B) = flS A ++ flS B := by
  induction A with
  | nil => rfl
  | cons c A ih => simp only [List.cons_append, flS, ih, List.append_assoc]
theorem flS_get (L : List Rs) (i j : Nat) (h : i < L.length) (hj : j < 3) : (flS L)[i * 3 + j]? = (c3 L[i])[j]? := by
  induction L generalizing i with
  | nil => simp at h
  | cons c L ih =>
    cases i with
    | zero =>
      rw [flS, List.getElem?_append_left (by simp; omega)]
      simp
    | succ i =>
      rw [flS, List.getElem?_append_right (by simp; omega)]
      have := ih i (by simpa using h)
      rw [show (i + 1) * 3 + j - (c3 c).length = i * 3 + j by simp; omega]
      exact this
/-- The place of the i-th. -/
abbrev plc (k i l : Nat) : Nat := (k + i) % l
set_option maxHeartbeats 1000000 in
theorem len_any (b n cap : Nat) (ao : Option Addr) (w : World) (h : w.cell? ⟨b, 1, none⟩ = some (.slice ao n cap)) :
    Calls Tryz.prog 10 #[.pointer (some ⟨b, 0, none⟩)] w fun e w' => e = .returned (.int .i64 (n : Int)) ∧ w' = w := by
  go_enter Tryz.func10, Tryz.ntmps10
  go_wp2
  go_ret
  exact ⟨rfl, rfl⟩
theorem drew_bel1 (w : World) : Below w.heap.size w w.drew := ⟨rfl, rfl, rfl, Nat.le_refl _, fun _ _ => rfl⟩
set_option maxHeartbeats 2000000 in
theorem place_any (b n cap k i : Nat) (ao : Option Addr) (w : World) (h1 : w.cell? ⟨b, 1, none⟩ = some (.slice ao n cap)) (h3 : w.cell? ⟨b, 3, none⟩ = some (.int .i64 (k : Int))) (hn : 0 < n) (hn2 : n ≤ 256) (hk : k ≤ 256) (hi : i ≤ 256) :
    Calls Tryz.prog 23 #[.pointer (some ⟨b, 0, none⟩), .int .i64 (i : Int)] w fun e w' => e = .returned (.int .i64 (plc k i n : Nat)) ∧ Below w.heap.size w w' := by
  have HL : Hid (∀ W, W.cell? ⟨b, 1, none⟩ = some (.slice ao n cap) → Calls Tryz.prog 10 #[.pointer (some ⟨b, 0, none⟩)] W fun e w' => e = .returned (.int .i64 (n : Int)) ∧ w' = W) := fun W h => len_any b n cap ao W h
  have hz : ¬ ((n : Int) = 0) := by omega
  have hs : IntKind.i64.wrap ((k : Int) + (i : Int)) = ((k + i : Nat) : Int) := by rw [IntKind.wrap_i64]; omega
  have h1' : w.drew.cell? ⟨b, 1, none⟩ = some (.slice ao n cap) := h1
  have h3' : w.drew.cell? ⟨b, 3, none⟩ = some (.int .i64 (k : Int)) := h3
  have HB := hid_of (drew_bel1 w)
  go_enter Tryz.func23, Tryz.ntmps23
  go_wp2
  go_region_with (go_at_call 10; with_reducible refine (HL.out _ h1').mono ?_; rintro e w1 ⟨rfl, rfl⟩)

  all_goals (go_wp2; go_ret; first | exact ⟨rfl, HB.out⟩ | trace_state)
theorem size1 (W : World) : (sizeOf 2).run Tryz.prog W = .ok 1 W := by simp [sizeOf]; rfl
theorem size3 (W : World) : (sizeOf 31).run Tryz.prog W = .ok 3 W := by simp [sizeOf]; rfl
theorem index_tm (b len cap j : Nat) (z : Int) (hz : z = (j : Int)) (hj : j < len) (W : World) :
    (Instr.indexAt 47 (.slice (some ⟨b, 0, none⟩) len cap) (.int .i64 z)).run Tryz.prog W = .ok (.pointer (some ⟨b, j, none⟩)) W := by
  subst hz
  have he : Tryz.prog.elem 47 = 2 := by simp [Program.elem, Tryz.underlying47]
  rw [run_indexAt_slice W 47 ⟨b, 0, none⟩ len cap .i64 (j : Int) (by rw [he]; exact Tryz.underlying47), if_pos (by omega), he, size1]
  simp [Addr.add]
  omega
theorem index_sn (b len cap j : Nat) (z : Int) (hz : z = (j : Int)) (hj : j < len) (W : World) :
    (Instr.indexAt 48 (.slice (some ⟨b, 0, none⟩) len cap) (.int .i64 z)).run Tryz.prog W = .ok (.pointer (some ⟨b, j * 3, none⟩)) W := by
  subst hz
  have he : Tryz.prog.elem 48 = 31 := by simp [Program.elem, Tryz.underlying48]
  rw [run_indexAt_slice W 48 ⟨b, 0, none⟩ len cap .i64 (j : Int) (by rw [he]; exact Tryz.underlying48), if_pos (by omega), he, size3]
  simp [Addr.add]
  omega
/-- The cells of a ring. -/
structure Rw (b : Nat) (T : List Int) (R : List Rs) (k tg tc sg sc : Nat) (ta sa : Option Addr) (W : World) : Prop where
  c1 : W.cell? ⟨b, 1, none⟩ = some (.slice ta R.length tc)
  c2 : W.cell? ⟨b, 2, none⟩ = some (.slice sa R.length sc)
  c3 : W.cell? ⟨b, 3, none⟩ = some (.int .i64 (k : Int))
  t : ∀ i (h : i < T.length), W.cell? ⟨tg, i, none⟩ = some (.int .i64 T[i])
  s : ∀ i (h : i < R.length), W.cell? ⟨sg, i * 3, none⟩ = some (.int .i64 R[i].1.p) ∧ W.cell? ⟨sg, i * 3 + 1, none⟩ = some R[i].2 ∧ W.cell? ⟨sg, i * 3 + 2, none⟩ = some (.int .u64 (R[i].1.r : Int))
  ho : 0 < R.length → ta = some ⟨tg, 0, none⟩ ∧ sa = some ⟨sg, 0, none⟩
  hl : T.length = R.length
  hm : R.length ≤ 256
  hk : k ≤ 256
  sl : ∀ r ∈ R, ∃ a n c, r.2 = Value.slice a n c
theorem Rw.below {b k tg tc sg sc : Nat} {T : List Int} {R : List Rs} {ta sa : Option Addr} {W W1 : World} (h : Rw b T R k tg tc sg sc ta sa W) (hb : Below W.heap.size W W1) : Rw b T R k tg tc sg sc ta sa W1 :=
  ⟨cellB hb h.c1, cellB hb h.c2, cellB hb h.c3, fun i hi => cellB hb (h.t i hi), fun i hi => ⟨cellB hb (h.s i hi).1, cellB hb (h.s i hi).2.1, cellB hb (h.s i hi).2.2⟩, h.ho, h.hl, h.hm, h.hk, h.sl⟩
theorem Rw.pl {b k tg tc sg sc : Nat} {T : List Int} {R : List Rs} {ta sa : Option Addr} {W : World} (h : Rw b T R k tg tc sg sc ta sa W) (h0 : 0 < R.length) (i : Nat) (hi : i ≤ 256) : Calls Tryz.prog 23 #[.pointer (some ⟨b, 0, none⟩), .int .i64 (i : Int)] W fun e w' => e = .returned (.int .i64 (plc k i R.length : Nat)) ∧ Below W.heap.size W w' := place_any b R.length tc k i ta W h.c1 h.c3 h0 h.hm h.hk hi
def dR : Rs := (⟨0, [], 0⟩, .slice none 0 0)
theorem Rw.slD {b k tg tc sg sc : Nat} {T : List Int} {R : List Rs} {ta sa : Option Addr} {W : World} (h : Rw b T R k tg tc sg sc ta sa W) (p : Nat) : ∃ a n c, (R.getD p dR).2 = Value.slice a n c := by
  by_cases hp : p < R.length
  · simp only [List.getD, List.getElem?_eq_getElem hp, Option.getD_some]
    exact h.sl _ (List.getElem_mem hp)
  · simp only [List.getD, List.getElem?_eq_none (Nat.le_of_not_lt hp), Option.getD_none]
    exact ⟨_, _, _, rfl⟩
/-- What a round is handed. -/
def encR (T : List Int) (R : List Rs) (k i : Nat) : Array Value := #[.int .i64 (T.getD (plc k i R.length) 0), sx (R.getD (plc k i R.length) dR)]
end Go.Proofs.YtgkdggcpplmnaaaGreat.Ri
/- A RING IN MEMORY; where its places are. Own work of the verifier. -/
namespace Go.Proofs.YtgkdggcpplmnaaaGreat.Ri
open Go.RowKit Me

/-- A snapshot whose lists are all of their own, from B on. -/
def OS (B : Nat) (r : Rs) (W : World) : Prop := ∃ J : List Rv, W.ownsRow B 45 11 r.2 J.length (flV J) ∧ (∀ x ∈ J, OwnL B x.2.1 x.1.d.labels W ∧ OwnC B x.2.2 x.1.cs W) ∧ Dj J ∧ J.map (·.1) = r.1.vs
theorem OS.below {B : Nat} {r : Rs} {W W1 : World} (h : OS B r W) (hb : Below W.heap.size W W1) : OS B r W1 := by
  obtain ⟨J, h1, h2, h3, h4⟩ := h
  exact ⟨J, own_belG h1 hb, fun x hx => ⟨own_belG (h2 x hx).1 hb, own_belG (h2 x hx).2 hb⟩, h3, h4⟩
theorem OS.at_ {B : Nat} {r : Rs} {W : World} (h : OS B r W) (hB : B ≤ W.heap.size) : SnAt W r.1 (sx r) := by
  obtain ⟨J, h1, h2, h3, h4⟩ := h
  refine ⟨_, rfl, ?_⟩
  rw [← h4]
  exact GV.sv (B := B) (W0 := W) ⟨h1, Below.refl _ _, hB⟩ (fun x hx => ⟨(h2 x hx).1.slb, (h2 x hx).2.sn hB⟩)
theorem OS.of {w W : World} {r : Rs} {J : List Rv} (h : JV w r.2 J W) (hJ : J.map (·.1) = r.1.vs) : OS w.heap.size r W := ⟨J, h.g.own, h.el, h.dj, hJ⟩
theorem OS.le {B B' : Nat} {r : Rs} {W : World} (h : OS B r W) (hb : B' ≤ B) : OS B' r W := by
  obtain ⟨J, h1, h2, h3, h4⟩ := h
  exact ⟨J, own_leG h1 hb, fun x hx => ⟨own_leG (h2 x hx).1 hb, own_leG (h2 x hx).2 hb⟩, h3, h4⟩
/-- Where changes lie that no list of a snapshot feels. -/
theorem OS.chg {B : Nat} {r : Rs} {W W1 : World} {S : Nat → Prop} (h : OS B r W) (k : Chg S W W1) (hS : ∀ p, S p → ∃ cs t z, W.heap[p]? = some (.cells cs t z) ∧ t ≠ 45 ∧ t ≠ 104 ∧ t ≠ 124) : OS B r W1 := by
  obtain ⟨J, h1, h2, h3, h4⟩ := h
  refine ⟨J, k.row h1 (fun p e q => ?_), fun x hx => ⟨k.row (h2 x hx).1 (fun p e q => ?_), k.row (h2 x hx).2 (fun p e q => ?_)⟩, h3, h4⟩
  · obtain ⟨cs, t, z, g, n1, n2, n3⟩ := hS p q
    exact own_notype h1 g (fun e' => n1 e'.symm) e
  · obtain ⟨cs, t, z, g, n1, n2, n3⟩ := hS p q
    exact own_notype (h2 x hx).1 g (fun e' => n2 e'.symm) e
  · obtain ⟨cs, t, z, g, n1, n2, n3⟩ := hS p q
    exact own_notype (h2 x hx).2 g (fun e' => n3 e'.symm) e
def flT (T : List Int) : List Value := T.map fun x => .int .i64 x
/-- A RING in memory: room for n, the times T and the snapshots R as they lie, the oldest at k. -/
structure Rg (B b n : Nat) (T : List Int) (R : List Rs) (k : Nat) (tv sv : Value) (W : World) : Prop where
  hd : W.heap[b]? = some (.cells #[.int .i64 (n : Int), tv, sv, .int .i64 (k : Int)] 50 (0, 0))
  ti : W.ownsRow B 2 1 tv T.length (flT T)
  sn : W.ownsRow B 31 3 sv R.length (flS R)
  el : ∀ r ∈ R, OS B r W
  hl : T.length = R.length
  hn : R.length ≤ n
  hm : n ≤ 256
  hk : k = 0 ∨ k < R.length
  hB : B ≤ b
theorem Rg.lt {B b n k : Nat} {T : List Int} {R : List Rs} {tv sv : Value} {W : World} (h : Rg B b n T R k tv sv W) : b < W.heap.size := (Array.getElem?_eq_some_iff.1 h.hd).1
theorem Rg.below {B b n k : Nat} {T : List Int} {R : List Rs} {tv sv : Value} {W W1 : World} (h : Rg B b n T R k tv sv W) (hb : Below W.heap.size W W1) : Rg B b n T R k tv sv W1 :=
  ⟨hkN h.hd hb, own_belG h.ti hb, own_belG h.sn hb, fun r hr => (h.el r hr).below hb, h.hl, h.hn, h.hm, h.hk, h.hB⟩
theorem four_cells {W : World} {b : Nat} {x y z u : Value} {t : TypeId} (h : W.heap[b]? = some (.cells #[x, y, z, u] t (0, 0))) : W.cell? ⟨b, 0, none⟩ = some x ∧ W.cell? ⟨b, 1, none⟩ = some y ∧ W.cell? ⟨b, 2, none⟩ = some z ∧ W.cell? ⟨b, 3, none⟩ = some u ∧ ∀ i, W.frozen? ⟨b, i, none⟩ = false :=
  ⟨by simp [World.cell?, h], by simp [World.cell?, h], by simp [World.cell?, h], by simp [World.cell?, h], fun i => by simp [World.frozen?, h]⟩
/-- Its cells, one by one. -/
theorem Rg.rw {B b n k : Nat} {T : List Int} {R : List Rs} {tv sv : Value} {W : World} (h : Rg B b n T R k tv sv W) : ∃ tg tc sg sc ta sa, tv = .slice ta R.length tc ∧ sv = .slice sa R.length sc ∧ Rw b T R k tg tc sg sc ta sa W := by
  obtain ⟨ta, tg, tc, e1, h1, -⟩ := own_slice h.ti
  obtain ⟨sa, sg, sc, e2, h2, -⟩ := own_slice h.sn
  rw [h.hl] at e1 h1
  subst e1 e2
  obtain ⟨c0, c1, c2, c3, -⟩ := four_cells h.hd
  refine ⟨tg, tc, sg, sc, ta, sa, rfl, rfl, c1, c2, c3, fun i hi => ?_, fun i hi => ?_, fun q => ⟨h1 q, h2 q⟩, h.hl, Nat.le_trans h.hn h.hm, ?_, fun r hr => ?_⟩
  · have e := h1 (by have := h.hl; omega)
    have := h.ti
    rw [e, ← h.hl] at this
    rw [this.cellAt i (by omega)]
    simp [flT, hi]
  · have e := h2 (by omega)
    have := h.sn
    rw [e] at this
    refine ⟨?_, ?_, ?_⟩
    · have q := this.cellAt (i * 3) (by omega)
      have f := flS_get R i 0 hi (by omega)
      rw [Nat.add_zero] at f
      rw [q, f]
      rfl
    · rw [this.cellAt (i * 3 + 1) (by omega), flS_get R i 1 hi (by omega)]
      rfl
    · rw [this.cellAt (i * 3 + 2) (by omega), flS_get R i 2 hi (by omega)]
      rfl
  · have := h.hk
    have := h.hn
    have := h.hm
    omega
  · obtain ⟨J, k1, -⟩ := h.el r hr
    obtain ⟨a, g, c, e, -⟩ := own_slice k1
    exact ⟨a, _, c, e⟩
end Go.Proofs.YtgkdggcpplmnaaaGreat.Ri
