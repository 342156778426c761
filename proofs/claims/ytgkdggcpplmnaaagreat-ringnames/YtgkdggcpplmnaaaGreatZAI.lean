/- VALUES AND SNAPSHOTS in memory. Own work of the verifier. -/
import Derived.Test.YtgkdggcpplmnaaaGreatZAC
import Derived.Test.YtgkdggcpplmnaaaGreatZAF
import Derived.Test.YtgkdggcpplmnaaaGreatZME
import Derived.Test.YtgkdggcpplmnaaaGreatZAG
import Derived.Test.YtgkdggcpplmnaaaGreatZAH
import Derived.Test.YtgkdggcpplmnaaaGreatZOM
namespace Go.Proofs.YtgkdggcpplmnaaaGreat
open Go.RowKit Me

/-- A value of a snapshot. -/
structure Vl where
  d : La.Ds
  t : Int
  cs : List Cn
  n : Nat
  sum : Nat
  mn : Nat
  mx : Nat
/-- .. in the model's words. -/
abbrev vx (x : Vl) (lv cv : Value) : Value := .agg #[.int .i64 x.d.kind, .string ⟨x.d.name.toArray⟩, .string ⟨x.d.help.toArray⟩, lv, .int .i64 (hiOf x.t), .int .u64 (loOf x.t), cv, .int .u64 (x.n : Int), .float .f64 x.sum, .float .f64 x.mn, .float .f64 x.mx]
abbrev vc (x : Vl) (lv cv : Value) : Array Value := #[.int .i64 x.d.kind, .string ⟨x.d.name.toArray⟩, .string ⟨x.d.help.toArray⟩, lv, .int .i64 (hiOf x.t), .int .u64 (loOf x.t), cv, .int .u64 (x.n : Int), .float .f64 x.sum, .float .f64 x.mn, .float .f64 x.mx]
/-- Its numbers are words, its texts no longer than memory is. -/
structure VW (x : Vl) : Prop where
  t : InR x.t
  cs : Wc x.cs
  cl : x.cs.length ≤ 8796093022208
  n : x.n < 18446744073709551616
  sum : x.sum < 18446744073709551616
  mn : x.mn < 18446744073709551616
  mx : x.mx < 18446744073709551616
  d : La.DsS x.d
/-- A list of labels as it is handed in (an empty one may point to anywhere). -/
def SLb (W : World) (v : Value) (L : List La.Lb) : Prop := (v = .slice none 0 0 ∧ L = []) ∨ (∃ b o cap, v = .slice (some ⟨b, o, none⟩) L.length cap ∧ L.length ≤ cap ∧ cap ≤ 9223372036854775807 ∧ La.RowL W b o L) ∨ ∃ a cap, v = .slice (some a) L.length cap ∧ cap ≤ 9223372036854775807 ∧ L = []
theorem SLb.below {W W1 : World} {v : Value} {L : List La.Lb} (h : SLb W v L) (hb : Below W.heap.size W W1) : SLb W1 v L := by
  rcases h with h | ⟨b, o, cap, h1, h2, h3, hr⟩ | h
  · exact Or.inl h
  · exact Or.inr (Or.inl ⟨b, o, cap, h1, h2, h3, hr.below hb⟩)
  · exact Or.inr (Or.inr h)
theorem SLb.form {W : World} {v : Value} {L : List La.Lb} (h : SLb W v L) : ∃ ao cap, v = .slice ao L.length cap := by
  rcases h with ⟨rfl, rfl⟩ | ⟨b, o, cap, rfl, _⟩ | ⟨a, cap, rfl, _⟩
  · exact ⟨_, _, rfl⟩
  · exact ⟨_, _, rfl⟩
  · exact ⟨_, _, rfl⟩
theorem SN.form {W : World} {v : Value} {L : List Cn} (h : SN W v L) : ∃ ao cap, v = .slice ao L.length cap := by
  rcases h with ⟨rfl, rfl⟩ | ⟨a, cap, rfl, _⟩
  · exact ⟨_, _, rfl⟩
  · exact ⟨_, _, rfl⟩
theorem SLb.dsc {W : World} {v : Value} {d : La.Ds} (h : SLb W v d.labels) : La.DsC W d (.agg #[.int .i64 d.kind, .string ⟨d.name.toArray⟩, .string ⟨d.help.toArray⟩, v]) := by
  rcases h with ⟨rfl, h2⟩ | ⟨b, o, cap, rfl, h2, h3, hr⟩ | ⟨a, cap, rfl, h3, h2⟩
  · exact ⟨none, 0, 0, 0, by rw [h2]; rfl, fun k => absurd h2 k, by rw [h2]; exact Nat.le_refl _, by omega, by rw [h2]; exact fun i hi => by simp at hi⟩
  · exact ⟨_, b, o, cap, rfl, fun _ => rfl, h2, h3, hr⟩
  · exact ⟨_, 0, 0, cap, rfl, fun k => absurd h2 k, by rw [h2]; exact Nat.zero_le _, h3, by rw [h2]; exact fun i hi => by simp at hi⟩
/-- A value as it is handed in. -/
def VAt (W : World) (x : Vl) (v : Value) : Prop := ∃ lv cv, v = vx x lv cv ∧ SLb W lv x.d.labels ∧ SN W cv x.cs
theorem VAt.below {W W1 : World} {x : Vl} {v : Value} (h : VAt W x v) (hb : Below W.heap.size W W1) : VAt W1 x v := by
  obtain ⟨lv, cv, e, h1, h2⟩ := h
  exact ⟨lv, cv, e, h1.below hb, h2.below hb⟩
/-- The eleven cells of a value. -/
structure C11 (W : World) (b o : Nat) (x : Vl) (lv cv : Value) : Prop where
  c0 : W.cell? ⟨b, o, none⟩ = some (.int .i64 x.d.kind)
  c1 : W.cell? ⟨b, o + 1, none⟩ = some (.string ⟨x.d.name.toArray⟩)
  c2 : W.cell? ⟨b, o + 2, none⟩ = some (.string ⟨x.d.help.toArray⟩)
  c3 : W.cell? ⟨b, o + 3, none⟩ = some lv
  c4 : W.cell? ⟨b, o + 4, none⟩ = some (.int .i64 (hiOf x.t))
  c5 : W.cell? ⟨b, o + 5, none⟩ = some (.int .u64 (loOf x.t))
  c6 : W.cell? ⟨b, o + 6, none⟩ = some cv
  c7 : W.cell? ⟨b, o + 7, none⟩ = some (.int .u64 (x.n : Int))
  c8 : W.cell? ⟨b, o + 8, none⟩ = some (.float .f64 x.sum)
  c9 : W.cell? ⟨b, o + 9, none⟩ = some (.float .f64 x.mn)
  c10 : W.cell? ⟨b, o + 10, none⟩ = some (.float .f64 x.mx)
theorem cellB {W W' : World} {a : Addr} {u : Value} (hb : Below W.heap.size W W') (h : W.cell? a = some u) : W'.cell? a = some u := (hb.cell (p := a) (World.block_lt_of_cell? W a h)).trans h
theorem C11.below {W W1 : World} {b o : Nat} {x : Vl} {lv cv : Value} (h : C11 W b o x lv cv) (hb : Below W.heap.size W W1) : C11 W1 b o x lv cv :=
  ⟨cellB hb h.c0, cellB hb h.c1, cellB hb h.c2, cellB hb h.c3, cellB hb h.c4, cellB hb h.c5, cellB hb h.c6, cellB hb h.c7, cellB hb h.c8, cellB hb h.c9, cellB hb h.c10⟩
/-- .. in a block of its own. -/
structure B11 (W : World) (b : Nat) (x : Vl) (lv cv : Value) : Prop where
  c0 : W.cell? ⟨b, 0, none⟩ = some (.int .i64 x.d.kind)
  c1 : W.cell? ⟨b, 1, none⟩ = some (.string ⟨x.d.name.toArray⟩)
  c2 : W.cell? ⟨b, 2, none⟩ = some (.string ⟨x.d.help.toArray⟩)
  c3 : W.cell? ⟨b, 3, none⟩ = some lv
  c4 : W.cell? ⟨b, 4, none⟩ = some (.int .i64 (hiOf x.t))
  c5 : W.cell? ⟨b, 5, none⟩ = some (.int .u64 (loOf x.t))
  c6 : W.cell? ⟨b, 6, none⟩ = some cv
  c7 : W.cell? ⟨b, 7, none⟩ = some (.int .u64 (x.n : Int))
  c8 : W.cell? ⟨b, 8, none⟩ = some (.float .f64 x.sum)
  c9 : W.cell? ⟨b, 9, none⟩ = some (.float .f64 x.mn)
  c10 : W.cell? ⟨b, 10, none⟩ = some (.float .f64 x.mx)
theorem B11.below {W W1 : World} {b : Nat} {x : Vl} {lv cv : Value} (h : B11 W b x lv cv) (hb : Below W.heap.size W W1) : B11 W1 b x lv cv :=
  ⟨cellB hb h.c0, cellB hb h.c1, cellB hb h.c2, cellB hb h.c3, cellB hb h.c4, cellB hb h.c5, cellB hb h.c6, cellB hb h.c7, cellB hb h.c8, cellB hb h.c9, cellB hb h.c10⟩
/-- What is kept of a value that was handed in: its block, its lists. -/
structure KV (w : World) (b : Nat) (x : Vl) (lv cv : Value) (W : World) : Prop where
  box : B11 W b x lv cv
  l : SLb W lv x.d.labels
  c : SN W cv x.cs
  bl : Below w.heap.size w W
theorem KV.below {w W W1 : World} {b : Nat} {x : Vl} {lv cv : Value} (h : KV w b x lv cv W) (hb : Below W.heap.size W W1) : KV w b x lv cv W1 := ⟨h.box.below hb, h.l.below hb, h.c.below hb, bt h.bl hb⟩
/-- Values, one behind the other. -/
def RowV (W : World) (b o : Nat) (L : List Vl) : Prop := ∀ i (h : i < L.length), ∃ lv cv, C11 W b (o + i * 11) L[i] lv cv ∧ SLb W lv L[i].d.labels ∧ SN W cv L[i].cs
theorem RowV.below {W W1 : World} {b o : Nat} {L : List Vl} (h : RowV W b o L) (hb : Below W.heap.size W W1) : RowV W1 b o L := fun i hi => by
  obtain ⟨lv, cv, h1, h2, h3⟩ := h i hi
  exact ⟨lv, cv, h1.below hb, h2.below hb, h3.below hb⟩
/-- A list of values as it is handed in. -/
def SV (W : World) (v : Value) (L : List Vl) : Prop := (v = .slice none 0 0 ∧ L = []) ∨ ∃ b o cap, v = .slice (some ⟨b, o, none⟩) L.length cap ∧ L.length ≤ cap ∧ cap ≤ 9223372036854775807 ∧ RowV W b o L
theorem SV.below {W W1 : World} {v : Value} {L : List Vl} (h : SV W v L) (hb : Below W.heap.size W W1) : SV W1 v L := by
  rcases h with h | ⟨b, o, cap, h1, h2, h3, hr⟩
  · exact Or.inl h
  · exact Or.inr ⟨b, o, cap, h1, h2, h3, hr.below hb⟩
theorem SV.open {W : World} {v : Value} {L : List Vl} (h : SV W v L) : ∃ ao b o cap, v = .slice ao L.length cap ∧ (L ≠ [] → ao = some ⟨b, o, none⟩) ∧ L.length ≤ cap ∧ cap ≤ 9223372036854775807 ∧ RowV W b o L := by
  rcases h with ⟨rfl, rfl⟩ | ⟨b, o, cap, rfl, h2, h3, hr⟩
  · exact ⟨none, 0, 0, 0, rfl, fun k => absurd rfl k, Nat.le_refl _, by omega, fun i hi => by simp at hi⟩
  · exact ⟨_, b, o, cap, rfl, fun _ => rfl, h2, h3, hr⟩
/-- A snapshot. -/
structure Sn where
  p : Int
  vs : List Vl
  r : Nat
def SnAt (W : World) (s : Sn) (v : Value) : Prop := ∃ u, v = .agg #[.int .i64 s.p, u, .int .u64 (s.r : Int)] ∧ SV W u s.vs
theorem SnAt.below {W W1 : World} {s : Sn} {v : Value} (h : SnAt W s v) (hb : Below W.heap.size W W1) : SnAt W1 s v := by
  obtain ⟨u, e, h1⟩ := h
  exact ⟨u, e, h1.below hb⟩
structure SnW (s : Sn) : Prop where
  vs : ∀ x ∈ s.vs, VW x
  r : s.r < 18446744073709551616
theorem newB11 (w : World) (x : Vl) (lv cv : Value) (t : TypeId) : B11 (w.alloc (.cells (vc x lv cv) t)) w.heap.size x lv cv := by
  constructor <;> simp [go_sem]
theorem KV.new {w : World} {x : Vl} {lv cv : Value} (hl : SLb w lv x.d.labels) (hc : SN w cv x.cs) (t : TypeId) : KV w w.heap.size x lv cv (w.alloc (.cells (vc x lv cv) t)) := ⟨newB11 w x lv cv t, hl.below (bel1 _ _), hc.below (bel1 _ _), bel1 _ _⟩
/-- Two of them, one behind the other. -/
theorem KV.new2 {w : World} {x y : Vl} {lv cv lw cw : Value} (hl : SLb w lv x.d.labels) (hc : SN w cv x.cs) (hl' : SLb w lw y.d.labels) (hc' : SN w cw y.cs) (t : TypeId) :
    KV w w.heap.size x lv cv ((w.alloc (.cells (vc x lv cv) t)).alloc (.cells (vc y lw cw) t)) ∧ KV w (w.heap.size + 1) y lw cw ((w.alloc (.cells (vc x lv cv) t)).alloc (.cells (vc y lw cw) t)) := by
  have h1 := KV.new hl hc t
  refine ⟨h1.below (bel1 _ _), ?_⟩
  have h2 := newB11 (w.alloc (.cells (vc x lv cv) t)) y lw cw t
  rw [show (w.alloc (.cells (vc x lv cv) t)).heap.size = w.heap.size + 1 by simp] at h2
  exact ⟨h2, hl'.below (bel2 _ _ _), hc'.below (bel2 _ _ _), bel2 _ _ _⟩
theorem bel_drewNB {B : Nat} {a w : World} (h : Below B a w) (n : Nat) : Below B a (w.drewN n) := by
  induction n with
  | zero => exact h
  | succ n ih => exact ⟨ih.os, ih.tape, ih.output, ih.size, ih.block⟩
end Go.Proofs.YtgkdggcpplmnaaaGreat
