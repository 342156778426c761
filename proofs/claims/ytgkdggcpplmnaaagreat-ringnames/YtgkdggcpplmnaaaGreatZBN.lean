/- WINDOWS: what they tell, and what they hold on to. Own work of the verifier. -/
import Derived.Test.YtgkdggcpplmnaaaGreatZBH
import Derived.Test.YtgkdggcpplmnaaaGreatZBL
import Derived.Test.YtgkdggcpplmnaaaGreatZBM
namespace Go.Proofs.YtgkdggcpplmnaaaGreat.Ri
open Go.RowKit Go.Shelf Me

/-- What comes of the first j, the oldest first, and the last merging's error. -/
noncomputable def wst (L : List Rs) : Nat → Sn × Int
  | 0 => (zS, 0)
  | 1 => ((L.getD 0 dR).1, 0)
  | j + 2 => mgS (wst L (j + 1)).1 (L.getD (j + 1) dR).1
def OkTo (L : List Rs) (j : Nat) : Prop := ∀ i, i ≤ j → (wst L i).2 = 0
abbrev zAgg : Value := .agg #[.int .i64 0, .slice none 0 0, .int .u64 0]
/-- WHAT WINDOW TELLS. -/
def WnQ (w : World) (L : List Rs) (e : Ending) (w' : World) : Prop := Below w.heap.size w w' ∧
  ((L = [] ∧ e = .returned (.tuple #[zAgg, .int .i64 0, .int .i64 16])) ∨
   (L ≠ [] ∧ OkTo L L.length ∧ ∃ u, e = .returned (.tuple #[sx ((wst L L.length).1, u), .int .i64 (L.length : Int), .int .i64 0]) ∧ OS w.heap.size ((wst L L.length).1, u) w') ∨
   ∃ j, j < L.length ∧ OkTo L j ∧ (wst L (j + 1)).2 ≠ 0 ∧ e = .returned (.tuple #[zAgg, .int .i64 0, .int .i64 (wst L (j + 1)).2]))
theorem OS.tn {B B' : Nat} {r : Rs} {W W1 : World} (h : OS B r W) (hb : Tn B' W W1) : OS B r W1 := by
  obtain ⟨J, h1, h2, h3, h4⟩ := h
  exact ⟨J, hb.row h1, fun x hx => ⟨hb.row (h2 x hx).1, hb.row (h2 x hx).2⟩, h3, h4⟩
theorem OS.set {B b i : Nat} {r : Rs} {W : World} (h : OS B r W) (hb : b < B) (u : Value) : OS B r (W.setCell ⟨b, i, none⟩ u) := by
  obtain ⟨J, h1, h2, h3, h4⟩ := h
  exact ⟨J, own_set h1 (own_ne h1 hb) u, fun x hx => ⟨own_set (h2 x hx).1 (own_ne (h2 x hx).1 hb) u, own_set (h2 x hx).2 (own_ne (h2 x hx).2 hb) u⟩, h3, h4⟩
theorem OS.put3 {B b : Nat} {r : Rs} {W : World} (h : OS B r W) (hb : b < B) (x y z : Value) : OS B r (put3 W b x y z) := ((h.set (i := 0) hb x).set (i := 1) hb y).set (i := 2) hb z
theorem OS.zero (B : Nat) (W : World) : OS B (zS, .slice none 0 0) W := ⟨[], World.ownsRow_nil _ _ _ _, (fun x hx => by cases hx), Dj.nil, rfl⟩
theorem OS.form {B : Nat} {r : Rs} {W : World} (h : OS B r W) : ∃ a c, r.2 = Value.slice a r.1.vs.length c := by
  obtain ⟨J, h1, h2, h3, h4⟩ := h
  obtain ⟨a, g, c, e, -⟩ := own_slice h1
  refine ⟨a, c, ?_⟩
  rw [e, ← h4, List.length_map]
/-- What Window holds on to. -/
structure Ww (w : World) (s : Sn) (v : Value) (j : Nat) (W : World) : Prop where
  g0 : W.heap[w.heap.size]? = some (.cells #[.int .i64 0, .slice none 0 0, .int .u64 0] 31 (0, 0))
  g1 : W.heap[w.heap.size + 1]? = some (.cells #[.int .i64 0] 3 (0, 0))
  g2 : W.heap[w.heap.size + 2]? = some (.cells #[.int .i64 0] 24 (0, 0))
  g3 : W.heap[w.heap.size + 3]? = some (.cells #[.int .i64 s.p, v, .int .u64 (s.r : Int)] 31 (0, 0))
  g4 : W.heap[w.heap.size + 4]? = some (.cells #[.int .i64 (j : Int)] 3 (0, 0))
  os : OS (w.heap.size + 5) (s, v) W
  bl : Below w.heap.size w W
theorem Ww.size {w W : World} {s : Sn} {v : Value} {j : Nat} (h : Ww w s v j W) : w.heap.size + 5 ≤ W.heap.size := (Array.getElem?_eq_some_iff.1 h.g4).1
theorem Ww.tn {w W W1 : World} {s : Sn} {v : Value} {j B : Nat} (h : Ww w s v j W) (hb : Tn B W W1) (hB : w.heap.size ≤ B) : Ww w s v j W1 :=
  ⟨hb.cells h.g0, hb.cells h.g1, hb.cells h.g2, hb.cells h.g3, hb.cells h.g4, h.os.tn hb, h.bl.trans ((hb.mono hB).below (by have := h.size; omega))⟩
theorem Ww.below {w W W1 : World} {s : Sn} {v : Value} {j : Nat} (h : Ww w s v j W) (hb : Below W.heap.size W W1) : Ww w s v j W1 := h.tn (B := W.heap.size) (Tn.of hb) (by have := h.size; omega)
theorem Ww.num {w W : World} {s : Sn} {v : Value} {j : Nat} (h : Ww w s v j W) (k : Nat) : Ww w s v k (W.setCell ⟨w.heap.size + 4, 0, none⟩ (.int .i64 (k : Int))) := by
  refine ⟨?_, ?_, ?_, ?_, ?_, h.os.set (by omega) _, Below.setCell (p := ⟨w.heap.size + 4, 0, none⟩) h.bl (by show w.heap.size ≤ w.heap.size + 4; omega) _⟩
  · rw [heap_other _ _ _ _ (by show _ ≠ w.heap.size + 4; omega)]; exact h.g0
  · rw [heap_other _ _ _ _ (by show _ ≠ w.heap.size + 4; omega)]; exact h.g1
  · rw [heap_other _ _ _ _ (by show _ ≠ w.heap.size + 4; omega)]; exact h.g2
  · rw [heap_other _ _ _ _ (by show _ ≠ w.heap.size + 4; omega)]; exact h.g3
  · rw [heap_setCell_same _ _ 0 _ _ _ h.g4]; rfl
theorem put3_other {W : World} {b k : Nat} (h : k ≠ b) (x y z : Value) : (put3 W b x y z).heap[k]? = W.heap[k]? := by
  unfold put3
  rw [heap_other _ _ _ _ h, heap_other _ _ _ _ h, heap_other _ _ _ _ h]
/-- The merged one is another one. -/
theorem Ww.put {w W W1 : World} {s s' : Sn} {v v' : Value} {j : Nat} (h : Ww w s v j W) (hb : Below W.heap.size W W1) (ho : OS W.heap.size (s', v') W1) : Ww w s' v' j (put3 W1 (w.heap.size + 3) (.int .i64 s'.p) v' (.int .u64 (s'.r : Int))) := by
  have k := h.below hb
  refine ⟨?_, ?_, ?_, ?_, ?_, (ho.le h.size).put3 (by omega) _ _ _, put3_bel k.bl (by omega) _ _ _⟩
  · rw [put3_other (by omega)]; exact k.g0
  · rw [put3_other (by omega)]; exact k.g1
  · rw [put3_other (by omega)]; exact k.g2
  · exact set_three k.g3
  · rw [put3_other (by omega)]; exact k.g4
theorem mid_put3 {n0 B b : Nat} {a W : World} (h : Mid n0 B a W) (h1 : n0 ≤ b) (h2 : b < B) (x y z : Value) : Mid n0 B a (put3 W b x y z) := ((h.setCell (p := ⟨b, 0, none⟩) (.inl ⟨h1, h2⟩) x).setCell (p := ⟨b, 1, none⟩) (.inl ⟨h1, h2⟩) y).setCell (p := ⟨b, 2, none⟩) (.inl ⟨h1, h2⟩) z
theorem box1 {W : World} {b : Nat} {x : Value} {t : TypeId} (h : W.heap[b]? = some (.cells #[x] t (0, 0))) : W.cell? ⟨b, 0, none⟩ = some x ∧ W.frozen? ⟨b, 0, none⟩ = false := ⟨by simp [World.cell?, h], by simp [World.frozen?, h]⟩
/-- The results of a Merge that is refused. -/
structure Wx (w : World) (e : Int) (W : World) : Prop where
  g0 : W.heap[w.heap.size]? = some (.cells #[.int .i64 0, .slice none 0 0, .int .u64 0] 31 (0, 0))
  g1 : W.heap[w.heap.size + 1]? = some (.cells #[.int .i64 0] 3 (0, 0))
  g2 : W.heap[w.heap.size + 2]? = some (.cells #[.int .i64 e] 24 (0, 0))
  bl : Below w.heap.size w W
theorem Wx.tn {w W W1 : World} {e : Int} {B : Nat} (h : Wx w e W) (hb : Tn B W W1) (hB : w.heap.size ≤ B) : Wx w e W1 :=
  ⟨hb.cells h.g0, hb.cells h.g1, hb.cells h.g2, h.bl.trans ((hb.mono hB).below (by have := (Array.getElem?_eq_some_iff.1 h.g0).1; omega))⟩
set_option maxHeartbeats 1000000 in
theorem between_in (m b : Nat) (fr tO : Int) (w : World) : CallsIn Fence.wide m Tryz.prog 16 #[.pointer (some ⟨b, 0, none⟩), .int .i64 fr, .int .i64 tO] w fun e w' => e = .returned (.func (.func 27) #[] #[.pointer (some ⟨w.heap.size, 0, none⟩), .pointer (some ⟨w.heap.size + 1, 0, none⟩), .pointer (some ⟨w.heap.size + 2, 0, none⟩)]) ∧ w' = ((w.alloc (.cells #[.pointer (some ⟨b, 0, none⟩)] 23)).alloc (.cells #[.int .i64 fr] 2)).alloc (.cells #[.int .i64 tO] 2) := by
  refine callsIn_of_wp Tryz.func16 rfl trivial ?_ rfl
  simp only [Tryz.ntmps16, List.size_toArray, List.length_cons, List.length_nil, Nat.reduceAdd, Nat.reduceSub, Array.replicate_succ, Array.replicate_zero, List.push_toArray, List.append_toArray, List.nil_append, List.cons_append]
  gi_wp2
  go_ret
  exact ⟨rfl, rfl⟩
end Go.Proofs.YtgkdggcpplmnaaaGreat.Ri
