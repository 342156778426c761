/- BLOCKS OF VALUES, COPIES. Own work of the verifier. -/
import Derived.Test.YtgkdggcpplmnaaaGreatZAU
namespace Go.Proofs.YtgkdggcpplmnaaaGreat
open Go.RowKit Me

theorem hid_fr {W : World} {b : Nat} {c : Array Value} {t : TypeId} (h : Hid (W.heap[b]? = some (.cells c t (0, 0)))) (o : Nat) : W.frozen? ⟨b, o, none⟩ = false := by unfold Hid at h; simp [World.frozen?, h]
theorem eleven_cells {W : World} {b : Nat} {u0 u1 u2 u3 u4 u5 u6 u7 u8 u9 u10 : Value} {t : TypeId} (h : Hid (W.heap[b]? = some (.cells #[u0, u1, u2, u3, u4, u5, u6, u7, u8, u9, u10] t (0, 0)))) : W.cell? ⟨b, 0, none⟩ = some u0 ∧ W.cell? ⟨b, 1, none⟩ = some u1 ∧ W.cell? ⟨b, 2, none⟩ = some u2 ∧ W.cell? ⟨b, 3, none⟩ = some u3 ∧ W.cell? ⟨b, 4, none⟩ = some u4 ∧ W.cell? ⟨b, 5, none⟩ = some u5 ∧ W.cell? ⟨b, 6, none⟩ = some u6 ∧ W.cell? ⟨b, 7, none⟩ = some u7 ∧ W.cell? ⟨b, 8, none⟩ = some u8 ∧ W.cell? ⟨b, 9, none⟩ = some u9 ∧ W.cell? ⟨b, 10, none⟩ = some u10 := by
  unfold Hid at h; simp [World.cell?, h]
theorem eleven_fr {W : World} {b : Nat} {u0 u1 u2 u3 u4 u5 u6 u7 u8 u9 u10 : Value} {t : TypeId} (h : Hid (W.heap[b]? = some (.cells #[u0, u1, u2, u3, u4, u5, u6, u7, u8, u9, u10] t (0, 0)))) : W.frozen? ⟨b, 0, none⟩ = false ∧ W.frozen? ⟨b, 1, none⟩ = false ∧ W.frozen? ⟨b, 2, none⟩ = false ∧ W.frozen? ⟨b, 3, none⟩ = false ∧ W.frozen? ⟨b, 4, none⟩ = false ∧ W.frozen? ⟨b, 5, none⟩ = false ∧ W.frozen? ⟨b, 6, none⟩ = false ∧ W.frozen? ⟨b, 7, none⟩ = false ∧ W.frozen? ⟨b, 8, none⟩ = false ∧ W.frozen? ⟨b, 9, none⟩ = false ∧ W.frozen? ⟨b, 10, none⟩ = false :=
  ⟨hid_fr h 0, hid_fr h 1, hid_fr h 2, hid_fr h 3, hid_fr h 4, hid_fr h 5, hid_fr h 6, hid_fr h 7, hid_fr h 8, hid_fr h 9, hid_fr h 10⟩
def put11 (W : World) (b : Nat) (v0 v1 v2 v3 v4 v5 v6 v7 v8 v9 v10 : Value) : World := ((((((((((W.setCell ⟨b, 0, none⟩ v0).setCell ⟨b, 1, none⟩ v1).setCell ⟨b, 2, none⟩ v2).setCell ⟨b, 3, none⟩ v3).setCell ⟨b, 4, none⟩ v4).setCell ⟨b, 5, none⟩ v5).setCell ⟨b, 6, none⟩ v6).setCell ⟨b, 7, none⟩ v7).setCell ⟨b, 8, none⟩ v8).setCell ⟨b, 9, none⟩ v9).setCell ⟨b, 10, none⟩ v10
theorem put11_eq (W : World) (b : Nat) (v0 v1 v2 v3 v4 v5 v6 v7 v8 v9 v10 : Value) : ((((((((((W.setCell ⟨b, 0, none⟩ v0).setCell ⟨b, 1, none⟩ v1).setCell ⟨b, 2, none⟩ v2).setCell ⟨b, 3, none⟩ v3).setCell ⟨b, 4, none⟩ v4).setCell ⟨b, 5, none⟩ v5).setCell ⟨b, 6, none⟩ v6).setCell ⟨b, 7, none⟩ v7).setCell ⟨b, 8, none⟩ v8).setCell ⟨b, 9, none⟩ v9).setCell ⟨b, 10, none⟩ v10 = put11 W b v0 v1 v2 v3 v4 v5 v6 v7 v8 v9 v10 := rfl
set_option maxHeartbeats 8000000 in
theorem set_eleven {W : World} {b : Nat} {u0 u1 u2 u3 u4 u5 u6 u7 u8 u9 u10 v0 v1 v2 v3 v4 v5 v6 v7 v8 v9 v10 : Value} {t : TypeId} (h : W.heap[b]? = some (.cells #[u0, u1, u2, u3, u4, u5, u6, u7, u8, u9, u10] t (0, 0))) : (put11 W b v0 v1 v2 v3 v4 v5 v6 v7 v8 v9 v10).heap[b]? = some (.cells #[v0, v1, v2, v3, v4, v5, v6, v7, v8, v9, v10] t (0, 0)) := by
  have h1 : (W.setCell ⟨b, 0, none⟩ v0).heap[b]? = some (.cells #[v0, u1, u2, u3, u4, u5, u6, u7, u8, u9, u10] t (0, 0)) := by rw [heap_setCell_same _ b 0 _ _ _ h]; rfl
  have h2 : ((W.setCell ⟨b, 0, none⟩ v0).setCell ⟨b, 1, none⟩ v1).heap[b]? = some (.cells #[v0, v1, u2, u3, u4, u5, u6, u7, u8, u9, u10] t (0, 0)) := by rw [heap_setCell_same _ b 1 _ _ _ h1]; rfl
  have h3 : (((W.setCell ⟨b, 0, none⟩ v0).setCell ⟨b, 1, none⟩ v1).setCell ⟨b, 2, none⟩ v2).heap[b]? = some (.cells #[v0, v1, v2, u3, u4, u5, u6, u7, u8, u9, u10] t (0, 0)) := by rw [heap_setCell_same _ b 2 _ _ _ h2]; rfl
  have h4 : ((((W.setCell ⟨b, 0, none⟩ v0).setCell ⟨b, 1, none⟩ v1).setCell ⟨b, 2, none⟩ v2).setCell ⟨b, 3, none⟩ v3).heap[b]? = some (.cells #[v0, v1, v2, v3, u4, u5, u6, u7, u8, u9, u10] t (0, 0)) := by rw [heap_setCell_same _ b 3 _ _ _ h3]; rfl
  have h5 : (((((W.setCell ⟨b, 0, none⟩ v0).setCell ⟨b, 1, none⟩ v1).setCell ⟨b, 2, none⟩ v2).setCell ⟨b, 3, none⟩ v3).setCell ⟨b, 4, none⟩ v4).heap[b]? = some (.cells #[v0, v1, v2, v3, v4, u5, u6, u7, u8, u9, u10] t (0, 0)) := by rw [heap_setCell_same _ b 4 _ _ _ h4]; rfl
  have h6 : ((((((W.setCell ⟨b, 0, none⟩ v0).setCell ⟨b, 1, none⟩ v1).setCell ⟨b, 2, none⟩ v2).setCell ⟨b, 3, none⟩ v3).setCell ⟨b, 4, none⟩ v4).setCell ⟨b, 5, none⟩ v5).heap[b]? = some (.cells #[v0, v1, v2, v3, v4, v5, u6, u7, u8, u9, u10] t (0, 0)) := by rw [heap_setCell_same _ b 5 _ _ _ h5]; rfl
  have h7 : (((((((W.setCell ⟨b, 0, none⟩ v0).setCell ⟨b, 1, none⟩ v1).setCell ⟨b, 2, none⟩ v2).setCell ⟨b, 3, none⟩ v3).setCell ⟨b, 4, none⟩ v4).setCell ⟨b, 5, none⟩ v5).setCell ⟨b, 6, none⟩ v6).heap[b]? = some (.cells #[v0, v1, v2, v3, v4, v5, v6, u7, u8, u9, u10] t (0, 0)) := by rw [heap_setCell_same _ b 6 _ _ _ h6]; rfl
  have h8 : ((((((((W.setCell ⟨b, 0, none⟩ v0).setCell ⟨b, 1, none⟩ v1).setCell ⟨b, 2, none⟩ v2).setCell ⟨b, 3, none⟩ v3).setCell ⟨b, 4, none⟩ v4).setCell ⟨b, 5, none⟩ v5).setCell ⟨b, 6, none⟩ v6).setCell ⟨b, 7, none⟩ v7).heap[b]? = some (.cells #[v0, v1, v2, v3, v4, v5, v6, v7, u8, u9, u10] t (0, 0)) := by rw [heap_setCell_same _ b 7 _ _ _ h7]; rfl
  have h9 : (((((((((W.setCell ⟨b, 0, none⟩ v0).setCell ⟨b, 1, none⟩ v1).setCell ⟨b, 2, none⟩ v2).setCell ⟨b, 3, none⟩ v3).setCell ⟨b, 4, none⟩ v4).setCell ⟨b, 5, none⟩ v5).setCell ⟨b, 6, none⟩ v6).setCell ⟨b, 7, none⟩ v7).setCell ⟨b, 8, none⟩ v8).heap[b]? = some (.cells #[v0, v1, v2, v3, v4, v5, v6, v7, v8, u9, u10] t (0, 0)) := by rw [heap_setCell_same _ b 8 _ _ _ h8]; rfl
  have h10 : ((((((((((W.setCell ⟨b, 0, none⟩ v0).setCell ⟨b, 1, none⟩ v1).setCell ⟨b, 2, none⟩ v2).setCell ⟨b, 3, none⟩ v3).setCell ⟨b, 4, none⟩ v4).setCell ⟨b, 5, none⟩ v5).setCell ⟨b, 6, none⟩ v6).setCell ⟨b, 7, none⟩ v7).setCell ⟨b, 8, none⟩ v8).setCell ⟨b, 9, none⟩ v9).heap[b]? = some (.cells #[v0, v1, v2, v3, v4, v5, v6, v7, v8, v9, u10] t (0, 0)) := by rw [heap_setCell_same _ b 9 _ _ _ h9]; rfl
  have h11 : (((((((((((W.setCell ⟨b, 0, none⟩ v0).setCell ⟨b, 1, none⟩ v1).setCell ⟨b, 2, none⟩ v2).setCell ⟨b, 3, none⟩ v3).setCell ⟨b, 4, none⟩ v4).setCell ⟨b, 5, none⟩ v5).setCell ⟨b, 6, none⟩ v6).setCell ⟨b, 7, none⟩ v7).setCell ⟨b, 8, none⟩ v8).setCell ⟨b, 9, none⟩ v9).setCell ⟨b, 10, none⟩ v10).heap[b]? = some (.cells #[v0, v1, v2, v3, v4, v5, v6, v7, v8, v9, v10] t (0, 0)) := by rw [heap_setCell_same _ b 10 _ _ _ h10]; rfl
  exact h11
def flL : List La.Lb → List Value
  | [] => []
  | c :: L => .string ⟨c.1.toArray⟩ :: .string ⟨c.2.toArray⟩ :: flL L
theorem flL_length (L : List La.Lb) : (flL L).length = L.length * 2 := by
  induction L with
  | nil => rfl
  | cons c L ih => simp only [flL, List.length_cons, ih]; omega
theorem flL_get (L : List La.Lb) (i : Nat) (h : i < L.length) : (flL L)[i * 2]? = some (.string ⟨L[i].1.toArray⟩) ∧ (flL L)[i * 2 + 1]? = some (.string ⟨L[i].2.toArray⟩) := by
  induction L generalizing i with
  | nil => simp at h
  | cons c L ih =>
    cases i with
    | zero => exact ⟨rfl, rfl⟩
    | succ i =>
      have := ih i (by simpa using h)
      rw [show (i + 1) * 2 = i * 2 + 2 by omega]
      simpa [flL] using this
theorem flL_one (L : List La.Lb) : ∀ u ∈ flL L, u.oneCell' = true := by
  induction L with
  | nil => intro u hu; cases hu
  | cons c L ih =>
    intro u hu
    simp only [flL, List.mem_cons] at hu
    rcases hu with rfl | rfl | h
    · rfl
    · rfl
    · exact ih u h
theorem infoLabel : (Tryz.prog.info? 104).map (fun i => (i.zero, i.size, i.bytes)) = some (some (.agg #[.string ⟨#[]⟩, .string ⟨#[]⟩]), 2, 32) := by kernel_rfl
theorem rowL_cells {w : World} {b o : Nat} {L : List La.Lb} (h : La.RowL w b o L) (j : Nat) (u : Value) (hu : (flL L)[j]? = some u) : w.cell? ((⟨b, o, none⟩ : Addr).add j) = some u := by
  have hj : j < (flL L).length := by
    rcases Nat.lt_or_ge j (flL L).length with c | c
    · exact c
    · rw [List.getElem?_eq_none c] at hu; cases hu
  rw [flL_length] at hj
  have hi : j / 2 < L.length := by omega
  obtain ⟨g1, g2⟩ := flL_get L (j / 2) hi
  obtain ⟨h1, h2⟩ := h (j / 2) hi
  rw [Addr.add_lit]
  rcases Nat.mod_two_eq_zero_or_one j with e | e
  · rw [show j / 2 * 2 = j by omega] at g1 h1
    rw [g1] at hu
    cases hu
    exact h1
  · rw [show j / 2 * 2 + 1 = j by omega] at g2
    rw [show o + j / 2 * 2 + 1 = o + j by omega] at h2
    rw [g2] at hu
    cases hu
    exact h2
theorem store_f (W : World) (a : Addr) (x : Nat) (m : Mode) : (store a (.float .f64 x) m).run Tryz.prog W = stored Tryz.prog W a (.float .f64 x) m := run_store Tryz.prog W a _ m rfl
/-- Labels, counts in a row of the call's own. -/
def OwnL (B : Nat) (v : Value) (L : List La.Lb) (W : World) : Prop := W.ownsRow B 104 2 v L.length (flL L)
def OwnC (B : Nat) (v : Value) (L : List Cn) (W : World) : Prop := W.ownsRow B 124 2 v L.length (fl L)
theorem OwnL.slb {B : Nat} {v : Value} {L : List La.Lb} {W : World} (h : OwnL B v L W) : SLb W v L := by
  rcases h.2 with ⟨h1, h2⟩ | ⟨g, cap, cur, hv, hg, hh, h3, h4, h5, h6⟩
  · exact Or.inl ⟨h1, List.length_eq_zero_iff.1 h2⟩
  · refine Or.inr (Or.inl ⟨g, 0, cap, hv, h3, by unfold maxLen at h4; omega, fun i hi => ?_⟩)
    obtain ⟨e1, e2⟩ := flL_get L i hi
    rw [← h6, List.getElem?_take, if_pos (by omega)] at e1
    rw [← h6, List.getElem?_take, if_pos (by omega)] at e2
    rw [Array.getElem?_toList] at e1 e2
    constructor
    · show W.cell? ⟨g, 0 + i * 2, none⟩ = _
      rw [Nat.zero_add]
      simp [World.cell?, hh, e1]
    · show W.cell? ⟨g, 0 + i * 2 + 1, none⟩ = _
      rw [Nat.zero_add]
      simp [World.cell?, hh, e2]
theorem OwnC.sn {B : Nat} {v : Value} {L : List Cn} {W : World} (h : OwnC B v L W) (hB : B ≤ W.heap.size) : SN W v L := GC.sn (B := B) (W0 := W) ⟨h, ⟨rfl, rfl, rfl, Nat.le_refl _, fun _ _ => rfl⟩, hB⟩
/-- append(nil, v...): a copy. -/
theorem run_copyL {w : World} {v : Value} {L : List La.Lb} (h : SLb w v L) (hl : L.length ≤ 1048576) (ty : TypeId) :
    ∃ v' w', (Builtin.append_ #[40, 40] ty #[.slice none 0 0, v]).run Tryz.prog w = .ok v' w' ∧ (OwnL w.heap.size v' L w' ∧ Below w.heap.size w w') := by
  obtain ⟨i0, hi, hz0, hz1, hz2⟩ := info_parts infoLabel
  have key : ∀ (a : Addr) (cap : Nat), v = .slice (some a) L.length cap → (∀ j u, (flL L)[j]? = some u → w.cell? (a.add j) = some u) → ∃ v' w', (Builtin.append_ #[40, 40] ty #[.slice none 0 0, v]).run Tryz.prog w = .ok v' w' ∧ (OwnL w.heap.size v' L w' ∧ Below w.heap.size w w') := fun a cap hv hr => by
    subst hv
    obtain ⟨v', w', k1, k2, k3, _⟩ := run_append_own (P := Tryz.prog) w w.heap.size 40 ty 104 i0 (.agg #[.string ⟨#[]⟩, .string ⟨#[]⟩]) 2 32 Tryz.underlying40 hi hz0 hz1 hz2 rfl (by decide) (.slice none 0 0) 0 [] (World.ownsRow_nil _ _ _ _) a L.length cap (flL L) (flL_length L) hr (flL_one L) (by unfold maxLen; omega) (by omega) (Nat.le_refl _)
    exact ⟨v', w', k1, by unfold OwnL; simpa using k2, ⟨k3.os, k3.tape, k3.output, k3.size, fun k hk => k3.block k hk (by simp [Value.ownBlock])⟩⟩
  rcases h with ⟨rfl, rfl⟩ | ⟨b, o, cap, hv, _, _, hr⟩ | ⟨a, cap, hv, _, hL⟩
  · refine ⟨.slice none 0 0, w, ?_, World.ownsRow_nil _ _ _ _, Below.refl _ _⟩
    simp [Builtin.append_, run_underlying Tryz.underlying40, sizeOf, typeInfo, zeroValue, hi, hz0, Builtin.lenOf, run_firstCells_none]
  · exact key ⟨b, o, none⟩ cap hv (rowL_cells hr)
  · exact key a cap hv (fun j u hu => by rw [hL] at hu; simp [flL] at hu)
theorem run_copyC {w : World} {v : Value} {L : List Cn} (h : SN w v L) (hl : L.length ≤ 1048576) (ty : TypeId) :
    ∃ v' w', (Builtin.append_ #[43, 43] ty #[.slice none 0 0, v]).run Tryz.prog w = .ok v' w' ∧ (OwnC w.heap.size v' L w' ∧ Below w.heap.size w w') := by
  obtain ⟨i0, hi, hz0, hz1, hz2⟩ := info_parts infoC
  rcases h with ⟨rfl, rfl⟩ | ⟨a, cap, rfl, _, hr⟩
  · refine ⟨.slice none 0 0, w, ?_, World.ownsRow_nil _ _ _ _, Below.refl _ _⟩
    simp [Builtin.append_, run_underlying Tryz.underlying43, sizeOf, typeInfo, zeroValue, hi, hz0, Builtin.lenOf, run_firstCells_none]
  · obtain ⟨v', w', k1, k2, k3, _⟩ := run_append_own (P := Tryz.prog) w w.heap.size 43 ty 124 i0 (.agg #[.int .i64 0, .int .u64 0]) 2 16 Tryz.underlying43 hi hz0 hz1 hz2 rfl (by decide) (.slice none 0 0) 0 [] (World.ownsRow_nil _ _ _ _) a L.length cap (fl L) (fl_length L) hr (fl_one L) (by unfold maxLen; omega) (by omega) (Nat.le_refl _)
    refine ⟨v', w', k1, by unfold OwnC; simpa using k2, ⟨k3.os, k3.tape, k3.output, k3.size, fun k hk => k3.block k hk (by simp [Value.ownBlock])⟩⟩
theorem put11_bel {a W : World} {B b : Nat} (h : Below B a W) (hb : B ≤ b) (v0 v1 v2 v3 v4 v5 v6 v7 v8 v9 v10 : Value) : Below B a (put11 W b v0 v1 v2 v3 v4 v5 v6 v7 v8 v9 v10) := by
  unfold put11
  exact ((((((((((h.setCell (p := ⟨b, 0, none⟩) hb _).setCell (p := ⟨b, 1, none⟩) hb _).setCell (p := ⟨b, 2, none⟩) hb _).setCell (p := ⟨b, 3, none⟩) hb _).setCell (p := ⟨b, 4, none⟩) hb _).setCell (p := ⟨b, 5, none⟩) hb _).setCell (p := ⟨b, 6, none⟩) hb _).setCell (p := ⟨b, 7, none⟩) hb _).setCell (p := ⟨b, 8, none⟩) hb _).setCell (p := ⟨b, 9, none⟩) hb _).setCell (p := ⟨b, 10, none⟩) hb _
theorem own_set {W : World} {B : Nat} {e : TypeId} {s n : Nat} {v : Value} {xs : List Value} (h : W.ownsRow B e s v n xs) {a : Addr} (ha : v.ownBlock ≠ some a.block) (u : Value) : (W.setCell a u).ownsRow B e s v n xs := by
  refine ⟨h.1, ?_⟩
  rcases h.2 with k | ⟨g, cap, cur, hv, hg, hh, r⟩
  · exact Or.inl k
  · exact Or.inr ⟨g, cap, cur, hv, hg, by rw [Below.heap_setCell _ _ _ _ (fun e => ha (by rw [hv, e]; rfl))]; exact hh, r⟩
theorem own_put11 {W : World} {B b : Nat} {e : TypeId} {s n : Nat} {v : Value} {xs : List Value} (h : W.ownsRow B e s v n xs) (ha : v.ownBlock ≠ some b) (v0 v1 v2 v3 v4 v5 v6 v7 v8 v9 v10 : Value) : (put11 W b v0 v1 v2 v3 v4 v5 v6 v7 v8 v9 v10).ownsRow B e s v n xs := by
  unfold put11
  exact own_set (own_set (own_set (own_set (own_set (own_set (own_set (own_set (own_set (own_set (own_set h ha _) ha _) ha _) ha _) ha _) ha _) ha _) ha _) ha _) ha _) ha _
/-- The zero value's cells. -/
abbrev zc : Array Value := #[.int .i64 0, .string ⟨#[]⟩, .string ⟨#[]⟩, .slice none 0 0, .int .i64 0, .int .u64 0, .slice none 0 0, .int .u64 0, .float .f64 0, .float .f64 0, .float .f64 0]
end Go.Proofs.YtgkdggcpplmnaaaGreat
/- COPIES: copied. Own work of the verifier. -/
namespace Go.Proofs.YtgkdggcpplmnaaaGreat
open Go.RowKit Me

theorem set3_heap {W : World} {b : Nat} {x : Vl} {lv cv u : Value} {t : TypeId} (h : W.heap[b]? = some (.cells (vc x lv cv) t (0, 0))) : (W.setCell ⟨b, 3, none⟩ u).heap[b]? = some (.cells (vc x u cv) t (0, 0)) := by
  rw [heap_setCell_same _ b 3 _ _ _ h]; rfl
theorem set6_heap {W : World} {b : Nat} {x : Vl} {lv cv u : Value} {t : TypeId} (h : W.heap[b]? = some (.cells (vc x lv cv) t (0, 0))) : (W.setCell ⟨b, 6, none⟩ u).heap[b]? = some (.cells (vc x lv u) t (0, 0)) := by
  rw [heap_setCell_same _ b 6 _ _ _ h]; rfl
/-- What copied tells. -/
def CpQ (w : World) (x : Vl) (e : Ending) (w' : World) : Prop := ∃ lv cv, e = .returned (vx x lv cv) ∧ OwnL w.heap.size lv x.d.labels w' ∧ OwnC w.heap.size cv x.cs w' ∧ Below w.heap.size w w'
theorem own_ne {W : World} {B b : Nat} {e : TypeId} {s n : Nat} {v : Value} {xs : List Value} (h : W.ownsRow B e s v n xs) (hb : b < B) : v.ownBlock ≠ some b := by
  rcases own_atG h with k | ⟨g, k, k1, _⟩
  · rw [k]; simp
  · rw [k]; intro q; cases q; omega
/-- The copy under way: the labels are new. -/
structure Cp1 (w : World) (x : Vl) (lv cv : Value) (W : World) : Prop where
  g1 : W.heap[w.heap.size]? = some (.cells (vc x lv cv) 45 (0, 0))
  g2 : W.heap[w.heap.size + 1]? = some (.cells zc 45 (0, 0))
  bl : Below w.heap.size w W
theorem Cp1.below {w W W1 : World} {x : Vl} {lv cv : Value} (h : Cp1 w x lv cv W) (hb : Below W.heap.size W W1) : Cp1 w x lv cv W1 := ⟨hkN h.g1 hb, hkN h.g2 hb, bt h.bl hb⟩
theorem Cp1.set3 {w W : World} {x : Vl} {lv cv u : Value} (h : Cp1 w x lv cv W) : Cp1 w x u cv (W.setCell ⟨w.heap.size, 3, none⟩ u) := ⟨set3_heap h.g1, by rw [heap_other _ _ _ _ (by simp)]; exact h.g2, h.bl.setCell (p := ⟨w.heap.size, 3, none⟩) (Nat.le_refl _) u⟩
theorem Cp1.set6 {w W : World} {x : Vl} {lv cv u : Value} (h : Cp1 w x lv cv W) : Cp1 w x lv u (W.setCell ⟨w.heap.size, 6, none⟩ u) := ⟨set6_heap h.g1, by rw [heap_other _ _ _ _ (by simp)]; exact h.g2, h.bl.setCell (p := ⟨w.heap.size, 6, none⟩) (Nat.le_refl _) u⟩
theorem Cp1.new (w : World) (x : Vl) (lv cv : Value) : Cp1 w x lv cv ((w.alloc (.cells (vc x lv cv) 45)).alloc (.cells zc 45)) := by
  refine ⟨hkN (new_1 w _) (bel1 _ _), ?_, bel2 w _ _⟩
  have := new_1 (w.alloc (.cells (vc x lv cv) 45)) (.cells zc 45)
  rw [show (w.alloc (.cells (vc x lv cv) 45)).heap.size = w.heap.size + 1 by simp] at this
  exact this
set_option maxRecDepth 100000 in
set_option maxHeartbeats 4000000 in
theorem copied_any (x : Vl) (v : Value) (w : World) (hv : VAt w x v) (hl1 : x.d.labels.length ≤ 1048576) (hl2 : x.cs.length ≤ 1048576) :
    Calls Tryz.prog 30 #[v] w fun e w' => CpQ w x e w' := by
  obtain ⟨lv, cv, rfl, hl, hc⟩ := hv
  obtain ⟨la, lc, rfl⟩ := hl.form
  obtain ⟨ca, cc, rfl⟩ := hc.form
  have HN : Hid (Cp1 w x (.slice la x.d.labels.length lc) (.slice ca x.cs.length cc) ((w.alloc (.cells (vc x (.slice la x.d.labels.length lc) (.slice ca x.cs.length cc)) 45)).alloc (.cells zc 45))) := Cp1.new _ _ _ _
  have HL := hid_of hl
  have HC := hid_of hc
  clear hl hc
  go_enter Tryz.func30, Tryz.ntmps30
  go_upto_region 1 with fail
  obtain ⟨w2, hw2⟩ : ∃ w2, (w.alloc (.cells (vc x (.slice la x.d.labels.length lc) (.slice ca x.cs.length cc)) 45)).alloc (.cells zc 45) = w2 := ⟨_, rfl⟩
  have hs2 : Hid (w2.heap.size = w.heap.size + 2) := by rw [← hw2]; unfold Hid; simp
  rw [hw2] at HN
  simp only [vc, zc] at hw2
  rw [hw2]
  clear hw2
  go_cut [] from 3 to 8 (fun W => ∃ lv', Hid (Cp1 w x lv' (.slice ca x.cs.length cc) W) ∧ Hid (OwnL (w.heap.size + 2) lv' x.d.labels W))
  case first =>
    obtain ⟨c0, c1, c2, c3, c4, c5, c6, c7, c8, c9, c10⟩ := eleven_cells (hid_of HN.out.g1)
    have HR := hid_of (fun ty => run_copyL (HL.out.below HN.out.bl) hl1 ty)
    go_wp2_with (first
      | (at_builtin; refine wpList_run _ rfl _ _ 40 rfl _ _ rfl rfl (HR.out _) ?_; intro v5 w5 hG5; obtain ⟨a5, b5, n5, rfl, -⟩ := own_slice hG5.1; have hC5 := HN.out.below hG5.2; obtain ⟨d0, d1, d2, d3, d4, d5, d6, d7, d8, d9, d10⟩ := eleven_cells (hid_of hC5.g1); have hf3 := hid_fr (hid_of hC5.g1) 3))
    go_meet
    refine ⟨_, hC5.set3, ?_⟩
    rw [← hs2.out]
    exact own_set hG5.1 (own_ne hG5.1 (by have := hs2.out; show w.heap.size < _; omega)) _
  case rest =>
  obtain ⟨lv', HC1, HO1⟩ := hcut
  clear HN
  go_upto_region 2 with fail
  go_cut [] from 9 to 12 (fun W => ∃ cv', Hid (Cp1 w x lv' cv' W) ∧ Hid (OwnL (w.heap.size + 2) lv' x.d.labels W) ∧ Hid (OwnC (w.heap.size + 2) cv' x.cs W))
  case first =>
    obtain ⟨c0, c1, c2, c3, c4, c5, c6, c7, c8, c9, c10⟩ := eleven_cells (hid_of HC1.out.g1)
    have HR := hid_of (fun ty => run_copyC (HC.out.below HC1.out.bl) hl2 ty)
    have hsz := HC1.out.g2
    have hsz2 := (Array.getElem?_eq_some_iff.1 hsz).1
    clear hsz
    go_wp2_with (first
      | (at_builtin; refine wpList_run _ rfl _ _ 43 rfl _ _ rfl rfl (HR.out _) ?_; intro v5 w5 hG5; obtain ⟨a5, b5, n5, rfl, -⟩ := own_slice hG5.1; have hC5 := HC1.out.below hG5.2; obtain ⟨d0, d1, d2, d3, d4, d5, d6, d7, d8, d9, d10⟩ := eleven_cells (hid_of hC5.g1); have hf6 := hid_fr (hid_of hC5.g1) 6))
    go_meet
    refine ⟨_, hC5.set6, ?_, ?_⟩
    · have h1 := own_belG HO1.out hG5.2
      exact own_set h1 (own_ne h1 (by show w.heap.size < _; omega)) _
    · exact own_leG (own_set hG5.1 (own_ne hG5.1 (by show w.heap.size < _; omega)) _) (by omega)
  case rest =>
  obtain ⟨cv', HC2, HO2, HO3⟩ := hcut
  obtain ⟨a8, b8, n8, rfl, -⟩ := own_slice HO2.out
  obtain ⟨a9, b9, n9, rfl, -⟩ := own_slice HO3.out
  clear HC1 HO1
  obtain ⟨c0, c1, c2, c3, c4, c5, c6, c7, c8, c9, c10⟩ := eleven_cells (hid_of HC2.out.g1)
  obtain ⟨z0, z1, z2, z3, z4, z5, z6, z7, z8, z9, z10⟩ := eleven_cells (hid_of HC2.out.g2)
  obtain ⟨f0, f1, f2, f3, f4, f5, f6, f7, f8, f9, f10⟩ := eleven_fr (hid_of HC2.out.g2)
  have sF := store_f
  go_wp2_with fail
  rw [put11_eq]
  have HS := hid_of (set_eleven (v0 := .int .i64 x.d.kind) (v1 := .string ⟨x.d.name.toArray⟩) (v2 := .string ⟨x.d.help.toArray⟩) (v3 := .slice a8 x.d.labels.length n8) (v4 := .int .i64 (hiOf x.t)) (v5 := .int .u64 (loOf x.t)) (v6 := .slice a9 x.cs.length n9) (v7 := .int .u64 (x.n : Int)) (v8 := .float .f64 x.sum) (v9 := .float .f64 x.mn) (v10 := .float .f64 x.mx) HC2.out.g2)
  obtain ⟨y0, y1, y2, y3, y4, y5, y6, y7, y8, y9, y10⟩ := eleven_cells HS
  simp [bodyPost, results, go_sem, y0, y1, y2, y3, y4, y5, y6, y7, y8, y9, y10]
  exact ⟨_, _, rfl, own_leG (own_put11 HO2.out (own_ne HO2.out (by omega)) _ _ _ _ _ _ _ _ _ _ _) (by omega), own_leG (own_put11 HO3.out (own_ne HO3.out (by omega)) _ _ _ _ _ _ _ _ _ _ _) (by omega), put11_bel HC2.out.bl (by omega) _ _ _ _ _ _ _ _ _ _ _⟩
end Go.Proofs.YtgkdggcpplmnaaaGreat
