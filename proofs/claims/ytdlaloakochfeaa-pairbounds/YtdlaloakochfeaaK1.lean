/- PairKeeps: THE WALK. Own work of the verifier. -/
import Derived.Test.YtdlaloakochfeaaD1
namespace Go.Proofs.Ytdlaloakochfeaa
open Go.RowKit Soft

theorem GB.push2 {B : Nat} {e : TypeId} {f : Nat → Value} {W0 w w' : World} {v v' : Value} {xs : List Nat} {x y : Nat} (h : GB B e f W0 v xs w) (ob : Obj)
    (hown : w'.ownsRow B e 1 v' (xs.length + 2) (xs.map f ++ [f x, f y])) (hg : (w.alloc ob).grownBy w' v.ownBlock) (hnil : v' = .slice none 0 0 ↔ v = .slice none 0 0 ∧ 2 = 0) : GB B e f W0 v' (xs ++ [x, y]) w' := by
  obtain ⟨gv, cap, cur, rfl, hB, hcur, _⟩ := own_of h.own h.nz
  have hw := World.grownBy_alloc w ob none
  have hg' : (w.alloc ob).grownBy w' (some gv) := hg
  have s1 := hw.size
  have s2 := hg'.size
  refine ⟨?_, fun e => h.nz (hnil.1 e).1, ?_, by have := h.size; omega⟩
  · rw [List.length_append, List.map_append]; exact hown
  · exact (h.below.grown hw h.size (fun k e => by cases e)).grown hg' (by have := h.size; omega) (fun k e => by cases e; exact hB)
theorem GB.rebase {B : Nat} {e : TypeId} {f : Nat → Value} {W0 w : World} {v : Value} {xs : List Nat} (h : GB B e f W0 v xs w) : GB B e f w v xs w := ⟨h.own, h.nz, Below.refl _ _, h.size⟩
theorem GB.store {B : Nat} {e : TypeId} {f : Nat → Value} {W0 w : World} {v : Value} {xs : List Nat} (h : GB B e f W0 v xs w) {a : Addr} (ha : a.block < B) (u : Value) : GB B e f (w.setCell a u) v xs (w.setCell a u) :=
  ⟨ownsRow_setCell_below h.own ha u, h.nz, Below.refl _ _, by rw [World.size_setCell]; exact h.size⟩
theorem cell_two_new (w : World) (x y : Value) (t : TypeId) : ∀ j u, [x, y][j]? = some u → (w.alloc (.cells #[x, y] t)).cell? ((⟨w.heap.size, 0, none⟩ : Addr).add j) = some u := by
  intro j u hj
  match j, hj with
  | 0, hj => simp at hj; subst hj; simp [go_sem]
  | 1, hj => simp at hj; subst hj; simp [go_sem]
  | k + 2, hj => simp at hj
theorem GB.row2 {B : Nat} {W0 v : _} {L : List Nat} {w : World} (h : GB B 42 (.float .f64) W0 v L w) : ∃ g cap, v = .slice (some ⟨g, 0, none⟩) L.length cap ∧ B ≤ g ∧ RowF w g 0 L ∧ L.length ≤ cap ∧ cap ≤ maxLen ∧ ∀ o, w.frozen? ⟨g, o, none⟩ = false := by
  obtain ⟨g, cap, cur, rfl, hB, hcur, h1, h2, h3, h4⟩ := own_of h.own h.nz
  refine ⟨g, cap, rfl, hB, ?_, h1, h2, fun o => by simp [World.frozen?, hcur]⟩
  intro i hi
  have := h.own.cellAt i (by simpa using hi)
  rw [Nat.zero_add, this]
  simp [hi]
theorem slice_to (t e : TypeId) (a : Option Addr) (len cap n : Nat) (ht : Try.prog.underlying t = some (.slice e)) (hn : n ≤ cap) (hs : ∀ W, (sizeOf e).run Try.prog W = .ok 1 W) (W : World) :
    (Instr.slice t (.slice a len cap) none (some (.int .i64 (n : Int))) none).run Try.prog W = .ok (.slice a n cap) W := by
  have he : Try.prog.elem t = e := by simp [Program.elem, ht]
  rw [run_slice_h W t a len cap (by rw [he]; exact ht) .i64 (n : Int) (by omega) (by omega), he, hs]
  simp [sliced]
  intro _
  cases a <;> simp [Addr.add]
theorem index_at (t e : TypeId) (g len cap i : Nat) (ht : Try.prog.underlying t = some (.slice e)) (hi : i < len) (hs : ∀ W, (sizeOf e).run Try.prog W = .ok 1 W) (W : World) :
    (Instr.indexAt t (.slice (some ⟨g, 0, none⟩) len cap) (.int .i64 (i : Int))).run Try.prog W = .ok (.pointer (some ⟨g, i, none⟩)) W := by
  have he : Try.prog.elem t = e := by simp [Program.elem, ht]
  rw [run_indexAt_slice W t ⟨g, 0, none⟩ len cap .i64 (i : Int) (by rw [he]; exact ht), if_pos (by omega), he, hs]
  simp [Addr.add]
  intro h; rw [h]
theorem sizeU (W : World) : (sizeOf 31).run Try.prog W = .ok 1 W := by simp [sizeOf]; rfl
theorem store_float (W : World) (g k x : Nat) (v : Value) (hc : W.cell? ⟨g, k, none⟩ = some v) (hf : W.frozen? ⟨g, k, none⟩ = false) :
    (store ⟨g, k, none⟩ (.float .f64 x)).run Try.prog W = .ok () (W.setCell ⟨g, k, none⟩ (.float .f64 x)) := by
  rw [run_store _ _ _ _ _ rfl]
  simp [hc, hf]
theorem sizeF (W : World) : (sizeOf 42).run Try.prog W = .ok 1 W := by
  simp [sizeOf]; rfl
theorem RowF.pre {w : World} {b o : Nat} {L M : List Nat} (h : RowF w b o (L ++ M)) : RowF w b o L := fun i hi => by
  rw [h i (by rw [List.length_append]; omega), List.getElem_append_left hi]
/-- What lies in memory between the two halves. -/
def KK (w : World) (b o g : Nat) (L : List Nat) (W : World) : Prop := RowU W b o L ∧ RowF W g 0 L ∧ Below w.heap.size w W ∧ (∀ o, W.frozen? ⟨g, o, none⟩ = false) ∧ g < W.heap.size
theorem KK.u {w W : World} {b o g : Nat} {L : List Nat} (h : KK w b o g L W) : RowU W b o L := h.1
theorem KK.f {w W : World} {b o g : Nat} {L : List Nat} (h : KK w b o g L W) : RowF W g 0 L := h.2.1
theorem KK.b {w W : World} {b o g : Nat} {L : List Nat} (h : KK w b o g L W) : Below w.heap.size w W := h.2.2.1
theorem KK.fr {w W : World} {b o g : Nat} {L : List Nat} (h : KK w b o g L W) (o' : Nat) : W.frozen? ⟨g, o', none⟩ = false := h.2.2.2.1 o'
theorem KK.lt {w W : World} {b o g : Nat} {L : List Nat} (h : KK w b o g L W) : g < W.heap.size := h.2.2.2.2
theorem KK.below {w W W1 : World} {b o g : Nat} {L : List Nat} (h : KK w b o g L W) (hb : Below W.heap.size W W1) : KK w b o g L W1 :=
  ⟨h.u.below hb (fun k => h.u.lt k), h.f.below hb (fun k => h.f.lt k), h.b.trans (hb.mono h.b.size), fun o' => by rw [hb.frozen (p := ⟨g, o', none⟩) h.lt]; exact h.fr o', Nat.lt_of_lt_of_le h.lt hb.size⟩
theorem keepK {w W W1 : World} {b o g k l : Nat} {x y : Value} {L : List Nat} (hb : Below W.heap.size W W1)
    (h : W.cell? ⟨g, k, none⟩ = some x ∧ W.cell? ⟨g, l, none⟩ = some y ∧ KK w b o g L W) : W1.cell? ⟨g, k, none⟩ = some x ∧ W1.cell? ⟨g, l, none⟩ = some y ∧ KK w b o g L W1 :=
  ⟨by rw [hb.cell (p := ⟨g, k, none⟩) (lt_of_cell h.1), h.1], by rw [hb.cell (p := ⟨g, l, none⟩) (lt_of_cell h.2.1), h.2.1], h.2.2.below hb⟩
/-- Without the last bit. -/
def cl (x : Nat) : Nat := x - x % 2
theorem cl_lt {x : Nat} (h : x < 18446744073709551616) : cl x < 18446744073709551616 := by unfold cl; omega
theorem clear_one (x : Nat) (h : x < 18446744073709551616) : bits .andNot .u64 (x : Int) 1 = ((cl x : Nat) : Int) := by
  have := u64_andNot_nat x 1 h (by decide)
  rw [show ((1 : Nat) : Int) = 1 from rfl] at this
  rw [this]
  congr 1
  unfold cl
  have e1 : (x &&& (18446744073709551615 - 1)) % 2 = 0 := by
    have : (x &&& (18446744073709551615 - 1)) % 2 ^ 1 = 0 := by rw [Nat.and_mod_two_pow]; simp
    simpa using this
  have e2 : (x &&& (18446744073709551615 - 1)) / 2 = x / 2 := by
    have : (x &&& (18446744073709551615 - 1)) / 2 ^ 1 = x / 2 ^ 1 &&& (18446744073709551615 - 1) / 2 ^ 1 := Nat.and_div_two_pow
    rw [Nat.pow_one] at this
    rw [this, show (18446744073709551615 - 1) / 2 = 2 ^ 63 - 1 from by decide, Nat.and_two_pow_sub_one_eq_mod, Nat.mod_eq_of_lt (by rw [show (2 : Nat) ^ 63 = 9223372036854775808 from by decide]; omega)]
  omega
/-- The floats the other way round, without their last bits. -/
def rev (L : List Nat) : List Nat := L.reverse.map cl
theorem rev_length (L : List Nat) : (rev L).length = L.length := by simp [rev]
theorem rev_get (L : List Nat) (k : Nat) (h : k < L.length) : (rev L)[k]'(by rw [rev_length]; exact h) = cl (L[L.length - 1 - k]'(by omega)) := by
  simp [rev, List.getElem_reverse]
theorem rev_small {L : List Nat} (h : Small L) : Small (rev L) := fun x hx => by
  obtain ⟨y, hy, rfl⟩ := List.mem_map.1 hx
  exact cl_lt (h y (List.mem_reverse.1 hy))
theorem RowF.set {w : World} {g k x : Nat} {M : List Nat} (h : RowF w g 0 M) (_hk : k < M.length) : RowF (w.setCell ⟨g, k, none⟩ (.float .f64 x)) g 0 (M.set k x) := by
  intro i hi
  rw [List.length_set] at hi
  rw [Nat.zero_add, List.getElem_set]
  have h0 := h i hi
  rw [Nat.zero_add] at h0
  by_cases e : k = i
  · subst e
    rw [if_pos rfl]
    exact World.cell?_setCell_same w _ _ h0
  · rw [if_neg e, World.cell?_setCell_other w ⟨g, k, none⟩ ⟨g, i, none⟩ _ (fun c => e (by injection c))]
    exact h0
theorem mix_set (R L : List Nat) (k : Nat) (hk : k < L.length) (hR : k < R.length) : (R.take k ++ L.drop k).set k R[k] = R.take (k + 1) ++ L.drop (k + 1) := by
  apply List.ext_getElem
  · simp; omega
  · intro i h1 h2
    rw [List.getElem_set]
    by_cases e : k = i
    · subst e
      rw [if_pos rfl, List.getElem_append_left (by simp; omega)]
      simp
    · rw [if_neg e]
      rcases Nat.lt_or_gt_of_ne e with c | c
      · rw [List.getElem_append_right (by simp; omega), List.getElem_append_right (by simp; omega)]
        simp only [List.getElem_drop, List.length_take]
        congr 1
        simp at h1
        omega
      · rw [List.getElem_append_left (by simp; omega), List.getElem_append_left (by simp; omega)]
        simp
theorem infoU : (Try.prog.info? 31).map (fun i => (i.zero, i.size, i.bytes)) = some (some (.int .u64 0), 1, 8) := by kernel_rfl
def uV64 (n : Nat) : Value := .int .u64 (n : Int)
theorem GB.rowU {B : Nat} {W0 v : _} {L : List Nat} {w : World} (h : GB B 31 uV64 W0 v L w) : ∃ g cap, v = .slice (some ⟨g, 0, none⟩) L.length cap ∧ B ≤ g ∧ RowU w g 0 L := by
  obtain ⟨g, cap, cur, rfl, hB, hcur, h1, h2, h3, h4⟩ := own_of h.own h.nz
  refine ⟨g, cap, rfl, hB, ?_⟩
  intro i hi
  have := h.own.cellAt i (by simpa using hi)
  rw [Nat.zero_add, this]
  simp [hi, uV64]
end Go.Proofs.Ytdlaloakochfeaa
