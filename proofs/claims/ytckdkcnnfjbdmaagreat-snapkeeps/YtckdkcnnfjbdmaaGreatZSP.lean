/- LISTS THAT ARE WRITTEN OVER: memory. Own work of the verifier. -/
import Derived.Test.YtckdkcnnfjbdmaaGreatZFA
import Derived.Test.YtckdkcnnfjbdmaaGreatZD1
namespace Go.Proofs.YtckdkcnnfjbdmaaGreat
open Go.RowKit Me

/-- The blocks of values and of their lists. -/
def Bk (u : Value) (J : List Rv) (g : Nat) : Prop := u.ownBlock = some g ∨ ∃ r ∈ J, r.2.1.ownBlock = some g ∨ r.2.2.ownBlock = some g
/-- Values, and what their lists hold now. -/
structure Sq (B : Nat) (u : Value) (J : List Rv) (ls : Nat → List La.Lb) (cs : Nat → List Cn) (W : World) : Prop where
  own : W.ownsRow B 45 11 u J.length (flV J)
  el : ∀ j (hj : j < J.length), OwnL B J[j].2.1 (ls j) W ∧ OwnC B J[j].2.2 (cs j) W
theorem Sq.below {B : Nat} {u : Value} {J : List Rv} {ls : Nat → List La.Lb} {cs : Nat → List Cn} {W W1 : World} (h : Sq B u J ls cs W) (hb : Below W.heap.size W W1) : Sq B u J ls cs W1 := ⟨own_belG h.own hb, fun j hj => ⟨own_belG (h.el j hj).1 hb, own_belG (h.el j hj).2 hb⟩⟩
def lsO (J : List Rv) (j : Nat) : List La.Lb := (J[j]?.map (·.1.d.labels)).getD []
def csO (J : List Rv) (j : Nat) : List Cn := (J[j]?.map (·.1.cs)).getD []
theorem lsO_at {J : List Rv} {j : Nat} (h : j < J.length) : lsO J j = J[j].1.d.labels := by unfold lsO; rw [List.getElem?_eq_getElem h]; rfl
theorem csO_at {J : List Rv} {j : Nat} (h : j < J.length) : csO J j = J[j].1.cs := by unfold csO; rw [List.getElem?_eq_getElem h]; rfl
theorem OR.sq {B : Nat} {u : Value} {J : List Rv} {W : World} (h : OR B u J W) : Sq B u J (lsO J) (csO J) W := ⟨h.own, fun j hj => by rw [lsO_at hj, csO_at hj]; exact h.el _ (List.getElem_mem hj)⟩
theorem Sq.bk {B : Nat} {u : Value} {J : List Rv} {ls : Nat → List La.Lb} {cs : Nat → List Cn} {W : World} (h : Sq B u J ls cs W) : ∀ g, Bk u J g → B ≤ g ∧ g < W.heap.size := fun g hg => by
  have key : ∀ {e : TypeId} {s n : Nat} {v : Value} {xs : List Value}, W.ownsRow B e s v n xs → v.ownBlock = some g → B ≤ g ∧ g < W.heap.size := fun {e s n v xs} k e1 => by
    rcases own_atG k with q | ⟨g', q, q1, q2⟩
    · rw [q] at e1; cases e1
    · rw [q] at e1; cases e1; exact ⟨q1, q2⟩
  rcases hg with k | ⟨r, hr, k | k⟩
  · exact key h.own k
  · obtain ⟨i, hi, rfl⟩ := List.mem_iff_getElem.1 hr
    exact key (h.el i hi).1 k
  · obtain ⟨i, hi, rfl⟩ := List.mem_iff_getElem.1 hr
    exact key (h.el i hi).2 k
theorem Sq.chg {S : Nat → Prop} {B : Nat} {u : Value} {J : List Rv} {ls : Nat → List La.Lb} {cs : Nat → List Cn} {W W' : World} (h : Sq B u J ls cs W) (k : Chg S W W') (hS : ∀ g, Bk u J g → ¬ S g) : Sq B u J ls cs W' :=
  ⟨k.row h.own (fun g e => hS g (Or.inl e)), fun j hj => ⟨k.row (h.el j hj).1 (fun g e => hS g (Or.inr ⟨_, List.getElem_mem hj, Or.inl e⟩)), k.row (h.el j hj).2 (fun g e => hS g (Or.inr ⟨_, List.getElem_mem hj, Or.inr e⟩))⟩⟩
def upd {α : Type} (f : Nat → α) (i : Nat) (x : α) : Nat → α := fun j => if j = i then x else f j
theorem upd_self {α : Type} (f : Nat → α) (i : Nat) : upd f i (f i) = f := by
  funext j
  unfold upd
  split
  · rename_i h; rw [h]
  · rfl
theorem upd_at {α : Type} (f : Nat → α) (i : Nat) (x : α) : upd f i x i = x := by unfold upd; rw [if_pos rfl]
theorem upd_ne {α : Type} (f : Nat → α) {i j : Nat} (x : α) (h : j ≠ i) : upd f i x j = f j := by unfold upd; rw [if_neg h]
theorem upd_upd {α : Type} (f : Nat → α) (i : Nat) (x y : α) : upd (upd f i x) i y = upd f i y := by
  funext j
  unfold upd
  split <;> rfl
theorem typesCL : (57 : TypeId) ≠ 79 := by decide
theorem ap_or {u v : Value} (h : Ap u v) : u.ownBlock = none ∨ u.ownBlock ≠ v.ownBlock := by
  cases e : u.ownBlock with
  | none => exact Or.inl rfl
  | some g => exact Or.inr (fun q => h g e q.symm)
/-- One list of labels is written. -/
theorem Sq.lab {B : Nat} {u : Value} {J : List Rv} {ls : Nat → List La.Lb} {cs : Nat → List Cn} {W W' : World} {i : Nat} {L : List La.Lb} (h : Sq B u J ls cs W) (dj : Dj J) (hi : i < J.length) (hg : W.grownBy W' J[i].2.1.ownBlock) (hl : OwnL B J[i].2.1 L W') : Sq B u J (upd ls i L) cs W' := by
  refine ⟨World.ownsRow.kept h.own hg (own_apart h.own (h.el i hi).1 typesLV.symm), fun j hj => ⟨?_, World.ownsRow.kept (h.el j hj).2 hg (own_apart (h.el j hj).2 (h.el i hi).1 typesCL)⟩⟩
  by_cases c : j = i
  · subst c
    rw [upd_at]
    exact hl
  · rw [upd_ne _ _ c]
    exact World.ownsRow.kept (h.el j hj).1 hg (ap_or (dj j i hj hi c).1)
theorem Sq.cnt {B : Nat} {u : Value} {J : List Rv} {ls : Nat → List La.Lb} {cs : Nat → List Cn} {W W' : World} {i : Nat} {L : List Cn} (h : Sq B u J ls cs W) (dj : Dj J) (hi : i < J.length) (hg : W.grownBy W' J[i].2.2.ownBlock) (hl : OwnC B J[i].2.2 L W') : Sq B u J ls (upd cs i L) W' := by
  refine ⟨World.ownsRow.kept h.own hg (own_apart h.own (h.el i hi).2 typesCV.symm), fun j hj => ⟨World.ownsRow.kept (h.el j hj).1 hg (own_apart (h.el j hj).1 (h.el i hi).2 typesCL.symm), ?_⟩⟩
  by_cases c : j = i
  · subst c
    rw [upd_at]
    exact hl
  · rw [upd_ne _ _ c]
    exact World.ownsRow.kept (h.el j hj).2 hg (ap_or (dj j i hj hi c).2)
/-- The row itself. -/
theorem Sq.row {B : Nat} {u : Value} {J : List Rv} {ls : Nat → List La.Lb} {cs : Nat → List Cn} {W W' : World} (h : Sq B u J ls cs W) (hg : W.grownBy W' u.ownBlock) (ho : W'.ownsRow B 45 11 u J.length (flV J)) : Sq B u J ls cs W' :=
  ⟨ho, fun j hj => ⟨World.ownsRow.kept (h.el j hj).1 hg (own_apart (h.el j hj).1 h.own typesLV), World.ownsRow.kept (h.el j hj).2 hg (own_apart (h.el j hj).2 h.own typesCV)⟩⟩
theorem grown_trans {a b c : World} {row : Option Nat} (h : a.grownBy b row) (k : b.grownBy c row) : a.grownBy c row := ⟨k.os.trans h.os, k.tape.trans h.tape, k.output.trans h.output, Nat.le_trans h.size k.size, fun j hj hn => (k.block j (Nat.lt_of_lt_of_le hj h.size) hn).trans (h.block j hj hn)⟩
theorem flL_set : ∀ (L : List La.Lb) (k : Nat) (x : La.Lb), k < L.length → ((flL L).set (k * 2) (.string ⟨x.1.toArray⟩)).set (k * 2 + 1) (.string ⟨x.2.toArray⟩) = flL (L.set k x)
  | [], k, _, h => absurd h (by simp)
  | c :: L, 0, x, _ => rfl
  | c :: L, k + 1, x, h => by
    show ((.string ⟨c.1.toArray⟩ :: .string ⟨c.2.toArray⟩ :: flL L : List Value).set ((k + 1) * 2) _).set ((k + 1) * 2 + 1) _ = .string ⟨c.1.toArray⟩ :: .string ⟨c.2.toArray⟩ :: flL (L.set k x)
    rw [show (k + 1) * 2 = k * 2 + 1 + 1 by omega, List.set_cons_succ, List.set_cons_succ, List.set_cons_succ, List.set_cons_succ, flL_set L k x (by simpa using h)]
theorem flC_set : ∀ (L : List Cn) (k : Nat) (x : Cn), k < L.length → ((fl L).set (k * 2) (.int .i64 x.1)).set (k * 2 + 1) (.int .u64 (x.2 : Int)) = fl (L.set k x)
  | [], k, _, h => absurd h (by simp)
  | c :: L, 0, x, _ => rfl
  | c :: L, k + 1, x, h => by
    show ((.int .i64 c.1 :: .int .u64 (c.2 : Int) :: fl L : List Value).set ((k + 1) * 2) _).set ((k + 1) * 2 + 1) _ = .int .i64 c.1 :: .int .u64 (c.2 : Int) :: fl (L.set k x)
    rw [show (k + 1) * 2 = k * 2 + 1 + 1 by omega, List.set_cons_succ, List.set_cons_succ, List.set_cons_succ, List.set_cons_succ, flC_set L k x (by simpa using h)]
/-- A label, a count is written. -/
theorem OwnL.put {B g n cap k : Nat} {L : List La.Lb} {W : World} (h : OwnL B (.slice (some ⟨g, 0, none⟩) n cap) L W) (hn : L.length = n) (hk : k < L.length) (x : La.Lb) : OwnL B (.slice (some ⟨g, 0, none⟩) n cap) (L.set k x) ((W.setCell ⟨g, k * 2, none⟩ (.string ⟨x.1.toArray⟩)).setCell ⟨g, k * 2 + 1, none⟩ (.string ⟨x.2.toArray⟩)) ∧ W.grownBy ((W.setCell ⟨g, k * 2, none⟩ (.string ⟨x.1.toArray⟩)).setCell ⟨g, k * 2 + 1, none⟩ (.string ⟨x.2.toArray⟩)) (some g) := by
  subst hn
  unfold OwnL at *
  obtain ⟨s0, g0⟩ := h.stored (k * 2) (.string ⟨x.1.toArray⟩)
  obtain ⟨s1, g1⟩ := s0.stored (k * 2 + 1) (.string ⟨x.2.toArray⟩)
  rw [flL_set L k x hk] at s1
  exact ⟨by rw [List.length_set]; exact s1, grown_trans g0 g1⟩
theorem OwnC.put {B g n cap k : Nat} {L : List Cn} {W : World} (h : OwnC B (.slice (some ⟨g, 0, none⟩) n cap) L W) (hn : L.length = n) (hk : k < L.length) (x : Cn) : OwnC B (.slice (some ⟨g, 0, none⟩) n cap) (L.set k x) ((W.setCell ⟨g, k * 2, none⟩ (.int .i64 x.1)).setCell ⟨g, k * 2 + 1, none⟩ (.int .u64 (x.2 : Int))) ∧ W.grownBy ((W.setCell ⟨g, k * 2, none⟩ (.int .i64 x.1)).setCell ⟨g, k * 2 + 1, none⟩ (.int .u64 (x.2 : Int))) (some g) := by
  subst hn
  unfold OwnC at *
  obtain ⟨s0, g0⟩ := h.stored (k * 2) (.int .i64 x.1)
  obtain ⟨s1, g1⟩ := s0.stored (k * 2 + 1) (.int .u64 (x.2 : Int))
  rw [flC_set L k x hk] at s1
  exact ⟨by rw [List.length_set]; exact s1, grown_trans g0 g1⟩
theorem own_uniq {W : World} {B B' : Nat} {e : TypeId} {s n : Nat} {v : Value} {xs ys : List Value} (h : W.ownsRow B e s v n xs) (h' : W.ownsRow B' e s v n ys) : xs = ys := by
  rcases h.2 with ⟨q, q2⟩ | ⟨g, cap, cur, q, _, hg, _, _, _, ht⟩
  · have e1 : xs = [] := List.length_eq_zero_iff.1 (by rw [h.1, q2, Nat.zero_mul])
    have e2 : ys = [] := List.length_eq_zero_iff.1 (by rw [h'.1, q2, Nat.zero_mul])
    rw [e1, e2]
  · rcases h'.2 with ⟨p, _⟩ | ⟨g', cap', cur', p, _, hg', _, _, _, ht'⟩
    · rw [q] at p; cases p
    · rw [q] at p
      cases p
      rw [hg] at hg'
      cases hg'
      rw [← ht, ← ht']
/-- A list that is grown in another hand: it lies where it lay, or in new memory. -/
structure Gr (b0 B : Nat) (e : TypeId) (s : Nat) (v0 : Value) (n0 : Nat) (l : Value) (n : Nat) (xs : List Value) (W : World) : Prop where
  own : W.ownsRow B e s l n xs
  le : n0 ≤ n
  at_ : (∃ g cap, l = .slice (some ⟨g, 0, none⟩) n cap ∧ v0 = .slice (some ⟨g, 0, none⟩) n0 cap) ∨ ∀ g, l.ownBlock = some g → b0 ≤ g
theorem Gr.start {b0 B : Nat} {e : TypeId} {s n : Nat} {v : Value} {xs : List Value} {W : World} (h : W.ownsRow B e s v n xs) : Gr b0 B e s v n v n xs W := ⟨h, Nat.le_refl _, by
  rcases h.2 with ⟨q, _⟩ | ⟨g, cap, cur, q, _⟩
  · right
    intro g e
    rw [q] at e
    cases e
  · exact Or.inl ⟨g, cap, q, q⟩⟩
/-- One more element. -/
theorem Gr.step {b0 B : Nat} {e : TypeId} {s n0 n m : Nat} {v0 l l' : Value} {xs x0 news : List Value} {W W' : World} (h : Gr b0 B e s v0 n0 l n xs W) (h0 : W.ownsRow B e s v0 n0 x0) (hb : b0 ≤ W.heap.size) (hB : B ≤ W.heap.size)
    (k : (∃ g cap, l = .slice (some ⟨g, 0, none⟩) n cap ∧ l' = .slice (some ⟨g, 0, none⟩) (n + m) cap ∧ W'.ownsRow B e s l' (n + m) (xs ++ news) ∧ W.grownBy W' (some g)) ∨ (W'.ownsRow W.heap.size e s l' (n + m) (xs ++ news) ∧ Below W.heap.size W W')) :
    Gr b0 B e s v0 n0 l' (n + m) (xs ++ news) W' ∧ ((W.grownBy W' v0.ownBlock ∧ W'.ownsRow B e s v0 n0 x0) ∨ Chg (fun g => b0 ≤ g) W W') := by
  have hle := h.le
  rcases k with ⟨g, cap, k1, k2, k3, k4⟩ | ⟨k1, k2⟩
  · rcases h.at_ with ⟨g', cap', q1, q2⟩ | q
    · rw [k1] at q1
      cases q1
      refine ⟨⟨k3, by omega, Or.inl ⟨g, cap, k2, q2⟩⟩, Or.inl ⟨by rw [q2]; exact k4, ?_⟩⟩
      have e1 := own_take (by rw [k1] at h; exact h.own) h.le
      rw [q2] at h0
      have e2 := own_uniq e1 h0
      have e3 := own_take (by rw [k2] at k3; exact k3) (show n0 ≤ n + m by omega)
      have hl := h.own.1
      rw [List.take_append_of_le_length (by rw [hl]; exact Nat.mul_le_mul_right s hle), e2] at e3
      rw [q2]
      exact e3
    · have hg := q g (by rw [k1]; rfl)
      refine ⟨⟨k3, by omega, Or.inr (fun g' e' => ?_)⟩, Or.inr (Chg.of_grown k4 (fun x e' => by cases e'; exact hg))⟩
      rw [k2] at e'
      cases e'
      exact hg
  · refine ⟨⟨own_leG k1 hB, by omega, Or.inr (fun g e' => ?_)⟩, Or.inr (Chg.of_below k2)⟩
    rcases own_atG k1 with q | ⟨g', q, q1, _⟩
    · rw [q] at e'; cases e'
    · rw [q] at e'; cases e'; omega
theorem Gr.chg {S : Nat → Prop} {b0 B : Nat} {e : TypeId} {s n0 n : Nat} {v0 l : Value} {xs : List Value} {W W' : World} (h : Gr b0 B e s v0 n0 l n xs W) (k : Chg S W W') (hS : ∀ g, l.ownBlock = some g → ¬ S g) : Gr b0 B e s v0 n0 l n xs W' := ⟨k.row h.own hS, h.le, h.at_⟩
end Go.Proofs.YtckdkcnnfjbdmaaGreat
/- THE DOCUMENT'S Spoil: what it leaves. Own work of the verifier. -/
namespace Go.Proofs.YtckdkcnnfjbdmaaGreat
open Go.RowKit Me

theorem cv_rune (m : Int) (h : m = 1 ∨ m = 2 ∨ m = 3) (W : World) : (convert 3 21 (.int .i64 (97 + m))).run Tryz.prog W = .ok (.int .i32 (97 + m)) W := by
  rcases h with rfl | rfl | rfl
  · simp [convert]; rfl
  · simp [convert]; rfl
  · simp [convert]; rfl
/-- A mark's text. -/
def mkB (m : Int) : List UInt8 := [UInt8.ofNat (97 + m.toNat)]
theorem cv_text (m : Int) (h : m = 1 ∨ m = 2 ∨ m = 3) (W : World) : (convert 21 9 (.int .i32 (97 + m))).run Tryz.prog W = .ok (.string ⟨(mkB m).toArray⟩) W := by
  rcases h with rfl | rfl | rfl
  · simp [convert]; rfl
  · simp [convert]; rfl
  · simp [convert]; rfl
theorem cv_u64 (m : Int) (h : m = 1 ∨ m = 2 ∨ m = 3) (W : World) : (convert 3 24 (.int .i64 m)).run Tryz.prog W = .ok (.int .u64 m) W := by
  rcases h with rfl | rfl | rfl
  · simp [convert]; rfl
  · simp [convert]; rfl
  · simp [convert]; rfl
/-- What is written. -/
def mkL (m : Int) : La.Lb := ([115, 112, 111, 105, 108, 116], mkB m)
def mkC (m : Int) : Cn := (-m, m.toNat)
def spL (J : List Rv) (m : Int) (j : Nat) : List La.Lb := List.replicate (lsO J j).length (mkL m)
def spC (J : List Rv) (m : Int) (j : Nat) : List Cn := List.replicate (csO J j).length (mkC m)
def spdL (J : List Rv) (m : Int) (i j : Nat) : List La.Lb := if j < i then spL J m j else lsO J j
def spdC (J : List Rv) (m : Int) (i j : Nat) : List Cn := if j < i then spC J m j else csO J j
theorem spdL_at (J : List Rv) (m : Int) (i : Nat) : spdL J m i i = lsO J i := by unfold spdL; rw [if_neg (by omega)]
theorem spdC_at (J : List Rv) (m : Int) (i : Nat) : spdC J m i i = csO J i := by unfold spdC; rw [if_neg (by omega)]
theorem spdL_next (J : List Rv) (m : Int) (i : Nat) : upd (spdL J m i) i (spL J m i) = spdL J m (i + 1) := by
  funext j
  unfold upd spdL
  by_cases c : j = i
  · rw [if_pos c, if_pos (by omega), c]
  · rw [if_neg c]
    by_cases d : j < i
    · rw [if_pos d, if_pos (by omega)]
    · rw [if_neg d, if_neg (by omega)]
theorem spdC_next (J : List Rv) (m : Int) (i : Nat) : upd (spdC J m i) i (spC J m i) = spdC J m (i + 1) := by
  funext j
  unfold upd spdC
  by_cases c : j = i
  · rw [if_pos c, if_pos (by omega), c]
  · rw [if_neg c]
    by_cases d : j < i
    · rw [if_pos d, if_pos (by omega)]
    · rw [if_neg d, if_neg (by omega)]
theorem rep_step {α : Type} (L : List α) (x : α) (k : Nat) (h : k < L.length) : (List.replicate k x ++ L.drop k).set k x = List.replicate (k + 1) x ++ L.drop (k + 1) := by
  rw [List.set_append_right _ _ (by simp), List.length_replicate, Nat.sub_self, List.drop_eq_getElem_cons h, List.set_cons_zero, List.replicate_succ', List.append_assoc]
  rfl
theorem rep_len {α : Type} (L : List α) (x : α) (k : Nat) (h : k ≤ L.length) : (List.replicate k x ++ L.drop k).length = L.length := by
  rw [List.length_append, List.length_replicate, List.length_drop]
  omega
theorem rep_end {α : Type} (L : List α) (x : α) (k : Nat) (h : L.length ≤ k) (h2 : k ≤ L.length) : List.replicate k x ++ L.drop k = List.replicate L.length x := by
  rw [List.drop_eq_nil_of_le h, List.append_nil, show k = L.length by omega]
/-- The spoiling under way. -/
structure Sp (w : World) (p : Int) (r : Nat) (u : Value) (B : Nat) (J : List Rv) (ls : Nat → List La.Lb) (cs : Nat → List Cn) (W : World) : Prop where
  g1 : W.heap[w.heap.size]? = some (.cells #[.int .i64 p, u, .int .u64 (r : Int)] 26 (0, 0))
  sq : Sq B u J ls cs W
  ch : Chg (Bk u J) w W
  bk : ∀ g, Bk u J g → g < w.heap.size
  hB : B ≤ w.heap.size
theorem Sp.size {w W : World} {p : Int} {r : Nat} {u : Value} {B : Nat} {J : List Rv} {ls : Nat → List La.Lb} {cs : Nat → List Cn} (h : Sp w p r u B J ls cs W) : w.heap.size + 1 ≤ W.heap.size := (Array.getElem?_eq_some_iff.1 h.g1).1
theorem Sp.new {w : World} {u : Value} {B : Nat} {J : List Rv} (h : OR B u J w) (hB : B ≤ w.heap.size) (p : Int) (r : Nat) (m : Int) : Sp w p r u B J (spdL J m 0) (spdC J m 0) (w.alloc (.cells #[.int .i64 p, u, .int .u64 (r : Int)] 26)) := by
  have e1 : spdL J m 0 = lsO J := by funext j; unfold spdL; rw [if_neg (by omega)]
  have e2 : spdC J m 0 = csO J := by funext j; unfold spdC; rw [if_neg (by omega)]
  rw [e1, e2]
  exact ⟨new_1 _ _, h.sq.below (bel1 _ _), Chg.of_below (bel1 _ _), fun g hg => (h.sq.bk g hg).2, hB⟩
theorem Sp.lab {w W W' : World} {p : Int} {r : Nat} {u : Value} {B : Nat} {J : List Rv} {ls : Nat → List La.Lb} {cs : Nat → List Cn} {i : Nat} {L : List La.Lb} (h : Sp w p r u B J ls cs W) (dj : Dj J) (hi : i < J.length) (hg : W.grownBy W' J[i].2.1.ownBlock) (hl : OwnL B J[i].2.1 L W') : Sp w p r u B J (upd ls i L) cs W' := by
  have hin : ∀ x, J[i].2.1.ownBlock = some x → Bk u J x := fun x e => Or.inr ⟨_, List.getElem_mem hi, Or.inl e⟩
  refine ⟨(hg.block _ (by have := h.size; omega) (fun e => ?_)).trans h.g1, h.sq.lab dj hi hg hl, h.ch.trans (Chg.of_grown hg hin) (fun x hx => Or.inl hx), h.bk, h.hB⟩
  have := h.bk _ (hin _ e.symm)
  omega
theorem Sp.cnt {w W W' : World} {p : Int} {r : Nat} {u : Value} {B : Nat} {J : List Rv} {ls : Nat → List La.Lb} {cs : Nat → List Cn} {i : Nat} {L : List Cn} (h : Sp w p r u B J ls cs W) (dj : Dj J) (hi : i < J.length) (hg : W.grownBy W' J[i].2.2.ownBlock) (hl : OwnC B J[i].2.2 L W') : Sp w p r u B J ls (upd cs i L) W' := by
  have hin : ∀ x, J[i].2.2.ownBlock = some x → Bk u J x := fun x e => Or.inr ⟨_, List.getElem_mem hi, Or.inr e⟩
  refine ⟨(hg.block _ (by have := h.size; omega) (fun e => ?_)).trans h.g1, h.sq.cnt dj hi hg hl, h.ch.trans (Chg.of_grown hg hin) (fun x hx => Or.inl hx), h.bk, h.hB⟩
  have := h.bk _ (hin _ e.symm)
  omega
theorem Sp.row {w W W' : World} {p : Int} {r : Nat} {u : Value} {B : Nat} {J : List Rv} {ls : Nat → List La.Lb} {cs : Nat → List Cn} (h : Sp w p r u B J ls cs W) (hg : W.grownBy W' u.ownBlock) (ho : W'.ownsRow B 45 11 u J.length (flV J)) : Sp w p r u B J ls cs W' := by
  have hin : ∀ x, u.ownBlock = some x → Bk u J x := fun x e => Or.inl e
  refine ⟨(hg.block _ (by have := h.size; omega) (fun e => ?_)).trans h.g1, h.sq.row hg ho, h.ch.trans (Chg.of_grown hg hin) (fun x hx => Or.inl hx), h.bk, h.hB⟩
  have := h.bk _ (hin _ e.symm)
  omega
theorem Sp.fresh {w W W' : World} {p : Int} {r : Nat} {u : Value} {B : Nat} {J : List Rv} {ls : Nat → List La.Lb} {cs : Nat → List Cn} (h : Sp w p r u B J ls cs W) (k : Chg (fun g => w.heap.size + 1 ≤ g) W W') : Sp w p r u B J ls cs W' :=
  ⟨k.at_ h.g1 (by show ¬ w.heap.size + 1 ≤ w.heap.size; omega), h.sq.chg k (fun g hg q => by have := h.bk g hg; have : w.heap.size + 1 ≤ g := q; omega), h.ch.trans k (fun x hx => Or.inr (by have : w.heap.size + 1 ≤ x := hx; omega)), h.bk, h.hB⟩
theorem Sp.below {w W W' : World} {p : Int} {r : Nat} {u : Value} {B : Nat} {J : List Rv} {ls : Nat → List La.Lb} {cs : Nat → List Cn} (h : Sp w p r u B J ls cs W) (hb : Below W.heap.size W W') : Sp w p r u B J ls cs W' := h.fresh (Chg.of_below hb)
/-- A list of labels in another hand. -/
abbrev GrL (w : World) (B : Nat) (v0 : Value) (n0 : Nat) (l : Value) (n : Nat) (xs : List Value) (W : World) : Prop := Gr (w.heap.size + 1) B 79 2 v0 n0 l n xs W
abbrev GrC (w : World) (B : Nat) (v0 : Value) (n0 : Nat) (l : Value) (n : Nat) (xs : List Value) (W : World) : Prop := Gr (w.heap.size + 1) B 57 2 v0 n0 l n xs W
theorem Gr.below {b0 B : Nat} {e : TypeId} {s n0 n : Nat} {v0 l : Value} {xs : List Value} {W W' : World} (h : Gr b0 B e s v0 n0 l n xs W) (hb : Below W.heap.size W W') : Gr b0 B e s v0 n0 l n xs W' := ⟨own_belG h.own hb, h.le, h.at_⟩
/-- .. while the other one is grown. -/
theorem Gr.other {b0 B B' : Nat} {e e' : TypeId} {s s' n0 n n0' n' m : Nat} {v0 l v0' l0 l' : Value} {xs ys news : List Value} {W W' : World} (h : Gr b0 B e s v0 n0 l n xs W) (h' : Gr b0 B' e' s' v0' n0' l0 n' ys W) (hne : e ≠ e')
    (k : (∃ g cap, l0 = .slice (some ⟨g, 0, none⟩) n' cap ∧ l' = .slice (some ⟨g, 0, none⟩) (n' + m) cap ∧ W'.ownsRow B' e' s' l' (n' + m) (ys ++ news) ∧ W.grownBy W' (some g)) ∨ (W'.ownsRow W.heap.size e' s' l' (n' + m) (ys ++ news) ∧ Below W.heap.size W W')) : Gr b0 B e s v0 n0 l n xs W' := by
  rcases k with ⟨g, cap, k1, k2, k3, k4⟩ | ⟨_, k2⟩
  · refine ⟨World.ownsRow.kept h.own k4 ?_, h.le, h.at_⟩
    have := own_apart h.own h'.own hne
    rw [k1] at this
    exact this
  · exact h.below k2
/-- The labels in another hand are grown by one. -/
theorem Sp.growL {w W W' : World} {p : Int} {r : Nat} {u : Value} {B : Nat} {J : List Rv} {ls : Nat → List La.Lb} {cs : Nat → List Cn} {i n : Nat} {l l' : Value} {xs news : List Value} (h : Sp w p r u B J ls cs W) (dj : Dj J) (hi : i < J.length) (hg : GrL w B J[i].2.1 (ls i).length l n xs W)
    (k : (∃ g cap, l = .slice (some ⟨g, 0, none⟩) n cap ∧ l' = .slice (some ⟨g, 0, none⟩) (n + 1) cap ∧ W'.ownsRow B 79 2 l' (n + 1) (xs ++ news) ∧ W.grownBy W' (some g)) ∨ (W'.ownsRow W.heap.size 79 2 l' (n + 1) (xs ++ news) ∧ Below W.heap.size W W')) : Sp w p r u B J ls cs W' ∧ GrL w B J[i].2.1 (ls i).length l' (n + 1) (xs ++ news) W' := by
  obtain ⟨q1, q2⟩ := Gr.step hg (h.sq.el i hi).1 h.size (by have := h.size; have := h.hB; omega) k
  refine ⟨?_, q1⟩
  rcases q2 with ⟨a, b⟩ | a
  · have := h.lab dj hi a b
    rw [upd_self] at this
    exact this
  · exact h.fresh a
theorem Sp.growC {w W W' : World} {p : Int} {r : Nat} {u : Value} {B : Nat} {J : List Rv} {ls : Nat → List La.Lb} {cs : Nat → List Cn} {i n : Nat} {l l' : Value} {xs news : List Value} (h : Sp w p r u B J ls cs W) (dj : Dj J) (hi : i < J.length) (hg : GrC w B J[i].2.2 (cs i).length l n xs W)
    (k : (∃ g cap, l = .slice (some ⟨g, 0, none⟩) n cap ∧ l' = .slice (some ⟨g, 0, none⟩) (n + 1) cap ∧ W'.ownsRow B 57 2 l' (n + 1) (xs ++ news) ∧ W.grownBy W' (some g)) ∨ (W'.ownsRow W.heap.size 57 2 l' (n + 1) (xs ++ news) ∧ Below W.heap.size W W')) : Sp w p r u B J ls cs W' ∧ GrC w B J[i].2.2 (cs i).length l' (n + 1) (xs ++ news) W' := by
  obtain ⟨q1, q2⟩ := Gr.step hg (h.sq.el i hi).2 h.size (by have := h.size; have := h.hB; omega) k
  refine ⟨?_, q1⟩
  rcases q2 with ⟨a, b⟩ | a
  · have := h.cnt dj hi a b
    rw [upd_self] at this
    exact this
  · exact h.fresh a
theorem Sp.growV {w W W' : World} {p : Int} {r : Nat} {u : Value} {B : Nat} {J : List Rv} {ls : Nat → List La.Lb} {cs : Nat → List Cn} {n : Nat} {l l' : Value} {xs news : List Value} (h : Sp w p r u B J ls cs W) (hg : Gr (w.heap.size + 1) B 45 11 u J.length l n xs W)
    (k : (∃ g cap, l = .slice (some ⟨g, 0, none⟩) n cap ∧ l' = .slice (some ⟨g, 0, none⟩) (n + 1) cap ∧ W'.ownsRow B 45 11 l' (n + 1) (xs ++ news) ∧ W.grownBy W' (some g)) ∨ (W'.ownsRow W.heap.size 45 11 l' (n + 1) (xs ++ news) ∧ Below W.heap.size W W')) : Sp w p r u B J ls cs W' ∧ Gr (w.heap.size + 1) B 45 11 u J.length l' (n + 1) (xs ++ news) W' := by
  obtain ⟨q1, q2⟩ := Gr.step hg h.sq.own h.size (by have := h.size; have := h.hB; omega) k
  refine ⟨?_, q1⟩
  rcases q2 with ⟨a, b⟩ | a
  · exact h.row a b
  · exact h.fresh a
end Go.Proofs.YtckdkcnnfjbdmaaGreat
/- THE DOCUMENT'S Spoil: the walk. Own work of the verifier. -/
namespace Go.Proofs.YtckdkcnnfjbdmaaGreat
open Go.RowKit Me

theorem Sq.fin {B : Nat} {u : Value} {J : List Rv} {m : Int} {i : Nat} {W : World} (h : Sq B u J (spdL J m i) (spdC J m i) W) (hi : J.length ≤ i) : Sq B u J (spL J m) (spC J m) W := ⟨h.own, fun j hj => by
  have k := h.el j hj
  unfold spdL spdC at k
  rw [if_pos (by omega), if_pos (by omega)] at k
  exact k⟩
/-- What Spoil does. -/
def SpQ (w : World) (u : Value) (B : Nat) (J : List Rv) (m : Int) (e : Ending) (w' : World) : Prop := e = .returned (.tuple #[]) ∧ Chg (Bk u J) w w' ∧ Sq B u J (spL J m) (spC J m) w'
set_option maxRecDepth 100000 in
set_option maxHeartbeats 8000000 in
theorem spoil_any (p : Int) (r : Nat) (u : Value) (B : Nat) (J : List Rv) (mark : Int) (hm : mark = 1 ∨ mark = 2 ∨ mark = 3) (w : World) (h : OR B u J w) (hB : B ≤ w.heap.size) (dj : Dj J) (hl : J.length ≤ 1048576) (hx : ∀ q ∈ J, q.1.d.labels.length ≤ 1048576 ∧ q.1.cs.length ≤ 1048576) :
    Calls Tryz.prog 25 #[.agg #[.int .i64 p, u, .int .u64 (r : Int)], .int .i64 mark] w fun e w' => SpQ w u B J mark e w' := by
  obtain ⟨uo, gu, cu, rfl, hpu, -⟩ := own_slice h.own
  have HN := hid_of (Sp.new h hB p r mark)
  have HD := hid_of dj
  have HX : Hid (∀ i, i < J.length → (lsO J i).length ≤ 1048576 ∧ (csO J i).length ≤ 1048576) := fun i hi => by rw [lsO_at hi, csO_at hi]; exact hx _ (List.getElem_mem hi)
  have w97 : IntKind.i64.wrap (97 + mark) = 97 + mark := by rw [IntKind.wrap_i64]; omega
  have wng : IntKind.i64.wrap (-mark) = -mark := by rw [IntKind.wrap_i64]; omega
  have hcr := cv_rune mark hm
  have hct := cv_text mark hm
  have hcu := cv_u64 mark hm
  have hmn : (mark.toNat : Int) = mark := by omega
  have Hmn := hid_of hmn
  clear h dj hx hm hmn
  go_enter Tryz.func25, Tryz.ntmps25
  go_upto_region 2 with fail
  generalize w.alloc (.cells #[.int .i64 p, .slice uo J.length cu, .int .u64 (r : Int)] 26) = w0 at HN ⊢
  go_loopw [4] (fun x W => ∃ i : Nat, i ≤ J.length ∧ x = .int .i64 (i : Int) ∧ Hid (Sp w p r (.slice uo J.length cu) B J (spdL J mark i) (spdC J mark i) W)) (fun x _ => J.length - (intOf x).toNat)
  case atStart => exact ⟨0, by omega, rfl, HN⟩
  case round =>
    clear HN
    obtain ⟨i, hi, rfl, HS⟩ := hrel
    obtain ⟨c0, c1, c2, _, _, _⟩ := three_cells HS.out.g1
    by_cases hlt : i < J.length
    · have hlt' : (i : Int) < (J.length : Int) := by omega
      obtain rfl := hpu (by omega)
      have hix := index_val gu 0 J.length cu i (i : Int) rfl hlt
      rw [Nat.zero_add] at hix
      have hrow := own_row HS.out.sq.own rfl i hlt
      rw [Nat.zero_add] at hrow
      obtain ⟨la, gl, lc, hlv, hpl, -⟩ := own_slice (HS.out.sq.el i hlt).1
      obtain ⟨ca, gc, cc, hcv, hpc, -⟩ := own_slice (HS.out.sq.el i hlt).2
      rw [spdL_at] at hlv hpl
      rw [spdC_at] at hcv hpc
      have r3 := hrow.c3
      have r6 := hrow.c6
      rw [hlv] at r3
      rw [hcv] at r6
      obtain ⟨bl1, bl2⟩ := HX.out i hlt
      have Hlv := hid_of hlv
      have Hcv := hid_of hcv
      have HS0 : Hid (Sp w p r (.slice (some ⟨gu, 0, none⟩) J.length cu) B J (upd (spdL J mark i) i (List.replicate 0 (mkL mark) ++ (lsO J i).drop 0)) (spdC J mark i) wr) := by
        unfold Hid
        rw [List.replicate_zero, List.nil_append, List.drop_zero, ← spdL_at J mark i, upd_self]
        exact HS.out
      clear hrow hlv hcv HS
      go_upto_region 7 with fail
      clear c0 c1 c2 r3 r6 hix
      go_loopw [7] (fun x W => ∃ k : Nat, k ≤ (lsO J i).length ∧ x = .int .i64 (k : Int) ∧ Hid (Sp w p r (.slice (some ⟨gu, 0, none⟩) J.length cu) B J (upd (spdL J mark i) i (List.replicate k (mkL mark) ++ (lsO J i).drop k)) (spdC J mark i) W)) (fun x _ => (lsO J i).length - (intOf x).toNat)
      case atStart => exact ⟨0, by omega, rfl, HS0⟩
      case round =>
        clear HS0
        obtain ⟨k, hk, rfl, HK⟩ := hrel
        by_cases hkt : k < (lsO J i).length
        · have hkt' : (k : Int) < ((lsO J i).length : Int) := by omega
          obtain rfl := hpl (by omega)
          have hiy := La.index_lab gl 0 (lsO J i).length lc k (k : Int) rfl hkt
          rw [Nat.zero_add] at hiy
          have hol := (HK.out.sq.el i hlt).1
          rw [upd_at, Hlv.out] at hol
          have hln := rep_len (lsO J i) (mkL mark) k (by omega)
          have f0 : wr.frozen? ⟨gl, k * 2, none⟩ = false := by
            have := hol
            unfold OwnL at this
            rw [hln] at this
            exact this.frozenAt (k * 2)
          have f1 : wr.frozen? ⟨gl, k * 2 + 1, none⟩ = false := by
            have := hol
            unfold OwnL at this
            rw [hln] at this
            exact this.frozenAt (k * 2 + 1)
          have hcl : (∃ x, wr.cell? ⟨gl, k * 2, none⟩ = some x) ∧ ∃ y, wr.cell? ⟨gl, k * 2 + 1, none⟩ = some y := by
            have := hol
            unfold OwnL at this
            rw [hln] at this
            obtain ⟨q1, q2⟩ := flL_get (List.replicate k (mkL mark) ++ (lsO J i).drop k) k (by rw [hln]; exact hkt)
            exact ⟨⟨_, (this.cellAt (k * 2) (by omega)).trans q1⟩, ⟨_, (this.cellAt (k * 2 + 1) (by omega)).trans q2⟩⟩
          obtain ⟨⟨x0, e0⟩, ⟨x1, e1⟩⟩ := hcl
          have HP := hid_of (OwnL.put hol hln (k := k) (by rw [hln]; exact hkt) (mkL mark))
          clear hol hln
          go_wp2_with fail
          refine ⟨⟨k + 1, by omega, by go_num, ?_⟩, by simp [intOf]; omega⟩
          have := HK.out.lab HD.out hlt (by rw [Hlv.out]; exact HP.out.2) (by rw [Hlv.out]; exact HP.out.1)
          rw [upd_upd, rep_step _ _ _ hkt] at this
          exact this
        · have hkt' : ¬ (k : Int) < ((lsO J i).length : Int) := by omega
          have HS1 : Hid (Sp w p r (.slice (some ⟨gu, 0, none⟩) J.length cu) B J (upd (spdL J mark i) i (spL J mark i)) (upd (spdC J mark i) i (List.replicate 0 (mkC mark) ++ (csO J i).drop 0)) wr) := by
            have := HK.out
            rw [rep_end _ _ _ (by omega) hk] at this
            unfold Hid
            rw [List.replicate_zero, List.nil_append, List.drop_zero, ← spdC_at J mark i, upd_self]
            exact this
          clear HK
          go_upto_region 11 with fail
          go_loopw [8] (fun x W => ∃ k : Nat, k ≤ (csO J i).length ∧ x = .int .i64 (k : Int) ∧ Hid (Sp w p r (.slice (some ⟨gu, 0, none⟩) J.length cu) B J (upd (spdL J mark i) i (spL J mark i)) (upd (spdC J mark i) i (List.replicate k (mkC mark) ++ (csO J i).drop k)) W)) (fun x _ => (csO J i).length - (intOf x).toNat)
          case atStart => exact ⟨0, by omega, rfl, HS1⟩
          case round =>
            clear HS1
            obtain ⟨m, hm, rfl, HK⟩ := hrel
            by_cases hmt : m < (csO J i).length
            · have hmt' : (m : Int) < ((csO J i).length : Int) := by omega
              obtain rfl := hpc (by omega)
              have hiy := index_cnt gc 0 (csO J i).length cc m (m : Int) rfl hmt
              rw [Nat.zero_add] at hiy
              have hol := (HK.out.sq.el i hlt).2
              rw [upd_at, Hcv.out] at hol
              have hln := rep_len (csO J i) (mkC mark) m (by omega)
              have f0 : wr.frozen? ⟨gc, m * 2, none⟩ = false := by
                have := hol
                unfold OwnC at this
                rw [hln] at this
                exact this.frozenAt (m * 2)
              have f1 : wr.frozen? ⟨gc, m * 2 + 1, none⟩ = false := by
                have := hol
                unfold OwnC at this
                rw [hln] at this
                exact this.frozenAt (m * 2 + 1)
              have hcl : (∃ x, wr.cell? ⟨gc, m * 2, none⟩ = some x) ∧ ∃ y, wr.cell? ⟨gc, m * 2 + 1, none⟩ = some y := by
                have := hol
                unfold OwnC at this
                rw [hln] at this
                have q0 := this.1
                exact ⟨⟨_, (this.cellAt (m * 2) (by omega)).trans (List.getElem?_eq_getElem (by rw [q0]; omega))⟩, ⟨_, (this.cellAt (m * 2 + 1) (by omega)).trans (List.getElem?_eq_getElem (by rw [q0]; omega))⟩⟩
              obtain ⟨⟨x0, e0⟩, ⟨x1, e1⟩⟩ := hcl
              have HP := hid_of (OwnC.put hol hln (k := m) (by rw [hln]; exact hmt) (mkC mark))
              clear hol hln
              go_wp2_with fail
              refine ⟨⟨m + 1, by omega, by go_num, ?_⟩, by simp [intOf]; omega⟩
              have hq : (((mkC mark).2 : Nat) : Int) = mark := Hmn.out
              rw [hq] at HP
              have := HK.out.cnt HD.out hlt (by rw [Hcv.out]; exact HP.out.2) (by rw [Hcv.out]; exact HP.out.1)
              rw [upd_upd, rep_step _ _ _ hmt] at this
              exact this
            · have hmt' : ¬ (m : Int) < ((csO J i).length : Int) := by omega
              have HS2 : Hid (Sp w p r (.slice (some ⟨gu, 0, none⟩) J.length cu) B J (spdL J mark (i + 1)) (spdC J mark (i + 1)) wr) := by
                have := HK.out
                rw [rep_end _ _ _ (by omega) hm, spdL_next] at this
                have e : List.replicate (csO J i).length (mkC mark) = spC J mark i := rfl
                rw [e, spdC_next] at this
                exact this
              have eL : spdL J mark (i + 1) i = spL J mark i := by unfold spdL; rw [if_pos (by omega)]
              have eC : spdC J mark (i + 1) i = spC J mark i := by unfold spdC; rw [if_pos (by omega)]
              have hnl : (spdL J mark (i + 1) i).length = (lsO J i).length := by rw [eL]; unfold spL; rw [List.length_replicate]
              have hnc : (spdC J mark (i + 1) i).length = (csO J i).length := by rw [eC]; unfold spC; rw [List.length_replicate]
              have HG1 : Hid (GrL w B J[i].2.1 (spdL J mark (i + 1) i).length (.slice la (lsO J i).length lc) (lsO J i).length (flL (spdL J mark (i + 1) i)) wr) := by
                have := Gr.start (b0 := w.heap.size + 1) (HS2.out.sq.el i hlt).1
                rw [Hlv.out, hnl] at this
                unfold Hid
                rw [Hlv.out, hnl]
                exact this
              have HG2 : Hid (GrC w B J[i].2.2 (spdC J mark (i + 1) i).length (.slice ca (csO J i).length cc) (csO J i).length (fl (spdC J mark (i + 1) i)) wr) := by
                have := Gr.start (b0 := w.heap.size + 1) (HS2.out.sq.el i hlt).2
                rw [Hcv.out, hnc] at this
                unfold Hid
                rw [Hcv.out, hnc]
                exact this
              clear HK eL eC hnl hnc
              go_upto_region 15 with fail
              go_loopw [5, 6, 9] (fun l c x W => ∃ (k : Nat) (xs ys : List Value), k ≤ 5 ∧ x = .int .i64 (k : Int) ∧ Hid (Sp w p r (.slice (some ⟨gu, 0, none⟩) J.length cu) B J (spdL J mark (i + 1)) (spdC J mark (i + 1)) W) ∧ Hid (GrL w B J[i].2.1 (spdL J mark (i + 1) i).length l ((lsO J i).length + k) xs W) ∧ Hid (GrC w B J[i].2.2 (spdC J mark (i + 1) i).length c ((csO J i).length + k) ys W)) (fun _ _ x _ => 5 - (intOf x).toNat)
              case atStart => exact ⟨0, _, _, by omega, rfl, HS2, HG1, HG2⟩
              case round =>
                clear HS2 HG1 HG2
                obtain ⟨q, xs, ys, hq, rfl, HS2, HG1, HG2⟩ := hrel
                by_cases hq5 : q < 5
                · have hq5' : (q : Int) < 5 := by omega
                  obtain ⟨al, bl3, cl3, rfl, -⟩ := own_slice HG1.out.own
                  obtain ⟨ac, bc3, cc3, rfl, -⟩ := own_slice HG2.out.own
                  go_upto_region 17 with fail
                  go_cut [5] from 64 to 67 (fun l W => ∃ xs, Hid (Sp w p r (.slice (some ⟨gu, 0, none⟩) J.length cu) B J (spdL J mark (i + 1)) (spdC J mark (i + 1)) W) ∧ Hid (GrL w B J[i].2.1 (spdL J mark (i + 1) i).length l ((lsO J i).length + (q + 1)) xs W) ∧ Hid (GrC w B J[i].2.2 (spdC J mark (i + 1) i).length (.slice ac ((csO J i).length + q) cc3) ((csO J i).length + q) ys W))
                  case first =>
                    obtain ⟨i0, hi0, hz0, hz1, hz2⟩ := info_parts infoLabel
                    have hz0' := hid_of hz0
                    have hz1' := hid_of hz1
                    have hz2' := hid_of hz2
                    clear hz0 hz1 hz2
                    go_wp2_with (first
                      | (at_builtin; refine wpList_append_two _ rfl _ _ 34 rfl B 79 i0 _ 2 32 Tryz.underlying34 hi0 hz0'.out hz1'.out hz2'.out rfl _ _ xs rfl (own_belG HG1.out.own (bel1 _ _)) _ 1 1 [.string ⟨#[103, 114, 111, 119, 110]⟩, .string ⟨#[]⟩] rfl rfl (World.news_of_block (new_1 _ _)) (fun u hu => by simp only [List.mem_cons, List.not_mem_nil, or_false] at hu; rcases hu with rfl | rfl <;> rfl) (by omega) (by unfold maxLen; omega) (by omega) ?_; intro v' w' hcase))
                    go_meet
                    obtain ⟨s1, s2⟩ := (HS2.out.below (bel1 _ _)).growL HD.out hlt (HG1.out.below (bel1 _ _)) hcase
                    exact ⟨_, s1, s2, (HG2.out.below (bel1 _ _)).other (HG1.out.below (bel1 _ _)) typesCL hcase⟩
                  case rest =>
                  obtain ⟨xs', HS3, HG3, HG4⟩ := hcut
                  obtain ⟨al', bl4, cl4, rfl, -⟩ := own_slice HG3.out.own
                  clear HS2 HG1 HG2
                  go_upto_region 18 with fail
                  obtain ⟨i0, hi0, hz0, hz1, hz2⟩ := info_parts infoC
                  have hz0' := hid_of hz0
                  have hz1' := hid_of hz1
                  have hz2' := hid_of hz2
                  clear hz0 hz1 hz2
                  go_wp2_with (first
                    | (at_builtin; refine wpList_append_two _ rfl _ _ 42 rfl B 57 i0 _ 2 16 Tryz.underlying42 hi0 hz0'.out hz1'.out hz2'.out rfl _ _ ys rfl (own_belG HG4.out.own (bel1 _ _)) _ 1 1 [.int .i64 (-99), .int .u64 0] rfl rfl (World.news_of_block (new_1 _ _)) (fun u hu => by simp only [List.mem_cons, List.not_mem_nil, or_false] at hu; rcases hu with rfl | rfl <;> rfl) (by omega) (by unfold maxLen; omega) (by omega) ?_; intro v' w' hcase))
                  have hs := (HS3.out.below (bel1 _ _)).growC HD.out hlt (HG4.out.below (bel1 _ _)) hcase
                  exact ⟨⟨q + 1, _, _, by omega, by go_num, hs.1, (HG3.out.below (bel1 _ _)).other (HG4.out.below (bel1 _ _)) typesCL.symm hcase, hs.2⟩, by simp [intOf]; omega⟩
                · have hq5' : ¬ (q : Int) < 5 := by omega
                  clear HG1 HG2
                  go_wp2_with fail
                  exact ⟨⟨i + 1, by omega, by go_num, HS2⟩, by simp [intOf]; omega⟩
    · have hlt' : ¬ (i : Int) < (J.length : Int) := by omega
      have HG : Hid (Gr (w.heap.size + 1) B 45 11 (.slice uo J.length cu) J.length (.slice uo J.length cu) J.length (flV J) wr) := Gr.start HS.out.sq.own
      have Hle : Hid (J.length ≤ i) := by unfold Hid; omega
      go_upto_region 21 with fail
      clear c0 c1 c2
      go_loopw [10, 11] (fun l x W => ∃ (k : Nat) (xs : List Value), k ≤ 5 ∧ x = .int .i64 (k : Int) ∧ Hid (Sp w p r (.slice uo J.length cu) B J (spdL J mark i) (spdC J mark i) W) ∧ Hid (Gr (w.heap.size + 1) B 45 11 (.slice uo J.length cu) J.length l (J.length + k) xs W)) (fun _ x _ => 5 - (intOf x).toNat)
      case atStart => exact ⟨0, _, by omega, rfl, HS, HG⟩
      case round =>
        clear HS HG
        obtain ⟨q, xs, hq, rfl, HS, HG⟩ := hrel
        by_cases hq5 : q < 5
        · have hq5' : (q : Int) < 5 := by omega
          obtain ⟨al, bl3, cl3, rfl, -⟩ := own_slice HG.out.own
          obtain ⟨i0, hi0, hz0, hz1, hz2⟩ := info_parts infoV
          have hz0' := hid_of hz0
          have hz1' := hid_of hz1
          have hz2' := hid_of hz2
          clear hz0 hz1 hz2
          go_wp2_with (first
            | (at_builtin; refine wpList_append_two _ rfl _ _ 23 rfl B 45 i0 _ 11 136 Tryz.underlying23 hi0 hz0'.out hz1'.out hz2'.out rfl _ _ xs rfl (own_belG HG.out.own (bel1 _ _)) _ 1 1 [.int .i64 0, .string ⟨#[]⟩, .string ⟨#[]⟩, .slice none 0 0, .int .i64 0, .int .u64 0, .slice none 0 0, .int .u64 99, .float .f64 0, .float .f64 0, .float .f64 0] rfl rfl (World.news_of_block (new_1 _ _)) (fun u hu => by simp only [List.mem_cons, List.not_mem_nil, or_false] at hu; rcases hu with rfl | rfl | rfl | rfl | rfl | rfl | rfl | rfl | rfl | rfl | rfl <;> rfl) (by omega) (by unfold maxLen; omega) (by omega) ?_; intro v' w' hcase))
          have hs := (HS.out.below (bel1 _ _)).growV (HG.out.below (bel1 _ _)) hcase
          exact ⟨⟨q + 1, _, by omega, by go_num, hs.1, hs.2⟩, by simp [intOf]; omega⟩
        · have hq5' : ¬ (q : Int) < 5 := by omega
          clear HG
          go_wp2_with fail
          refine bodyPost_end (results_none rfl _ _ _) rfl ?_
          exact ⟨rfl, HS.out.ch, HS.out.sq.fin Hle.out⟩
end Go.Proofs.YtckdkcnnfjbdmaaGreat
/- THE DOCUMENT'S Spoilt. Own work of the verifier. -/
namespace Go.Proofs.YtckdkcnnfjbdmaaGreat
open Go.RowKit Me

theorem rep_getL {n k : Nat} (m : Int) (h : k < n) : (flL (List.replicate n (mkL m)))[k * 2]? = some (.string ⟨#[115, 112, 111, 105, 108, 116]⟩) ∧ (flL (List.replicate n (mkL m)))[k * 2 + 1]? = some (.string ⟨(mkB m).toArray⟩) := by
  have := flL_get (List.replicate n (mkL m)) k (by rw [List.length_replicate]; exact h)
  rw [List.getElem_replicate] at this
  exact this
theorem fl_getR (L : List Cn) (i : Nat) (h : i < L.length) : (fl L)[i * 2]? = some (.int .i64 L[i].1) ∧ (fl L)[i * 2 + 1]? = some (.int .u64 (L[i].2 : Int)) := by
  induction L generalizing i with
  | nil => simp at h
  | cons c L ih =>
    cases i with
    | zero => exact ⟨rfl, rfl⟩
    | succ i =>
      have := ih i (by simpa using h)
      rw [show (i + 1) * 2 = i * 2 + 2 by omega]
      simpa [fl] using this
theorem rep_getC {n k : Nat} (m : Int) (h : k < n) : (fl (List.replicate n (mkC m)))[k * 2]? = some (.int .i64 (-m)) ∧ (fl (List.replicate n (mkC m)))[k * 2 + 1]? = some (.int .u64 (m.toNat : Int)) := by
  have := fl_getR (List.replicate n (mkC m)) k (by rw [List.length_replicate]; exact h)
  rw [List.getElem_replicate] at this
  exact this
set_option maxRecDepth 100000 in
set_option maxHeartbeats 8000000 in
theorem spoilt_any (p : Int) (r : Nat) (u : Value) (B : Nat) (J : List Rv) (mark : Int) (hm : mark = 1 ∨ mark = 2 ∨ mark = 3) (w : World) (h : Sq B u J (spL J mark) (spC J mark) w) :
    Calls Tryz.prog 26 #[.agg #[.int .i64 p, u, .int .u64 (r : Int)], .int .i64 mark] w fun e w' => e = .returned (.bool true) ∧ Below w.heap.size w w' := by
  obtain ⟨uo, gu, cu, rfl, hpu, hle0, hcu63⟩ := own_slice h.own
  have HG := hid_of (new_1 w (.cells #[.int .i64 p, .slice uo J.length cu, .int .u64 (r : Int)] 26))
  have HS := hid_of (h.below (bel1 w (.cells #[.int .i64 p, .slice uo J.length cu, .int .u64 (r : Int)] 26)))
  have HB := hid_of (bel1 w (.cells #[.int .i64 p, .slice uo J.length cu, .int .u64 (r : Int)] 26))
  have w97 : IntKind.i64.wrap (97 + mark) = 97 + mark := by rw [IntKind.wrap_i64]; omega
  have wng : IntKind.i64.wrap (-mark) = -mark := by rw [IntKind.wrap_i64]; omega
  have hcr := cv_rune mark hm
  have hct := cv_text mark hm
  have hcu := cv_u64 mark hm
  have hmn : (mark.toNat : Int) = mark := by omega
  have hlen : J.length ≤ 9223372036854775807 := by omega
  clear h hm
  go_enter Tryz.func26, Tryz.ntmps26
  go_upto_region 2 with fail
  generalize w.alloc (.cells #[.int .i64 p, .slice uo J.length cu, .int .u64 (r : Int)] 26) = w0 at HG HS HB ⊢
  go_loopw [5] (fun x W => ∃ i : Nat, i ≤ J.length ∧ x = .int .i64 (i : Int) ∧ Hid (w0 = W)) (fun x _ => J.length - (intOf x).toNat)
  case atStart => exact ⟨0, by omega, rfl, hid_of rfl⟩
  case round =>
    obtain ⟨i, hi, rfl, HE⟩ := hrel
    have he := HE.out
    clear HE
    subst he
    obtain ⟨c0, c1, c2, _, _, _⟩ := three_cells HG.out
    by_cases hlt : i < J.length
    · have hlt' : (i : Int) < (J.length : Int) := by omega
      obtain rfl := hpu (by omega)
      have hix := index_val gu 0 J.length cu i (i : Int) rfl hlt
      rw [Nat.zero_add] at hix
      have hrow := own_row HS.out.own rfl i hlt
      rw [Nat.zero_add] at hrow
      obtain ⟨la, gl, lc, hlv, hpl, bl0, bl1⟩ := own_slice (HS.out.el i hlt).1
      obtain ⟨ca, gc, cc, hcv, hpc, bl3, bl2⟩ := own_slice (HS.out.el i hlt).2
      have eL : (spL J mark i).length = (lsO J i).length := by unfold spL; rw [List.length_replicate]
      have eC : (spC J mark i).length = (csO J i).length := by unfold spC; rw [List.length_replicate]
      rw [eL] at hlv hpl bl0
      rw [eC] at hcv hpc bl3
      have r3 := hrow.c3
      have r6 := hrow.c6
      rw [hlv] at r3
      rw [hcv] at r6
      have Hlv := hid_of hlv
      have Hcv := hid_of hcv
      have HeL := hid_of eL
      have HeC := hid_of eC
      clear hrow hlv hcv eL eC
      go_upto_region 7 with fail
      clear c0 c1 c2 r3 r6 hix
      go_loopw [8] (fun x W => ∃ k : Nat, k ≤ (lsO J i).length ∧ x = .int .i64 (k : Int) ∧ Hid (w0 = W)) (fun x _ => (lsO J i).length - (intOf x).toNat)
      case atStart => exact ⟨0, by omega, rfl, hid_of rfl⟩
      case round =>
        obtain ⟨k, hk, rfl, HE⟩ := hrel
        have he := HE.out
        clear HE
        subst he
        by_cases hkt : k < (lsO J i).length
        · have hkt' : (k : Int) < ((lsO J i).length : Int) := by omega
          obtain rfl := hpl (by omega)
          have hiy := La.index_lab gl 0 (lsO J i).length lc k (k : Int) rfl hkt
          rw [Nat.zero_add] at hiy
          have hol := (HS.out.el i hlt).1
          rw [Hlv.out] at hol
          unfold OwnL at hol
          rw [HeL.out] at hol
          obtain ⟨q1, q2⟩ := rep_getL mark hkt
          have e0 := (hol.cellAt (k * 2) (by omega)).trans q1
          have e1 := (hol.cellAt (k * 2 + 1) (by omega)).trans q2
          clear hol q1 q2
          go_wp2_with fail
          exact ⟨⟨k + 1, by omega, by go_num, by first | exact hid_of rfl | exact hid_of trivial⟩, by simp [intOf]; omega⟩
        · have hkt' : ¬ (k : Int) < ((lsO J i).length : Int) := by omega
          go_upto_region 12 with fail
          go_loopw [9] (fun x W => ∃ k : Nat, k ≤ (csO J i).length ∧ x = .int .i64 (k : Int) ∧ Hid (w0 = W)) (fun x _ => (csO J i).length - (intOf x).toNat)
          case atStart => exact ⟨0, by omega, rfl, hid_of rfl⟩
          case round =>
            obtain ⟨m, hm, rfl, HE⟩ := hrel
            have he := HE.out
            clear HE
            subst he
            by_cases hmt : m < (csO J i).length
            · have hmt' : (m : Int) < ((csO J i).length : Int) := by omega
              obtain rfl := hpc (by omega)
              have hiy := index_cnt gc 0 (csO J i).length cc m (m : Int) rfl hmt
              rw [Nat.zero_add] at hiy
              have hol := (HS.out.el i hlt).2
              rw [Hcv.out] at hol
              unfold OwnC at hol
              rw [HeC.out] at hol
              obtain ⟨q1, q2⟩ := rep_getC mark hmt
              rw [hmn] at q2
              have e0 := (hol.cellAt (m * 2) (by omega)).trans q1
              have e1 := (hol.cellAt (m * 2 + 1) (by omega)).trans q2
              clear hol q1 q2
              go_wp2_with fail
              exact ⟨⟨m + 1, by omega, by go_num, by first | exact hid_of rfl | exact hid_of trivial⟩, by simp [intOf]; omega⟩
            · have hmt' : ¬ (m : Int) < ((csO J i).length : Int) := by omega
              go_wp2_with fail
              exact ⟨⟨i + 1, by omega, by go_num, by first | exact hid_of rfl | exact hid_of trivial⟩, by simp [intOf]; omega⟩
    · have hlt' : ¬ (i : Int) < (J.length : Int) := by omega
      go_wp2_with fail
      go_ret
      exact ⟨rfl, HB.out⟩
end Go.Proofs.YtckdkcnnfjbdmaaGreat
