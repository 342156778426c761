/- LISTS OF LABELS in memory. Own work of the verifier. -/
import Derived.Test.YtbgdmlekhobjdaaGreatB4
import Derived.Test.YtbgdmlekhobjdaaGreatS3
import Derived.Test.YtbgdmlekhobjdaaGreatME1
namespace Go.Proofs.YtbgdmlekhobjdaaGreat
open Go.RowKit

abbrev Lb : Type := List UInt8 × List UInt8
/-- Labels, one behind the other. -/
def RowL (W : World) (b o : Nat) (L : List Lb) : Prop := ∀ i (h : i < L.length), W.cell? ⟨b, o + i * 2, none⟩ = some (.string ⟨L[i].1.toArray⟩) ∧ W.cell? ⟨b, o + i * 2 + 1, none⟩ = some (.string ⟨L[i].2.toArray⟩)
theorem RowL.below {W W1 : World} {b o : Nat} {L : List Lb} (h : RowL W b o L) (hb : Below W.heap.size W W1) : RowL W1 b o L := fun i hi => by
  obtain ⟨h1, h2⟩ := h i hi
  rw [hb.cell (p := ⟨b, o + i * 2, none⟩) (lt_of_cell h1), hb.cell (p := ⟨b, o + i * 2 + 1, none⟩) (lt_of_cell h2)]
  exact ⟨h1, h2⟩
def flL : List Lb → List Value
  | [] => []
  | c :: L => .string ⟨c.1.toArray⟩ :: .string ⟨c.2.toArray⟩ :: flL L
theorem flL_length (L : List Lb) : (flL L).length = L.length * 2 := by
  induction L with
  | nil => rfl
  | cons c L ih => simp only [flL, List.length_cons, ih]; omega
theorem flL_append (A B : List Lb) : flL (A ++ B) = flL A ++ flL B := by
  induction A with
  | nil => rfl
  | cons c A ih => simp only [List.cons_append, flL, ih]
theorem flL_get (L : List Lb) (i : Nat) (h : i < L.length) : (flL L)[i * 2]? = some (.string ⟨L[i].1.toArray⟩) ∧ (flL L)[i * 2 + 1]? = some (.string ⟨L[i].2.toArray⟩) := by
  induction L generalizing i with
  | nil => simp at h
  | cons c L ih =>
    cases i with
    | zero => exact ⟨rfl, rfl⟩
    | succ i =>
      have := ih i (by simpa using h)
      rw [show (i + 1) * 2 = i * 2 + 2 by omega]
      simpa [flL] using this
theorem infoLabel : (Tryz.prog.info? 56).map (fun i => (i.zero, i.size, i.bytes)) = some (some (.agg #[.string ⟨#[]⟩, .string ⟨#[]⟩]), 2, 32) := by kernel_rfl
def rl (n : Nat) (m : Lb) : List Lb := List.replicate n m
theorem rl_len (n : Nat) (m : Lb) : (rl n m).length = n := by simp [rl]
theorem rl_succ (n : Nat) (m : Lb) : flL (rl (n + 1) m) = flL (rl n m) ++ [.string ⟨m.1.toArray⟩, .string ⟨m.2.toArray⟩] := by
  unfold rl
  rw [List.replicate_succ', flL_append]
  rfl
theorem flL_rl_take (n k : Nat) (m : Lb) : (flL (rl (n + k) m)).take (n * 2) = flL (rl n m) := by
  unfold rl
  rw [← List.replicate_append_replicate, flL_append, List.take_append_of_le_length (by rw [flL_length, List.length_replicate]; omega)]
  rw [List.take_of_length_le (by rw [flL_length, List.length_replicate]; omega)]
/-- Counts in a row of the call's own. -/
def OwnL (B : Nat) (v : Value) (L : List Lb) (W : World) : Prop := W.ownsRow B 56 2 v L.length (flL L)
theorem OwnL.bel {B : Nat} {v : Value} {L : List Lb} {W W' : World} (h : OwnL B v L W) (hb : Below W.heap.size W W') : OwnL B v L W' := own_belG h hb
/-- While a list is written over. -/
structure WL (B : Nat) (W1 : World) (A : List Lb) (v : Value) (m : Lb) (q : Nat) (W : World) : Prop where
  own : W.ownsRow B 56 2 v A.length (flL (rl q m) ++ flL (A.drop q))
  grown : W1.grownBy W v.ownBlock
theorem overL (A : List Lb) (m : Lb) (q : Nat) (h : q < A.length) : ((flL (rl q m) ++ flL (A.drop q)).set (q * 2) (.string ⟨m.1.toArray⟩)).set (q * 2 + 1) (.string ⟨m.2.toArray⟩) = flL (rl (q + 1) m) ++ flL (A.drop (q + 1)) := by
  rw [List.drop_eq_getElem_cons h, flL, rl_succ, List.append_assoc]
  rw [List.set_append_right _ _ (by rw [flL_length, rl_len]; omega), List.set_append_right _ _ (by rw [flL_length, rl_len]; omega)]
  rw [flL_length, rl_len, show q * 2 - q * 2 = 0 by omega, show q * 2 + 1 - q * 2 = 1 by omega]
  rfl
theorem WL.step {B : Nat} {W1 : World} {A : List Lb} {b cp : Nat} {m : Lb} {q : Nat} {W : World} (h : WL B W1 A (.slice (some ⟨b, 0, none⟩) A.length cp) m q W) (hq : q < A.length) : WL B W1 A (.slice (some ⟨b, 0, none⟩) A.length cp) m (q + 1) ((W.setCell ⟨b, q * 2, none⟩ (.string ⟨m.1.toArray⟩)).setCell ⟨b, q * 2 + 1, none⟩ (.string ⟨m.2.toArray⟩)) := by
  obtain ⟨s1, g1⟩ := h.own.stored (q * 2) (.string ⟨m.1.toArray⟩)
  obtain ⟨s2, g2⟩ := s1.stored (q * 2 + 1) (.string ⟨m.2.toArray⟩)
  rw [overL A m q hq] at s2
  exact ⟨s2, grown_trans h.grown (grown_trans g1 g2)⟩
theorem WL.start {B : Nat} {W1 : World} {A : List Lb} {v : Value} {m : Lb} (h : OwnL B v A W1) : WL B W1 A v m 0 W1 := ⟨by have h' : W1.ownsRow B 56 2 v A.length (flL A) := h; simpa [rl, flL] using h', grown_bel (Below.refl _ _)⟩
theorem WL.done {B : Nat} {W1 : World} {A : List Lb} {v : Value} {m : Lb} {W : World} (h : WL B W1 A v m A.length W) : OwnL B v (rl A.length m) W := by
  have := h.own
  rw [List.drop_of_length_le (Nat.le_refl _)] at this
  unfold OwnL
  rw [rl_len]
  simpa [flL] using this
/-- While marks are appended: the list itself stays as it is within its length. -/
structure AL (B : Nat) (W1 : World) (v l : Value) (n k : Nat) (m : Lb) (W : World) : Prop where
  own : OwnL B v (rl n m) W
  cur : OwnL B l (rl (n + k) m) W
  grown : W1.grownBy W v.ownBlock
  at_ : l.ownBlock = none ∨ l.ownBlock = v.ownBlock ∨ ∃ g, l.ownBlock = some g ∧ W1.heap.size ≤ g
theorem AL.curRow {B : Nat} {W1 : World} {v l : Value} {n k : Nat} {m : Lb} {W W2 : World} (h : AL B W1 v l n k m W) (hb : Below W.heap.size W W2) : W2.ownsRow B 56 2 l (n + k) (flL (rl (n + k) m)) := by
  have q : OwnL B l (rl (n + k) m) W2 := h.cur.bel hb
  unfold OwnL at q
  rw [rl_len] at q
  exact q
theorem AL.push {B : Nat} {W1 : World} {v l l' : Value} {n k : Nat} {m : Lb} {W W2 W3 : World} (h : AL B W1 v l n k m W) (hsz : B ≤ W1.heap.size) (ha : Below W.heap.size W W2)
    (hp : (∃ g cap, l = .slice (some ⟨g, 0, none⟩) (n + k) cap ∧ l' = .slice (some ⟨g, 0, none⟩) (n + k + 1) cap ∧ W3.ownsRow B 56 2 l' (n + k + 1) (flL (rl (n + k) m) ++ [.string ⟨m.1.toArray⟩, .string ⟨m.2.toArray⟩]) ∧ W2.grownBy W3 (some g)) ∨ (W3.ownsRow W2.heap.size 56 2 l' (n + k + 1) (flL (rl (n + k) m) ++ [.string ⟨m.1.toArray⟩, .string ⟨m.2.toArray⟩]) ∧ Below W2.heap.size W2 W3)) :
    AL B W1 v l' n (k + 1) m W3 := by
  have h2 : OwnL B v (rl n m) W2 := h.own.bel ha
  have h2c : OwnL B l (rl (n + k) m) W2 := h.cur.bel ha
  have g2 : W1.grownBy W2 v.ownBlock := grown_trans h.grown (grown_bel ha)
  have hb2 : B ≤ W2.heap.size := Nat.le_trans hsz g2.size
  rw [← rl_succ] at hp
  unfold OwnL at h2 h2c
  rw [rl_len] at h2 h2c
  rcases hp with ⟨g, cap, rfl, rfl, hr, hg⟩ | ⟨hr, hB⟩
  · refine ⟨?_, ?_, ?_, ?_⟩
    · unfold OwnL
      rw [rl_len]
      by_cases e : v.ownBlock = some g
      · rcases h2.2 with ⟨q, _⟩ | ⟨g', cap', cur, q, _⟩
        · rw [q] at e; cases e
        · subst q
          cases e
          have hc := own_cap h2 h2c
          subst hc
          have := own_take hr (n := n) (by omega)
          rw [show n + k + 1 = n + (k + 1) by omega, flL_rl_take] at this
          exact this
      · exact World.ownsRow.kept h2 hg (Or.inr e)
    · unfold OwnL
      rw [rl_len]
      exact hr
    · refine grown_new g2 hg ?_
      rcases h.at_ with q | q | ⟨g', q, q1⟩
      · cases q
      · exact Or.inl q.symm
      · cases q
        exact Or.inr q1
    · exact h.at_
  · refine ⟨?_, ?_, grown_trans g2 (grown_bel hB), ?_⟩
    · have : OwnL B v (rl n m) W2 := h.own.bel ha
      exact this.bel hB
    · unfold OwnL
      rw [rl_len]
      exact own_leG hr hb2
    · rcases own_atG hr with q | ⟨g, q, q1, _⟩
      · exact Or.inl q
      · exact Or.inr (Or.inr ⟨g, q, Nat.le_trans g2.size q1⟩)
theorem OwnL.open {B : Nat} {v : Value} {L : List Lb} {W : World} (h : OwnL B v L W) : ∃ ao b cap, v = .slice ao L.length cap ∧ (L ≠ [] → ao = some ⟨b, 0, none⟩) ∧ RowL W b 0 L ∧ L.length ≤ cap ∧ cap ≤ 9223372036854775807 := by
  rcases h.2 with ⟨h1, h2⟩ | ⟨g, cap, cur, hv, hg, hh, h3, h4, h5, h6⟩
  · have hL : L = [] := List.length_eq_zero_iff.1 h2
    subst hL
    exact ⟨none, 0, 0, h1, fun k => absurd rfl k, (fun i hi => by simp at hi), Nat.le_refl _, by omega⟩
  · refine ⟨_, g, cap, hv, fun _ => rfl, fun i hi => ?_, h3, by unfold maxLen at h4; omega⟩
    obtain ⟨e1, e2⟩ := flL_get L i hi
    rw [← h6, List.getElem?_take, if_pos (by omega)] at e1
    rw [← h6, List.getElem?_take, if_pos (by omega)] at e2
    rw [Array.getElem?_toList] at e1 e2
    constructor
    · show W.cell? ⟨g, 0 + i * 2, none⟩ = _
      rw [Nat.zero_add]
      simp [World.cell?, hh, e1]
    · show W.cell? ⟨g, 0 + i * 2 + 1, none⟩ = _
      rw [Nat.zero_add]
      simp [World.cell?, hh, e2]
theorem flL_one (L : List Lb) : ∀ u ∈ flL L, u.oneCell' = true := by
  induction L with
  | nil => intro u hu; cases hu
  | cons c L ih =>
    intro u hu
    simp only [flL, List.mem_cons] at hu
    rcases hu with rfl | rfl | h
    · rfl
    · rfl
    · exact ih u h
end Go.Proofs.YtbgdmlekhobjdaaGreat
/- LABELS: labels and named, the law's. Own work of the verifier. -/
namespace Go.Proofs.YtbgdmlekhobjdaaGreat
open Go.RowKit

theorem wl_step {B : Nat} {W1 : World} {A : List Lb} {b cp : Nat} {s : List UInt8} {q : Nat} {W : World} (h : Hid (WL B W1 A (.slice (some ⟨b, 0, none⟩) A.length cp) (s, []) q W)) (hq : q < A.length) : Hid (WL B W1 A (.slice (some ⟨b, 0, none⟩) A.length cp) (s, []) (q + 1) ((W.setCell ⟨b, q * 2, none⟩ (.string ⟨s.toArray⟩)).setCell ⟨b, q * 2 + 1, none⟩ (.string ⟨#[]⟩))) := WL.step h.out hq
theorem own_twoL {W : World} {B g n cap : Nat} {xs : List Value} (h : W.ownsRow B 56 2 (.slice (some ⟨g, 0, none⟩) n cap) n xs) (j : Nat) (hj : j < n) : (∃ u, W.cell? ⟨g, j * 2, none⟩ = some u) ∧ (∃ u, W.cell? ⟨g, j * 2 + 1, none⟩ = some u) ∧ W.frozen? ⟨g, j * 2, none⟩ = false ∧ W.frozen? ⟨g, j * 2 + 1, none⟩ = false := by
  have hl := h.1
  refine ⟨⟨xs[j * 2], ?_⟩, ⟨xs[j * 2 + 1], ?_⟩, h.frozenAt _, h.frozenAt _⟩
  · rw [h.cellAt (j * 2) (by omega)]
    exact List.getElem?_eq_getElem _
  · rw [h.cellAt (j * 2 + 1) (by omega)]
    exact List.getElem?_eq_getElem _
theorem two_str (a b : ByteArray) : ∀ u ∈ [Value.string a, .string b], u.oneCell' = true := by
  intro u hu
  simp at hu
  rcases hu with rfl | rfl <;> rfl
/-- What labels tells. -/
def LabQ (B : Nat) (v : Value) (n : Nat) (s : List UInt8) (w : World) (e : Ending) (w' : World) : Prop := ∃ ao m cap, e = .returned (.slice ao m cap) ∧ Hid (OwnL B v (rl n (s, [])) w') ∧ Hid (OwnL B (.slice ao m cap) (rl (n + 20) (s, [])) w') ∧ Hid (w.grownBy w' v.ownBlock) ∧ Hid ((Value.slice ao m cap).ownBlock = none ∨ (Value.slice ao m cap).ownBlock = v.ownBlock ∨ ∃ x, (Value.slice ao m cap).ownBlock = some x ∧ w.heap.size ≤ x)
set_option maxRecDepth 10000 in
set_option maxHeartbeats 4000000 in
theorem labels_any (B : Nat) (v : Value) (A : List Lb) (s : List UInt8) (w : World) (hA : OwnL B v A w) (hsz : B ≤ w.heap.size) (hl : A.length ≤ 1048576) :
    Calls Tryz.prog 18 #[v, .string ⟨s.toArray⟩] w fun e w' => LabQ B v A.length s w e w' := by
  obtain ⟨i0, hi0, hz0, hz1, hz2⟩ := info_parts infoLabel
  obtain ⟨ao, b, cp, rfl, hao⟩ := own_slice hA
  have HW0 : Hid (WL B w A (.slice ao A.length cp) (s, []) 0 w) := WL.start hA
  clear hA
  go_enter Tryz.func18, Tryz.ntmps18
  go_upto_region 2 with fail
  go_loopw [5] (fun x W => ∃ (q : Nat), q ≤ A.length ∧ x = .int .i64 (q : Int) ∧ Hid (WL B w A (.slice ao A.length cp) (s, []) q W)) (fun x _ => A.length - (intOf x).toNat)
  case atStart => exact ⟨0, by omega, rfl, HW0⟩
  case round =>
    clear HW0
    obtain ⟨q, hq, rfl, HW⟩ := hrel
    by_cases hql : q < A.length
    · have hql' : (q : Int) < (A.length : Int) := by omega
      obtain rfl := hao (by omega)
      obtain ⟨⟨y0, c0⟩, ⟨y1, c1⟩, f0, f1⟩ := own_twoL HW.out.own q hql
      have HWn := wl_step HW hql
      clear HW hao
      go_wp2_with fail
      exact ⟨⟨q + 1, by omega, by go_num, HWn⟩, by simp [intOf]; omega⟩
    · have hql' : ¬ (q : Int) < (A.length : Int) := by omega
      have hqe : q = A.length := by omega
      subst hqe
      have hdone := WL.done HW.out
      have HG1 : Hid (w.grownBy wr (Value.slice ao A.length cp).ownBlock) := HW.out.grown
      have HP0 : Hid (AL B wr (.slice ao A.length cp) (.slice ao A.length cp) A.length 0 (s, []) wr) := ⟨hdone, hdone, grown_bel (Below.refl _ _), Or.inr (Or.inl rfl)⟩
      have hsz2 : B ≤ wr.heap.size := Nat.le_trans hsz HG1.out.size
      clear hdone HW
      go_upto_region 7 with fail
      go_loopw [6, 7] (fun l x W => ∃ (k : Nat), k ≤ 20 ∧ x = .int .i64 (k : Int) ∧ Hid (AL B wr (.slice ao A.length cp) l A.length k (s, []) W)) (fun _ x _ => 20 - (intOf x).toNat)
      case atStart => exact ⟨0, by omega, rfl, HP0⟩
      case round =>
        clear HP0
        obtain ⟨k, hk, rfl, HP⟩ := hrel
        by_cases hkl : k < 20
        · have hkl' : (k : Int) < 20 := by omega
          clear HG1 hql' hql
          go_wp2_with (first
            | (at_builtin; refine wpList_append_two _ rfl _ _ 52 rfl B 56 i0 (.agg #[.string ⟨#[]⟩, .string ⟨#[]⟩]) 2 32 Tryz.underlying52 hi0 hz0 hz1 hz2 rfl u6 (A.length + k) (flL (rl (A.length + k) (s, []))) rfl (HP.out.curRow (bel1 _ _)) ⟨_, 0, none⟩ 1 1 [_, _] rfl rfl (cell_two_new _ _ _ _) (two_str _ _) (by omega) (by unfold maxLen; omega) (by omega) ?_; intro l' w4 hp4))
          exact ⟨⟨k + 1, by omega, by go_num, HP.out.push hsz2 (bel1 _ _) hp4⟩, by simp [intOf]; omega⟩
        · have hkl' : ¬ (k : Int) < 20 := by omega
          have hke : k = 20 := by omega
          subst hke
          obtain ⟨a6, b6, c6, rfl, -⟩ := own_slice (HP.out.curRow (Below.refl _ _))
          have HQ : Hid (LabQ B (.slice ao A.length cp) A.length s w (.returned (.slice a6 (A.length + 20) c6)) wr) := by
            refine ⟨_, _, _, rfl, HP.out.own, HP.out.cur, grown_trans HG1.out HP.out.grown, ?_⟩
            rcases HP.out.at_ with q | q | ⟨g, q, q1⟩
            · exact Or.inl q
            · exact Or.inr (Or.inl q)
            · exact Or.inr (Or.inr ⟨g, q, Nat.le_trans HG1.out.size q1⟩)
          clear HP HG1
          go_wp2_with fail
          go_ret
          exact HQ.out
theorem rl_cells {W : World} {B g n cap k : Nat} {m : Lb} (h : OwnL B (.slice (some ⟨g, 0, none⟩) n cap) (rl n m) W) (hk : k < n) : W.cell? ⟨g, k * 2, none⟩ = some (.string ⟨m.1.toArray⟩) ∧ W.cell? ⟨g, k * 2 + 1, none⟩ = some (.string ⟨m.2.toArray⟩) := by
  have h' : W.ownsRow B 56 2 (.slice (some ⟨g, 0, none⟩) n cap) n (flL (rl n m)) := by have := h; unfold OwnL at this; rw [rl_len] at this; exact this
  obtain ⟨g1, g2⟩ := flL_get (rl n m) k (by rw [rl_len]; exact hk)
  have e : (rl n m)[k]'(by rw [rl_len]; exact hk) = m := by simp [rl]
  rw [e] at g1 g2
  rw [h'.cellAt (k * 2) (by omega), h'.cellAt (k * 2 + 1) (by omega)]
  exact ⟨g1, g2⟩
theorem OwnL.form {W : World} {B n : Nat} {v : Value} {m : Lb} (h : OwnL B v (rl n m) W) : ∃ ao g cap, v = .slice ao n cap ∧ (0 < n → ao = some ⟨g, 0, none⟩) := by
  have h' : W.ownsRow B 56 2 v n (flL (rl n m)) := by have := h; unfold OwnL at this; rw [rl_len] at this; exact this
  exact own_slice h'
set_option maxRecDepth 10000 in
set_option maxHeartbeats 4000000 in
theorem named_any (B : Nat) (v : Value) (n : Nat) (s : List UInt8) (w : World) (hA : OwnL B v (rl n (s, [])) w) (hl : n ≤ 9223372036854775807) :
    Calls Tryz.prog 19 #[v, .string ⟨s.toArray⟩] w fun e w' => e = .returned (.bool true) ∧ w' = w := by
  obtain ⟨ao, b, cp, rfl, hao⟩ := hA.form
  have HA : Hid (OwnL B (.slice ao n cp) (rl n (s, [])) w) := hA
  clear hA
  go_enter Tryz.func19, Tryz.ntmps19
  go_upto_region 2 with fail
  go_loopw [5] (fun x W => ∃ (q : Nat), q ≤ n ∧ x = .int .i64 (q : Int) ∧ W = w) (fun x _ => n - (intOf x).toNat)
  case atStart => exact ⟨0, by omega, rfl, rfl⟩
  case round =>
    obtain ⟨q, hq, rfl, rfl⟩ := hrel
    by_cases hql : q < n
    · have hql' : (q : Int) < (n : Int) := by omega
      obtain rfl := hao (by omega)
      obtain ⟨c0, c1⟩ := rl_cells HA.out hql
      simp only at c0 c1
      clear hao HA
      go_wp2_with fail
      exact ⟨⟨q + 1, by omega, by go_num, by simp⟩, by simp [intOf]; omega⟩
    · have hql' : ¬ (q : Int) < (n : Int) := by omega
      clear HA hao
      go_wp2_with fail
      go_ret
      exact ⟨rfl, rfl⟩
end Go.Proofs.YtbgdmlekhobjdaaGreat
/- VALUES: eleven cells; what is copied. Own work of the verifier. -/
namespace Go.Proofs.YtbgdmlekhobjdaaGreat
open Go.RowKit

theorem eleven_cells {W : World} {b : Nat} {u0 u1 u2 u3 u4 u5 u6 u7 u8 u9 u10 : Value} {t : TypeId} (h : Hid (W.heap[b]? = some (.cells #[u0, u1, u2, u3, u4, u5, u6, u7, u8, u9, u10] t (0, 0)))) : W.cell? ⟨b, 0, none⟩ = some u0 ∧ W.cell? ⟨b, 1, none⟩ = some u1 ∧ W.cell? ⟨b, 2, none⟩ = some u2 ∧ W.cell? ⟨b, 3, none⟩ = some u3 ∧ W.cell? ⟨b, 4, none⟩ = some u4 ∧ W.cell? ⟨b, 5, none⟩ = some u5 ∧ W.cell? ⟨b, 6, none⟩ = some u6 ∧ W.cell? ⟨b, 7, none⟩ = some u7 ∧ W.cell? ⟨b, 8, none⟩ = some u8 ∧ W.cell? ⟨b, 9, none⟩ = some u9 ∧ W.cell? ⟨b, 10, none⟩ = some u10 := by
  unfold Hid at h; simp [World.cell?, h]
theorem eleven_fr {W : World} {b : Nat} {u0 u1 u2 u3 u4 u5 u6 u7 u8 u9 u10 : Value} {t : TypeId} (h : Hid (W.heap[b]? = some (.cells #[u0, u1, u2, u3, u4, u5, u6, u7, u8, u9, u10] t (0, 0)))) : W.frozen? ⟨b, 0, none⟩ = false ∧ W.frozen? ⟨b, 1, none⟩ = false ∧ W.frozen? ⟨b, 2, none⟩ = false ∧ W.frozen? ⟨b, 3, none⟩ = false ∧ W.frozen? ⟨b, 4, none⟩ = false ∧ W.frozen? ⟨b, 5, none⟩ = false ∧ W.frozen? ⟨b, 6, none⟩ = false ∧ W.frozen? ⟨b, 7, none⟩ = false ∧ W.frozen? ⟨b, 8, none⟩ = false ∧ W.frozen? ⟨b, 9, none⟩ = false ∧ W.frozen? ⟨b, 10, none⟩ = false :=
  ⟨hid_fr h 0, hid_fr h 1, hid_fr h 2, hid_fr h 3, hid_fr h 4, hid_fr h 5, hid_fr h 6, hid_fr h 7, hid_fr h 8, hid_fr h 9, hid_fr h 10⟩
def put11 (W : World) (b : Nat) (v0 v1 v2 v3 v4 v5 v6 v7 v8 v9 v10 : Value) : World := ((((((((((W.setCell ⟨b, 0, none⟩ v0).setCell ⟨b, 1, none⟩ v1).setCell ⟨b, 2, none⟩ v2).setCell ⟨b, 3, none⟩ v3).setCell ⟨b, 4, none⟩ v4).setCell ⟨b, 5, none⟩ v5).setCell ⟨b, 6, none⟩ v6).setCell ⟨b, 7, none⟩ v7).setCell ⟨b, 8, none⟩ v8).setCell ⟨b, 9, none⟩ v9).setCell ⟨b, 10, none⟩ v10
theorem put11_eq (W : World) (b : Nat) (v0 v1 v2 v3 v4 v5 v6 v7 v8 v9 v10 : Value) : ((((((((((W.setCell ⟨b, 0, none⟩ v0).setCell ⟨b, 1, none⟩ v1).setCell ⟨b, 2, none⟩ v2).setCell ⟨b, 3, none⟩ v3).setCell ⟨b, 4, none⟩ v4).setCell ⟨b, 5, none⟩ v5).setCell ⟨b, 6, none⟩ v6).setCell ⟨b, 7, none⟩ v7).setCell ⟨b, 8, none⟩ v8).setCell ⟨b, 9, none⟩ v9).setCell ⟨b, 10, none⟩ v10 = put11 W b v0 v1 v2 v3 v4 v5 v6 v7 v8 v9 v10 := rfl
set_option maxHeartbeats 8000000 in
theorem set_eleven {W : World} {b : Nat} {u0 u1 u2 u3 u4 u5 u6 u7 u8 u9 u10 v0 v1 v2 v3 v4 v5 v6 v7 v8 v9 v10 : Value} {t : TypeId} (h : W.heap[b]? = some (.cells #[u0, u1, u2, u3, u4, u5, u6, u7, u8, u9, u10] t (0, 0))) : (put11 W b v0 v1 v2 v3 v4 v5 v6 v7 v8 v9 v10).heap[b]? = some (.cells #[v0, v1, v2, v3, v4, v5, v6, v7, v8, v9, v10] t (0, 0)) := by
  have h1 : (W.setCell ⟨b, 0, none⟩ v0).heap[b]? = some (.cells #[v0, u1, u2, u3, u4, u5, u6, u7, u8, u9, u10] t (0, 0)) := by rw [heap_setCell_same _ b 0 _ _ _ h]; rfl
  have h2 : ((W.setCell ⟨b, 0, none⟩ v0).setCell ⟨b, 1, none⟩ v1).heap[b]? = some (.cells #[v0, v1, u2, u3, u4, u5, u6, u7, u8, u9, u10] t (0, 0)) := by rw [heap_setCell_same _ b 1 _ _ _ h1]; rfl
  have h3 : (((W.setCell ⟨b, 0, none⟩ v0).setCell ⟨b, 1, none⟩ v1).setCell ⟨b, 2, none⟩ v2).heap[b]? = some (.cells #[v0, v1, v2, u3, u4, u5, u6, u7, u8, u9, u10] t (0, 0)) := by rw [heap_setCell_same _ b 2 _ _ _ h2]; rfl
  have h4 : ((((W.setCell ⟨b, 0, none⟩ v0).setCell ⟨b, 1, none⟩ v1).setCell ⟨b, 2, none⟩ v2).setCell ⟨b, 3, none⟩ v3).heap[b]? = some (.cells #[v0, v1, v2, v3, u4, u5, u6, u7, u8, u9, u10] t (0, 0)) := by rw [heap_setCell_same _ b 3 _ _ _ h3]; rfl
  have h5 : (((((W.setCell ⟨b, 0, none⟩ v0).setCell ⟨b, 1, none⟩ v1).setCell ⟨b, 2, none⟩ v2).setCell ⟨b, 3, none⟩ v3).setCell ⟨b, 4, none⟩ v4).heap[b]? = some (.cells #[v0, v1, v2, v3, v4, u5, u6, u7, u8, u9, u10] t (0, 0)) := by rw [heap_setCell_same _ b 4 _ _ _ h4]; rfl
  have h6 : ((((((W.setCell ⟨b, 0, none⟩ v0).setCell ⟨b, 1, none⟩ v1).setCell ⟨b, 2, none⟩ v2).setCell ⟨b, 3, none⟩ v3).setCell ⟨b, 4, none⟩ v4).setCell ⟨b, 5, none⟩ v5).heap[b]? = some (.cells #[v0, v1, v2, v3, v4, v5, u6, u7, u8, u9, u10] t (0, 0)) := by rw [heap_setCell_same _ b 5 _ _ _ h5]; rfl
  have h7 : (((((((W.setCell ⟨b, 0, none⟩ v0).setCell ⟨b, 1, none⟩ v1).setCell ⟨b, 2, none⟩ v2).setCell ⟨b, 3, none⟩ v3).setCell ⟨b, 4, none⟩ v4).setCell ⟨b, 5, none⟩ v5).setCell ⟨b, 6, none⟩ v6).heap[b]? = some (.cells #[v0, v1, v2, v3, v4, v5, v6, u7, u8, u9, u10] t (0, 0)) := by rw [heap_setCell_same _ b 6 _ _ _ h6]; rfl
  have h8 : ((((((((W.setCell ⟨b, 0, none⟩ v0).setCell ⟨b, 1, none⟩ v1).setCell ⟨b, 2, none⟩ v2).setCell ⟨b, 3, none⟩ v3).setCell ⟨b, 4, none⟩ v4).setCell ⟨b, 5, none⟩ v5).setCell ⟨b, 6, none⟩ v6).setCell ⟨b, 7, none⟩ v7).heap[b]? = some (.cells #[v0, v1, v2, v3, v4, v5, v6, v7, u8, u9, u10] t (0, 0)) := by rw [heap_setCell_same _ b 7 _ _ _ h7]; rfl
  have h9 : (((((((((W.setCell ⟨b, 0, none⟩ v0).setCell ⟨b, 1, none⟩ v1).setCell ⟨b, 2, none⟩ v2).setCell ⟨b, 3, none⟩ v3).setCell ⟨b, 4, none⟩ v4).setCell ⟨b, 5, none⟩ v5).setCell ⟨b, 6, none⟩ v6).setCell ⟨b, 7, none⟩ v7).setCell ⟨b, 8, none⟩ v8).heap[b]? = some (.cells #[v0, v1, v2, v3, v4, v5, v6, v7, v8, u9, u10] t (0, 0)) := by rw [heap_setCell_same _ b 8 _ _ _ h8]; rfl
  have h10 : ((((((((((W.setCell ⟨b, 0, none⟩ v0).setCell ⟨b, 1, none⟩ v1).setCell ⟨b, 2, none⟩ v2).setCell ⟨b, 3, none⟩ v3).setCell ⟨b, 4, none⟩ v4).setCell ⟨b, 5, none⟩ v5).setCell ⟨b, 6, none⟩ v6).setCell ⟨b, 7, none⟩ v7).setCell ⟨b, 8, none⟩ v8).setCell ⟨b, 9, none⟩ v9).heap[b]? = some (.cells #[v0, v1, v2, v3, v4, v5, v6, v7, v8, v9, u10] t (0, 0)) := by rw [heap_setCell_same _ b 9 _ _ _ h9]; rfl
  have h11 : (((((((((((W.setCell ⟨b, 0, none⟩ v0).setCell ⟨b, 1, none⟩ v1).setCell ⟨b, 2, none⟩ v2).setCell ⟨b, 3, none⟩ v3).setCell ⟨b, 4, none⟩ v4).setCell ⟨b, 5, none⟩ v5).setCell ⟨b, 6, none⟩ v6).setCell ⟨b, 7, none⟩ v7).setCell ⟨b, 8, none⟩ v8).setCell ⟨b, 9, none⟩ v9).setCell ⟨b, 10, none⟩ v10).heap[b]? = some (.cells #[v0, v1, v2, v3, v4, v5, v6, v7, v8, v9, v10] t (0, 0)) := by rw [heap_setCell_same _ b 10 _ _ _ h10]; rfl
  exact h11
theorem four_cellsH {W : World} {b : Nat} {u0 u1 u2 u3 : Value} {t : TypeId} (h : Hid (W.heap[b]? = some (.cells #[u0, u1, u2, u3] t (0, 0)))) : W.cell? ⟨b, 0, none⟩ = some u0 ∧ W.cell? ⟨b, 1, none⟩ = some u1 ∧ W.cell? ⟨b, 2, none⟩ = some u2 ∧ W.cell? ⟨b, 3, none⟩ = some u3 := ⟨(four_cells h).1, (four_cells h).2.1, (four_cells h).2.2.1, (four_cells h).2.2.2.1⟩
theorem chg_moreG {S : Nat → Prop} {W V : World} {g j : Nat} {u : Value} (h : Chg S W V) (hS : S g) : Chg S W (V.setCell ⟨g, j, none⟩ u) := h.trans (chg_set V g j u) (fun x hx => Or.inl (by rw [hx]; exact hS))
theorem chg_put11 (W : World) (b : Nat) (v0 v1 v2 v3 v4 v5 v6 v7 v8 v9 v10 : Value) : Chg (fun x => x = b) W (put11 W b v0 v1 v2 v3 v4 v5 v6 v7 v8 v9 v10) := by
  unfold put11
  exact chg_moreG (chg_moreG (chg_moreG (chg_moreG (chg_moreG (chg_moreG (chg_moreG (chg_moreG (chg_moreG (chg_moreG (chg_set W b 0 v0) rfl) rfl) rfl) rfl) rfl) rfl) rfl) rfl) rfl) rfl
theorem new4_0 (w : World) (o1 o2 o3 o4 : Obj) : ((((w.alloc o1).alloc o2).alloc o3).alloc o4).heap[w.heap.size]? = some o1 := by
  have h := new3_0 w o1 o2 o3
  exact (Below.heap_alloc _ o4 _ (Array.getElem?_eq_some_iff.1 h).1).trans h
theorem new4_1 (w : World) (o1 o2 o3 o4 : Obj) : ((((w.alloc o1).alloc o2).alloc o3).alloc o4).heap[w.heap.size + 1]? = some o2 := by
  have h := new3_1 w o1 o2 o3
  exact (Below.heap_alloc _ o4 _ (Array.getElem?_eq_some_iff.1 h).1).trans h
theorem new4_2 (w : World) (o1 o2 o3 o4 : Obj) : ((((w.alloc o1).alloc o2).alloc o3).alloc o4).heap[w.heap.size + 1 + 1]? = some o3 := by
  have h := new3_2 w o1 o2 o3
  exact (Below.heap_alloc _ o4 _ (Array.getElem?_eq_some_iff.1 h).1).trans h
theorem new4_3 (w : World) (o1 o2 o3 o4 : Obj) : ((((w.alloc o1).alloc o2).alloc o3).alloc o4).heap[w.heap.size + 1 + 1 + 1]? = some o4 := by
  have h := new_1 (((w.alloc o1).alloc o2).alloc o3) o4
  have e : (((w.alloc o1).alloc o2).alloc o3).heap.size = w.heap.size + 1 + 1 + 1 := by simp
  rw [e] at h
  exact h
theorem bel4 (w : World) (o1 o2 o3 o4 : Obj) : Below w.heap.size w ((((w.alloc o1).alloc o2).alloc o3).alloc o4) := bt (bel3 w o1 o2 o3) (bel1 _ _)
/-- A list of labels as it is handed in. -/
def SLb (W : World) (v : Value) (L : List Lb) : Prop := (v = .slice none 0 0 ∧ L = []) ∨ ∃ b o cap, v = .slice (some ⟨b, o, none⟩) L.length cap ∧ L.length ≤ cap ∧ RowL W b o L
theorem SLb.below {W W1 : World} {v : Value} {L : List Lb} (h : SLb W v L) (hb : Below W.heap.size W W1) : SLb W1 v L := by
  rcases h with h | ⟨b, o, cap, h1, h2, hr⟩
  · exact Or.inl h
  · exact Or.inr ⟨b, o, cap, h1, h2, hr.below hb⟩
theorem RowL.cells {w : World} {b o : Nat} {L : List Lb} (h : RowL w b o L) (j : Nat) (u : Value) (hu : (flL L)[j]? = some u) : w.cell? ((⟨b, o, none⟩ : Addr).add j) = some u := by
  have hj : j < (flL L).length := by
    rcases Nat.lt_or_ge j (flL L).length with c | c
    · exact c
    · rw [List.getElem?_eq_none c] at hu; cases hu
  rw [flL_length] at hj
  have hi : j / 2 < L.length := by omega
  obtain ⟨g1, g2⟩ := flL_get L (j / 2) hi
  obtain ⟨h1, h2⟩ := h (j / 2) hi
  rw [Addr.add_lit]
  rcases Nat.mod_two_eq_zero_or_one j with e | e
  · rw [show j / 2 * 2 = j by omega] at g1 h1
    rw [g1] at hu
    cases hu
    exact h1
  · rw [show j / 2 * 2 + 1 = j by omega] at g2
    rw [show o + j / 2 * 2 + 1 = o + j by omega] at h2
    rw [g2] at hu
    cases hu
    exact h2
/-- append(nil, v...): a copy. -/
theorem run_copyL {w : World} {v : Value} {L : List Lb} (h : SLb w v L) (hl : L.length ≤ 1048576) (ty : TypeId) :
    ∃ v' w', (Builtin.append_ #[52, 52] ty #[.slice none 0 0, v]).run Tryz.prog w = .ok v' w' ∧ (OwnL w.heap.size v' L w' ∧ Below w.heap.size w w') := by
  obtain ⟨i0, hi, hz0, hz1, hz2⟩ := info_parts infoLabel
  rcases h with ⟨rfl, rfl⟩ | ⟨b, o, cap, rfl, _, hr⟩
  · refine ⟨.slice none 0 0, w, ?_, World.ownsRow_nil _ _ _ _, Below.refl _ _⟩
    simp [Builtin.append_, run_underlying Tryz.underlying52, sizeOf, typeInfo, zeroValue, hi, hz0, Builtin.lenOf, run_firstCells_none]
  · obtain ⟨v', w', k1, k2, k3, _⟩ := run_append_own (P := Tryz.prog) w w.heap.size 52 ty 56 i0 (.agg #[.string ⟨#[]⟩, .string ⟨#[]⟩]) 2 32 Tryz.underlying52 hi hz0 hz1 hz2 rfl (by decide) (.slice none 0 0) 0 [] (World.ownsRow_nil _ _ _ _) ⟨b, o, none⟩ L.length cap (flL L) (flL_length L) hr.cells (flL_one L) (by unfold maxLen; omega) (by omega) (Nat.le_refl _)
    refine ⟨v', w', k1, by unfold OwnL; simpa using k2, ⟨k3.os, k3.tape, k3.output, k3.size, fun k hk => k3.block k hk (by simp [Value.ownBlock])⟩⟩
theorem run_copyC {w : World} {v : Value} {L : List Cn} (h : SN w v L) (hl : L.length ≤ 1048576) (ty : TypeId) :
    ∃ v' w', (Builtin.append_ #[25, 25] ty #[.slice none 0 0, v]).run Tryz.prog w = .ok v' w' ∧ (OwnC w.heap.size v' L w' ∧ Below w.heap.size w w') := by
  obtain ⟨i0, hi, hz0, hz1, hz2⟩ := info_parts infoC
  rcases h with ⟨rfl, rfl⟩ | ⟨b, o, cap, rfl, _, hr⟩
  · refine ⟨.slice none 0 0, w, ?_, World.ownsRow_nil _ _ _ _, Below.refl _ _⟩
    simp [Builtin.append_, run_underlying Tryz.underlying25, sizeOf, typeInfo, zeroValue, hi, hz0, Builtin.lenOf, run_firstCells_none]
  · obtain ⟨v', w', k1, k2, k3, _⟩ := run_append_own (P := Tryz.prog) w w.heap.size 25 ty 45 i0 (.agg #[.int .i64 0, .int .u64 0]) 2 16 Tryz.underlying25 hi hz0 hz1 hz2 rfl (by decide) (.slice none 0 0) 0 [] (World.ownsRow_nil _ _ _ _) ⟨b, o, none⟩ L.length cap (fl L) (fl_length L) hr.cells (fl_one L) (by unfold maxLen; omega) (by omega) (Nat.le_refl _)
    refine ⟨v', w', k1, by unfold OwnC; simpa using k2, ⟨k3.os, k3.tape, k3.output, k3.size, fun k hk => k3.block k hk (by simp [Value.ownBlock])⟩⟩
/-- append([]api.Count{}, v...): a copy too. -/
theorem run_copyE {w : World} {v : Value} {L : List Cn} (h : SN w v L) (hl : L.length ≤ 1048576) (ty : TypeId) (g : Nat) (hg : w.heap[g]? = some (.cells #[] 45 (0, 0))) :
    ∃ v' w', (Builtin.append_ #[25, 25] ty #[.slice (some ⟨g, 0, none⟩) 0 0, v]).run Tryz.prog w = .ok v' w' ∧ (OwnC g v' L w' ∧ Below g w w') := by
  obtain ⟨i0, hi, hz0, hz1, hz2⟩ := info_parts infoC
  have hlt := (Array.getElem?_eq_some_iff.1 hg).1
  have hown : w.ownsRow g 45 2 (.slice (some ⟨g, 0, none⟩) 0 0) 0 [] := ⟨rfl, Or.inr ⟨g, 0, #[], rfl, Nat.le_refl _, hg, Nat.le_refl _, Nat.zero_le _, rfl, rfl⟩⟩
  rcases h with ⟨rfl, rfl⟩ | ⟨b, o, cap, rfl, _, hr⟩
  · refine ⟨.slice (some ⟨g, 0, none⟩) 0 0, w, ?_, hown, Below.refl _ _⟩
    simp [Builtin.append_, run_underlying Tryz.underlying25, sizeOf, typeInfo, zeroValue, hi, hz0, Builtin.lenOf, run_firstCells_none, storeCells]
  · obtain ⟨v', w', k1, k2, k3, _⟩ := run_append_own (P := Tryz.prog) w g 25 ty 45 i0 (.agg #[.int .i64 0, .int .u64 0]) 2 16 Tryz.underlying25 hi hz0 hz1 hz2 rfl (by decide) (.slice (some ⟨g, 0, none⟩) 0 0) 0 [] hown ⟨b, o, none⟩ L.length cap (fl L) (fl_length L) hr.cells (fl_one L) (by unfold maxLen; omega) (by omega) (by omega)
    refine ⟨v', w', k1, by unfold OwnC; simpa using k2, ⟨k3.os, k3.tape, k3.output, k3.size, fun k hk => k3.block k (by omega) (fun e => by simp [Value.ownBlock] at e; omega)⟩⟩
theorem wpList_run {P : Program} (w : World) {ops : Array Oper} {rest : List Oper} {o : Oper} {a : Act} {Q : Exit → Act → World → Prop} (hgd : o.guard = none) (s x : Operand) (t : TypeId)
    (ho : o.op = .call { callee := .builtin .append, args := #[s, x], argTypes := #[t, t] }) (v0 v : Value) (hs : a.eval s = v0) (hx : a.eval x = v) {R : Value → World → Prop}
    (hrun : ∃ v' w', (Builtin.append_ #[t, t] o.type #[v0, v]).run P w = .ok v' w' ∧ R v' w')
    (h : ∀ v' w', R v' w' → wpList P ops Q rest (a.put o.dst v') w') : wpList P ops Q (o :: rest) a w := by
  refine wpList_plain hgd fun K hK => ?_
  obtain ⟨v', w', hr, h2⟩ := hrun
  unfold Oper.wp execOp
  simp only [ho, resolve, invoke, builtin, Sem.run_bind, Sem.run_pure, Result.andThen_ok, List.map_toArray, List.map_cons, List.map_nil, hs, hx, hr]
  exact hK _ _ (h v' w' h2)
theorem hkN {k : Nat} {o : Obj} {W W' : World} (h : W.heap[k]? = some o) (hb : Below W.heap.size W W') : W'.heap[k]? = some o := (hb.block k (Array.getElem?_eq_some_iff.1 h).1).trans h
abbrev vval (kd : Int) (nm hp : ByteArray) (lv : Value) (hi lo : Int) (cv : Value) (n sum mn mx : Nat) : Value := .agg #[.int .i64 kd, .string nm, .string hp, lv, .int .i64 hi, .int .u64 lo, cv, .int .u64 (n : Int), .float .f64 sum, .float .f64 mn, .float .f64 mx]
def gT (kd x : Int) : Int := if kd = 1 ∨ kd = 2 then x else 0
def gC (kd : Int) (A : List Cn) : List Cn := if kd = 2 then A else []
def gN (kd : Int) (n : Nat) : Nat := if kd = 2 ∨ kd = 3 then n else 0
def gF (kd : Int) (x : Nat) : Nat := if kd = 3 then x else 0
end Go.Proofs.YtbgdmlekhobjdaaGreat
/- VALUES: how both Values end. Own work of the verifier. -/
namespace Go.Proofs.YtbgdmlekhobjdaaGreat
open Go.RowKit
set_option maxRecDepth 10000 in
set_option maxHeartbeats 8000000 in
theorem cval_tail (B : Nat) (W : World) (kd H Lo : Int) (nm hp : ByteArray) (la ca : Option Addr) (lm lc cm cc N r a b : Nat) (R : Ending → World → Prop) (HV : Hid (W.heap[B + 1 + 1 + 1]? = some (.cells #[.int .i64 kd, .string nm, .string hp, .slice la lm lc, .int .i64 H, .int .u64 Lo, .slice ca cm cc, .int .u64 (N : Int), .float .f64 r, .float .f64 a, .float .f64 b] 58 (0, 0)))) (HR : Hid (W.heap[B + 1 + 1]? = some (.cells #[.int .i64 0, .string ⟨#[]⟩, .string ⟨#[]⟩, .slice none 0 0, .int .i64 0, .int .u64 0, .slice none 0 0, .int .u64 0, .float .f64 0, .float .f64 0, .float .f64 0] 58 (0, 0))))
    (hR : R (.returned (vval kd nm hp (.slice la lm lc) H Lo (.slice ca cm cc) N r a b)) (put11 W (B + 1 + 1) (.int .i64 kd) (.string nm) (.string hp) (.slice la lm lc) (.int .i64 H) (.int .u64 Lo) (.slice ca cm cc) (.int .u64 (N : Int)) (.float .f64 r) (.float .f64 a) (.float .f64 b)))
    (u0 u1 u2 u3 u6 u7 u8 u9 u10 u11 u12 u13 u14 u15 u16 u17 u18 u19 u20 u21 u22 u23 u24 u25 u26 u27 u28 u29 u30 u31 u32 u33 u34 u35 u36 u37 u38 u39 u40 u41 u42 u43 u44 u45 u46 u47 : Value) (K : Act → World → Prop) (hK : ∀ a w1, Code.wp Tryz.prog (sDrop 5 (bodyC Tryz.f16.body)) (bodyPost Tryz.prog Tryz.f16 R) a w1 → K a w1) :
    Code.wp Tryz.prog (sFirst (sDrop 4 (bodyC Tryz.f16.body))) (Exit.then K (bodyPost Tryz.prog Tryz.f16 R)) { tmps := #[u0, u1, u2, u3, (.pointer (some ⟨B + 1 + 1, 0, none⟩)), (.pointer (some ⟨B + 1 + 1 + 1, 0, none⟩)), u6, u7, u8, u9, u10, u11, u12, u13, u14, u15, u16, u17, u18, u19, u20, u21, u22, u23, u24, u25, u26, u27, u28, u29, u30, u31, u32, u33, u34, u35, u36, u37, u38, u39, u40, u41, u42, u43, u44, u45, u46, u47], defers := [] } W := by
  obtain ⟨v0, v1, v2, v3, v4, v5, v6, v7, v8, v9, v10⟩ := eleven_cells HV
  obtain ⟨z0, z1, z2, z3, z4, z5, z6, z7, z8, z9, z10⟩ := eleven_cells HR
  obtain ⟨f0, f1, f2, f3, f4, f5, f6, f7, f8, f9, f10⟩ := eleven_fr HR
  have sF := store_f
  have HRR := hid_of hR
  clear hR
  dsimp only [sDrop, sFirst, bodyC, Tryz.f16] at hK ⊢
  go_wp2_with fail
  rw [put11_eq]
  have HS := hid_of (set_eleven (v0 := (.int .i64 kd)) (v1 := (.string nm)) (v2 := (.string hp)) (v3 := (.slice la lm lc)) (v4 := (.int .i64 H)) (v5 := (.int .u64 Lo)) (v6 := (.slice ca cm cc)) (v7 := (.int .u64 (N : Int))) (v8 := (.float .f64 r)) (v9 := (.float .f64 a)) (v10 := (.float .f64 b)) HR.out)
  obtain ⟨y0, y1, y2, y3, y4, y5, y6, y7, y8, y9, y10⟩ := eleven_cells HS
  simp [bodyPost, results, go_sem, y0, y1, y2, y3, y4, y5, y6, y7, y8, y9, y10]
  exact HRR.out
set_option maxRecDepth 10000 in
set_option maxHeartbeats 8000000 in
theorem dval_tail (B : Nat) (W : World) (kd H Lo : Int) (nm hp : ByteArray) (la ca : Option Addr) (lm lc cm cc N r a b : Nat) (R : Ending → World → Prop) (HV : Hid (W.heap[B + 1 + 1 + 1]? = some (.cells #[.int .i64 kd, .string nm, .string hp, .slice la lm lc, .int .i64 H, .int .u64 Lo, .slice ca cm cc, .int .u64 (N : Int), .float .f64 r, .float .f64 a, .float .f64 b] 58 (0, 0)))) (HR : Hid (W.heap[B + 1 + 1]? = some (.cells #[.int .i64 0, .string ⟨#[]⟩, .string ⟨#[]⟩, .slice none 0 0, .int .i64 0, .int .u64 0, .slice none 0 0, .int .u64 0, .float .f64 0, .float .f64 0, .float .f64 0] 58 (0, 0))))
    (hR : R (.returned (vval kd nm hp (.slice la lm lc) H Lo (.slice ca cm cc) N r a b)) (put11 W (B + 1 + 1) (.int .i64 kd) (.string nm) (.string hp) (.slice la lm lc) (.int .i64 H) (.int .u64 Lo) (.slice ca cm cc) (.int .u64 (N : Int)) (.float .f64 r) (.float .f64 a) (.float .f64 b)))
    (u0 u1 u2 u3 u6 u7 u8 u9 u10 u11 u12 u13 u14 u15 u16 u17 u18 u19 u20 u21 u22 u23 u24 u25 u26 u27 u28 u29 u30 u31 u32 u33 u34 u35 u36 u37 u38 u39 u40 u41 u42 u43 u44 u45 u46 : Value) (K : Act → World → Prop) (hK : ∀ a w1, Code.wp Tryz.prog (sDrop 4 (bodyC Tryz.f15.body)) (bodyPost Tryz.prog Tryz.f15 R) a w1 → K a w1) :
    Code.wp Tryz.prog (sFirst (sDrop 3 (bodyC Tryz.f15.body))) (Exit.then K (bodyPost Tryz.prog Tryz.f15 R)) { tmps := #[u0, u1, u2, u3, (.pointer (some ⟨B + 1 + 1, 0, none⟩)), (.pointer (some ⟨B + 1 + 1 + 1, 0, none⟩)), u6, u7, u8, u9, u10, u11, u12, u13, u14, u15, u16, u17, u18, u19, u20, u21, u22, u23, u24, u25, u26, u27, u28, u29, u30, u31, u32, u33, u34, u35, u36, u37, u38, u39, u40, u41, u42, u43, u44, u45, u46], defers := [] } W := by
  obtain ⟨v0, v1, v2, v3, v4, v5, v6, v7, v8, v9, v10⟩ := eleven_cells HV
  obtain ⟨z0, z1, z2, z3, z4, z5, z6, z7, z8, z9, z10⟩ := eleven_cells HR
  obtain ⟨f0, f1, f2, f3, f4, f5, f6, f7, f8, f9, f10⟩ := eleven_fr HR
  have sF := store_f
  have HRR := hid_of hR
  clear hR
  dsimp only [sDrop, sFirst, bodyC, Tryz.f15] at hK ⊢
  go_wp2_with fail
  rw [put11_eq]
  have HS := hid_of (set_eleven (v0 := (.int .i64 kd)) (v1 := (.string nm)) (v2 := (.string hp)) (v3 := (.slice la lm lc)) (v4 := (.int .i64 H)) (v5 := (.int .u64 Lo)) (v6 := (.slice ca cm cc)) (v7 := (.int .u64 (N : Int))) (v8 := (.float .f64 r)) (v9 := (.float .f64 a)) (v10 := (.float .f64 b)) HR.out)
  obtain ⟨y0, y1, y2, y3, y4, y5, y6, y7, y8, y9, y10⟩ := eleven_cells HS
  simp [bodyPost, results, go_sem, y0, y1, y2, y3, y4, y5, y6, y7, y8, y9, y10]
  exact HRR.out
end Go.Proofs.YtbgdmlekhobjdaaGreat
