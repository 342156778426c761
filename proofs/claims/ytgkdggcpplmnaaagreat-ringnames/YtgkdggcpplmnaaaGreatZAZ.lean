/- VALUES IN ORDER, THOSE OF ONE SERIES AS ONE: memory. Own work of the verifier. -/
import Derived.Test.YtgkdggcpplmnaaaGreatZAY
namespace Go.Proofs.YtgkdggcpplmnaaaGreat
open Go.RowKit Me

/-- Values in order with those of one series as one; an error. -/
noncomputable def jnL : List Vl → Option Vl → List Vl → List Vl × Int
  | J, _, [] => (J, 0)
  | J, none, v :: r => jnL (J ++ [v]) (some v) r
  | J, some p, v :: r => if La.ordD p.d v.d ≠ 0 then jnL (J ++ [v]) (some v) r else if (joinV p v).2 ≠ 0 then ([], (joinV p v).2) else jnL (J.dropLast ++ [(joinV p v).1]) (some v) r
/-- No three of one series one behind the other. -/
def No3 (L : List Vl) : Prop := ∀ i (h : i + 2 < L.length), ¬ (La.ordD (L[i]'(by omega)).d (L[i + 1]'(by omega)).d = 0 ∧ La.ordD (L[i + 1]'(by omega)).d L[i + 2].d = 0)
/-- Two lists lie apart. -/
def Ap (u v : Value) : Prop := ∀ g, u.ownBlock = some g → v.ownBlock ≠ some g
theorem ap_sym {u v : Value} (h : Ap u v) : Ap v u := fun g h1 h2 => h g h2 h1
theorem ap_of {W W1 : World} {B : Nat} {e e' : TypeId} {s s' n n' : Nat} {u v : Value} {xs ys : List Value} (h : W.ownsRow B e s u n xs) (h' : W1.ownsRow W.heap.size e' s' v n' ys) : Ap u v := fun g hg hv => by
  rcases own_atG h with k | ⟨g1, k, _, k2⟩
  · rw [k] at hg; cases hg
  · rw [k] at hg; cases hg
    rcases own_atG h' with q | ⟨g2, q, q1, _⟩
    · rw [q] at hv; cases hv
    · rw [q] at hv; cases hv; omega
/-- No two values share a list. -/
def Dj (J : List Rv) : Prop := ∀ i j (hi : i < J.length) (hj : j < J.length), i ≠ j → Ap J[i].2.1 J[j].2.1 ∧ Ap J[i].2.2 J[j].2.2
theorem Dj.nil : Dj [] := fun i _ hi => absurd hi (by simp)
theorem Dj.push {J : List Rv} {r : Rv} (h : Dj J) (k : ∀ x ∈ J, Ap x.2.1 r.2.1 ∧ Ap x.2.2 r.2.2) : Dj (J ++ [r]) := fun i j hi hj hne => by
  rw [List.length_append, List.length_singleton] at hi hj
  by_cases c1 : i < J.length
  · by_cases c2 : j < J.length
    · rw [List.getElem_append_left c1, List.getElem_append_left c2]
      exact h i j c1 c2 hne
    · have e : j = J.length := by omega
      subst e
      rw [List.getElem_append_left c1, List.getElem_concat_length rfl]
      exact k _ (List.getElem_mem c1)
  · have e : i = J.length := by omega
    subst e
    have c2 : j < J.length := by omega
    rw [List.getElem_append_left c2, List.getElem_concat_length rfl]
    have := k _ (List.getElem_mem c2)
    exact ⟨ap_sym this.1, ap_sym this.2⟩
theorem Dj.set {J : List Rv} {r : Rv} {m : Nat} (h : Dj J) (k : ∀ j (hj : j < J.length), j ≠ m → Ap J[j].2.1 r.2.1 ∧ Ap J[j].2.2 r.2.2) : Dj (J.set m r) := fun i j hi hj hne => by
  have hi' : i < J.length := by rw [List.length_set] at hi; exact hi
  have hj' : j < J.length := by rw [List.length_set] at hj; exact hj
  by_cases c1 : i = m
  · subst c1
    rw [List.getElem_set_self, List.getElem_set_ne hne]
    have := k j hj' (fun e => hne e.symm)
    exact ⟨ap_sym this.1, ap_sym this.2⟩
  · by_cases c2 : j = m
    · subst c2
      rw [List.getElem_set_self, List.getElem_set_ne (fun e => c1 e.symm)]
      exact k i hi' c1
    · rw [List.getElem_set_ne (fun e => c1 e.symm), List.getElem_set_ne (fun e => c2 e.symm)]
      exact h i j hi' hj' hne
/-- Joined values in memory: a row of the call's own, each list its own. -/
structure JV (w : World) (v : Value) (J : List Rv) (W : World) : Prop where
  g : GV w.heap.size w v J W
  el : ∀ r ∈ J, OwnL w.heap.size r.2.1 r.1.d.labels W ∧ OwnC w.heap.size r.2.2 r.1.cs W
  dj : Dj J
theorem JV.nil (w : World) : JV w (.slice none 0 0) [] w := ⟨GV.nil (Below.refl _ _) (Nat.le_refl _), (fun r hr => by cases hr), Dj.nil⟩
theorem JV.keep {w W W' : World} {v : Value} {J : List Rv} (h : JV w v J W) (hb : Below W.heap.size W W') : JV w v J W' := ⟨h.g.keep hb, fun r hr => ⟨own_belG (h.el r hr).1 hb, own_belG (h.el r hr).2 hb⟩, h.dj⟩
theorem typesLV : (104 : TypeId) ≠ 45 := by decide
theorem typesCV : (124 : TypeId) ≠ 45 := by decide
/-- One more value. -/
theorem JV.push {w W W1 W' : World} {v v' : Value} {J : List Rv} {r : Rv} (h : JV w v J W) (hb : Below W.heap.size W W1) (hl : OwnL w.heap.size r.2.1 r.1.d.labels W1) (hc : OwnC w.heap.size r.2.2 r.1.cs W1) (hd : ∀ x ∈ J, Ap x.2.1 r.2.1 ∧ Ap x.2.2 r.2.2) (hown : W'.ownsRow w.heap.size 45 11 v' (J.length + 1) (flV J ++ flV [r])) (hg : W1.grownBy W' v.ownBlock) : JV w v' (J ++ [r]) W' := by
  have h1 := h.keep hb
  refine ⟨h1.g.grow (ys := [r]) h1.g.below h1.g.size hown hg, fun q hq => ?_, h.dj.push hd⟩
  have key : ∀ q : Rv, OwnL w.heap.size q.2.1 q.1.d.labels W1 ∧ OwnC w.heap.size q.2.2 q.1.cs W1 → OwnL w.heap.size q.2.1 q.1.d.labels W' ∧ OwnC w.heap.size q.2.2 q.1.cs W' := fun q k =>
    ⟨World.ownsRow.kept k.1 hg (own_apart k.1 h1.g.own typesLV), World.ownsRow.kept k.2 hg (own_apart k.2 h1.g.own typesCV)⟩
  rcases List.mem_append.1 hq with k | k
  · exact key q (h1.el q k)
  · rw [List.mem_singleton] at k
    subst k
    exact key q ⟨hl, hc⟩
theorem flV_set (J : List Rv) (m : Nat) (r : Rv) (hm : m < J.length) : (((((((((((flV J).set (m * 11) (.int .i64 r.1.d.kind)).set (m * 11 + 1) (.string ⟨r.1.d.name.toArray⟩)).set (m * 11 + 2) (.string ⟨r.1.d.help.toArray⟩)).set (m * 11 + 3) r.2.1).set (m * 11 + 4) (.int .i64 (hiOf r.1.t))).set (m * 11 + 5) (.int .u64 (loOf r.1.t))).set (m * 11 + 6) r.2.2).set (m * 11 + 7) (.int .u64 (r.1.n : Int))).set (m * 11 + 8) (.float .f64 r.1.sum)).set (m * 11 + 9) (.float .f64 r.1.mn)).set (m * 11 + 10) (.float .f64 r.1.mx) = flV (J.set m r) := by
  apply List.ext_getElem?
  intro k
  have hlen : (flV J).length = J.length * 11 := flV_length J
  by_cases hk : k < J.length * 11
  · have hi : k / 11 < J.length := by omega
    have hj : k % 11 < 11 := by omega
    have ek : k / 11 * 11 + k % 11 = k := by omega
    have e2 := flV_get (J.set m r) (k / 11) (k % 11) (by rw [List.length_set]; exact hi) hj
    have e1 := flV_get J (k / 11) (k % 11) hi hj
    rw [ek] at e1 e2
    rw [e2]
    by_cases hkm : k / 11 = m
    · subst hkm
      rw [List.getElem_set_self]
      have ek' : k = k / 11 * 11 + k % 11 := ek.symm
      generalize hq : k / 11 = q at *
      generalize hj' : k % 11 = j at *
      rw [ek']
      have hql : ∀ c, c < 11 → q * 11 + c < (flV J).length := fun c hc => by rw [hlen]; omega
      match j, hj with
      | 0, _ => simp [List.getElem?_set, hlen]; omega
      | 1, _ => simp [List.getElem?_set, List.length_set, hlen]; omega
      | 2, _ => simp [List.getElem?_set, List.length_set, hlen]; omega
      | 3, _ => simp [List.getElem?_set, List.length_set, hlen]; omega
      | 4, _ => simp [List.getElem?_set, List.length_set, hlen]; omega
      | 5, _ => simp [List.getElem?_set, List.length_set, hlen]; omega
      | 6, _ => simp [List.getElem?_set, List.length_set, hlen]; omega
      | 7, _ => simp [List.getElem?_set, List.length_set, hlen]; omega
      | 8, _ => simp [List.getElem?_set, List.length_set, hlen]; omega
      | 9, _ => simp [List.getElem?_set, List.length_set, hlen]; omega
      | 10, _ => simp [List.getElem?_set, List.length_set, hlen]; omega
    · rw [List.getElem_set_ne (by omega), ← e1]
      rw [List.getElem?_set_ne (by omega), List.getElem?_set_ne (by omega), List.getElem?_set_ne (by omega), List.getElem?_set_ne (by omega), List.getElem?_set_ne (by omega), List.getElem?_set_ne (by omega), List.getElem?_set_ne (by omega), List.getElem?_set_ne (by omega), List.getElem?_set_ne (by omega), List.getElem?_set_ne (by omega), List.getElem?_set_ne (by omega)]
  · rw [List.getElem?_eq_none (by simp [hlen]; omega), List.getElem?_eq_none (by rw [flV_length, List.length_set]; omega)]
/-- A value of a row, written over. -/
def putR (W : World) (g o : Nat) (v0 v1 v2 v3 v4 v5 v6 v7 v8 v9 v10 : Value) : World := ((((((((((W.setCell ⟨g, o, none⟩ v0).setCell ⟨g, o + 1, none⟩ v1).setCell ⟨g, o + 2, none⟩ v2).setCell ⟨g, o + 3, none⟩ v3).setCell ⟨g, o + 4, none⟩ v4).setCell ⟨g, o + 5, none⟩ v5).setCell ⟨g, o + 6, none⟩ v6).setCell ⟨g, o + 7, none⟩ v7).setCell ⟨g, o + 8, none⟩ v8).setCell ⟨g, o + 9, none⟩ v9).setCell ⟨g, o + 10, none⟩ v10
theorem putR_eq (W : World) (g o : Nat) (v0 v1 v2 v3 v4 v5 v6 v7 v8 v9 v10 : Value) : ((((((((((W.setCell ⟨g, o, none⟩ v0).setCell ⟨g, o + 1, none⟩ v1).setCell ⟨g, o + 2, none⟩ v2).setCell ⟨g, o + 3, none⟩ v3).setCell ⟨g, o + 4, none⟩ v4).setCell ⟨g, o + 5, none⟩ v5).setCell ⟨g, o + 6, none⟩ v6).setCell ⟨g, o + 7, none⟩ v7).setCell ⟨g, o + 8, none⟩ v8).setCell ⟨g, o + 9, none⟩ v9).setCell ⟨g, o + 10, none⟩ v10 = putR W g o v0 v1 v2 v3 v4 v5 v6 v7 v8 v9 v10 := rfl
theorem JV.put {w W : World} {g cap : Nat} {J : List Rv} {m : Nat} {r : Rv} (h : JV w (.slice (some ⟨g, 0, none⟩) J.length cap) J W) (hm : m < J.length) (hl : OwnL w.heap.size r.2.1 r.1.d.labels W) (hc : OwnC w.heap.size r.2.2 r.1.cs W) (hd : ∀ j (hj : j < J.length), j ≠ m → Ap J[j].2.1 r.2.1 ∧ Ap J[j].2.2 r.2.2) :
    JV w (.slice (some ⟨g, 0, none⟩) J.length cap) (J.set m r) (putR W g (m * 11) (.int .i64 r.1.d.kind) (.string ⟨r.1.d.name.toArray⟩) (.string ⟨r.1.d.help.toArray⟩) r.2.1 (.int .i64 (hiOf r.1.t)) (.int .u64 (loOf r.1.t)) r.2.2 (.int .u64 (r.1.n : Int)) (.float .f64 r.1.sum) (.float .f64 r.1.mn) (.float .f64 r.1.mx)) := by
  obtain ⟨s0, _⟩ := h.g.own.stored (m * 11) (.int .i64 r.1.d.kind)
  obtain ⟨s1, _⟩ := s0.stored (m * 11 + 1) (.string ⟨r.1.d.name.toArray⟩)
  obtain ⟨s2, _⟩ := s1.stored (m * 11 + 2) (.string ⟨r.1.d.help.toArray⟩)
  obtain ⟨s3, _⟩ := s2.stored (m * 11 + 3) r.2.1
  obtain ⟨s4, _⟩ := s3.stored (m * 11 + 4) (.int .i64 (hiOf r.1.t))
  obtain ⟨s5, _⟩ := s4.stored (m * 11 + 5) (.int .u64 (loOf r.1.t))
  obtain ⟨s6, _⟩ := s5.stored (m * 11 + 6) r.2.2
  obtain ⟨s7, _⟩ := s6.stored (m * 11 + 7) (.int .u64 (r.1.n : Int))
  obtain ⟨s8, _⟩ := s7.stored (m * 11 + 8) (.float .f64 r.1.sum)
  obtain ⟨s9, _⟩ := s8.stored (m * 11 + 9) (.float .f64 r.1.mn)
  obtain ⟨s10, _⟩ := s9.stored (m * 11 + 10) (.float .f64 r.1.mx)
  rw [flV_set J m r hm] at s10
  have hg : w.heap.size ≤ g := by
    rcases own_atG h.g.own with k | ⟨g', k, k1, _⟩
    · cases k
    · cases k; exact k1
  have hne : ∀ {e : TypeId} {n : Nat} {v : Value} {xs : List Value}, W.ownsRow w.heap.size e 2 v n xs → e ≠ 45 → (putR W g (m * 11) (.int .i64 r.1.d.kind) (.string ⟨r.1.d.name.toArray⟩) (.string ⟨r.1.d.help.toArray⟩) r.2.1 (.int .i64 (hiOf r.1.t)) (.int .u64 (loOf r.1.t)) r.2.2 (.int .u64 (r.1.n : Int)) (.float .f64 r.1.sum) (.float .f64 r.1.mn) (.float .f64 r.1.mx)).ownsRow w.heap.size e 2 v n xs := fun {e n v xs} k ke => by
    have hb : v.ownBlock ≠ some g := by
      rcases own_apart k h.g.own ke with q | q
      · rw [q]; simp
      · exact q
    unfold putR
    exact own_set (own_set (own_set (own_set (own_set (own_set (own_set (own_set (own_set (own_set (own_set k hb _) hb _) hb _) hb _) hb _) hb _) hb _) hb _) hb _) hb _) hb _
  refine ⟨⟨by rw [List.length_set]; exact s10, ?_, ?_⟩, fun q hq => ?_, h.dj.set hd⟩
  · unfold putR
    exact ((((((((((h.g.below.setCell (p := ⟨g, m * 11, none⟩) hg _).setCell (p := ⟨g, m * 11 + 1, none⟩) hg _).setCell (p := ⟨g, m * 11 + 2, none⟩) hg _).setCell (p := ⟨g, m * 11 + 3, none⟩) hg _).setCell (p := ⟨g, m * 11 + 4, none⟩) hg _).setCell (p := ⟨g, m * 11 + 5, none⟩) hg _).setCell (p := ⟨g, m * 11 + 6, none⟩) hg _).setCell (p := ⟨g, m * 11 + 7, none⟩) hg _).setCell (p := ⟨g, m * 11 + 8, none⟩) hg _).setCell (p := ⟨g, m * 11 + 9, none⟩) hg _).setCell (p := ⟨g, m * 11 + 10, none⟩) hg _
  · unfold putR
    simp only [World.setCell, Array.size_modify]
    exact h.g.size
  · rcases List.mem_or_eq_of_mem_set hq with k | k
    · exact ⟨hne (h.el q k).1 typesLV, hne (h.el q k).2 typesCV⟩
    · subst k
      exact ⟨hne hl typesLV, hne hc typesCV⟩
end Go.Proofs.YtgkdggcpplmnaaaGreat
