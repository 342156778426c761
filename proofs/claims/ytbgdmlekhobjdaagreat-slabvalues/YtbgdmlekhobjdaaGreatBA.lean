/- THE BOOK: memory. Own work of the verifier. -/
import Derived.Test.YtbgdmlekhobjdaaGreatPC
import Derived.Test.YtbgdmlekhobjdaaGreatWL
import Derived.Laws.OwnMore
import Derived.OwnWalk
namespace Go.Proofs.YtbgdmlekhobjdaaGreat
open Go.RowKit

theorem bel_drewB {B : Nat} {a w : World} (h : Below B a w) : Below B a w.drew := ⟨h.os, h.tape, h.output, h.size, h.block⟩
/-- append to a row of the call's own: in place, or in a new row while all else stays. -/
theorem append_two {P : Program} (w : World) (base : Nat) (t ty e : TypeId) (i : TypeInfo) (z : Value) (size bytes : Nat) (ht : P.underlying t = some (.slice e)) (hi : P.info? e = some i) (hz : i.zero = some z)
    (hsize : i.size = size) (hby : i.bytes = bytes) (hzs : z.cells.size = size)
    (v : Value) (n : Nat) (xs : List Value) (hown : w.ownsRow base e size v n xs)
    (a : Addr) (m c : Nat) (news : List Value) (hl : news.length = m * size) (hnews : ∀ j u, news[j]? = some u → w.cell? (a.add j) = some u) (h1 : ∀ u ∈ news, u.oneCell' = true)
    (hm : 0 < m) (h63 : n + m ≤ maxLen) (hbytes : (n + m) * bytes ≤ 140737488355328) :
    ∃ v' w', (Builtin.append_ #[t, t] ty #[v, .slice (some a) m c]).run P w = .ok v' w' ∧
      ((∃ g cap, v = .slice (some ⟨g, 0, none⟩) n cap ∧ v' = .slice (some ⟨g, 0, none⟩) (n + m) cap ∧ w'.ownsRow base e size v' (n + m) (xs ++ news) ∧ w.grownBy w' (some g)) ∨
       (w'.ownsRow w.heap.size e size v' (n + m) (xs ++ news) ∧ Below w.heap.size w w')) := by
  subst hsize
  subst hby
  have hsmall : n + m ≤ 9223372036854775807 := by simp only [maxLen] at h63; omega
  have hlen : (xs ++ news).length = (n + m) * i.size := by rw [List.length_append, hown.1, hl, Nat.add_mul]
  have grown : ∀ (old : Nat),
      (w.drew.alloc (.cells (xs.toArray ++ news.toArray ++ Builtin.zeroCells z.cells (grownCap w (n + m) old e - (n + m))) e)).ownsRow w.heap.size e i.size
        (.slice (some ⟨w.heap.size, 0, none⟩) (n + m) (grownCap w (n + m) old e)) (n + m) (xs ++ news) ∧
      Below w.heap.size w (w.drew.alloc (.cells (xs.toArray ++ news.toArray ++ Builtin.zeroCells z.cells (grownCap w (n + m) old e - (n + m))) e)) := by
    intro old
    have hge := grownCap_ge w (n + m) old e
    have hcm : grownCap w (n + m) old e ≤ maxLen := grownCap_le_maxLen w (n + m) old e h63
    refine ⟨⟨hlen, .inr ⟨w.heap.size, _, xs.toArray ++ news.toArray ++ Builtin.zeroCells z.cells (grownCap w (n + m) old e - (n + m)), rfl, Nat.le_refl _, ?_, hge, hcm, ?_, ?_⟩⟩, (bel_drewB (Below.refl _ _)).alloc (Nat.le_refl _) _⟩
    · show (w.heap.push _)[w.heap.size]? = _
      simp
    · simp only [Array.size_append, List.size_toArray, size_zeroCells, hzs, hown.1, hl, ← Nat.add_mul]
      congr 1
      omega
    · simp only [Array.toList_append, List.append_assoc]
      rw [← List.append_assoc, ← hlen]
      exact List.take_left
  rcases hown.2 with ⟨rfl, rfl⟩ | ⟨g, cap, cur, rfl, hbg, hg, hnc, hcm, hcs, htake⟩
  · have hx : xs = [] := List.eq_nil_of_length_eq_zero (by simpa using hown.1)
    subst hx
    have hr := run_append_nil (P := P) w t ty e i z ht hi hz a m c news hl hnews (by omega) (by omega) (by have hb := hbytes; simp only [Nat.zero_add] at hb; omega)
    have hgr := grown 0
    simp only [Nat.zero_add, List.nil_append, Array.empty_append] at hgr ⊢
    exact ⟨_, _, hr, Or.inr hgr⟩
  · by_cases hroom : n + m ≤ cap
    · obtain ⟨w', k1, k2, k3⟩ := run_append_fits (P := P) w base t ty e i i.size ht hi rfl g n cap xs hown a m c news hl hnews h1 hroom
      exact ⟨_, w', k1, Or.inl ⟨g, cap, rfl, rfl, k2, k3⟩⟩
    · have holds : ∀ j u, xs[j]? = some u → w.cell? ((⟨g, 0, none⟩ : Addr).add j) = some u := hown.cells (g := g) rfl
      have hr := run_append_grow (P := P) w t ty e i z ht hi hz ⟨g, 0, none⟩ n cap xs hown.1 holds a m c news hl hnews (by omega) (by omega) (growslice_fits (by omega) hbytes)
      exact ⟨_, _, hr, Or.inr (grown cap)⟩
theorem wpList_append_two {P : Program} (w : World) {ops : Array Oper} {rest : List Oper} {o : Oper} {a : Act} {Q : Exit → Act → World → Prop} (hgd : o.guard = none) (s x : Operand) (t : TypeId)
    (ho : o.op = .call { callee := .builtin .append, args := #[s, x], argTypes := #[t, t] })
    (base : Nat) (e : TypeId) (i : TypeInfo) (z : Value) (size bytes : Nat) (ht : P.underlying t = some (.slice e)) (hi : P.info? e = some i) (hz : i.zero = some z)
    (hsize : i.size = size) (hby : i.bytes = bytes) (hzs : z.cells.size = size)
    (v : Value) (n : Nat) (xs : List Value) (hs : a.eval s = v) (hown : w.ownsRow base e size v n xs)
    (ad : Addr) (m c : Nat) (news : List Value) (hx : a.eval x = .slice (some ad) m c) (hl : news.length = m * size) (hnews : ∀ j u, news[j]? = some u → w.cell? (ad.add j) = some u) (h1 : ∀ u ∈ news, u.oneCell' = true)
    (hm : 0 < m) (h63 : n + m ≤ maxLen) (hbytes : (n + m) * bytes ≤ 140737488355328)
    (h : ∀ v' w', ((∃ g cap, v = .slice (some ⟨g, 0, none⟩) n cap ∧ v' = .slice (some ⟨g, 0, none⟩) (n + m) cap ∧ w'.ownsRow base e size v' (n + m) (xs ++ news) ∧ w.grownBy w' (some g)) ∨ (w'.ownsRow w.heap.size e size v' (n + m) (xs ++ news) ∧ Below w.heap.size w w')) → wpList P ops Q rest (a.put o.dst v') w') :
    wpList P ops Q (o :: rest) a w := by
  refine wpList_plain hgd fun K hK => ?_
  obtain ⟨v', w', hr, h2⟩ := append_two (P := P) w base t o.type e i z size bytes ht hi hz hsize hby hzs v n xs hown ad m c news hl hnews h1 hm h63 hbytes
  unfold Oper.wp execOp
  simp only [ho, resolve, invoke, builtin, Sem.run_bind, Sem.run_pure, Result.andThen_ok, List.map_toArray, List.map_cons, List.map_nil, hs, hx, hr]
  exact hK _ _ (h v' w' h2)
/-- The beginning of a row of the call's own is one too. -/
theorem own_take {W : World} {B : Nat} {e : TypeId} {size g N n cap : Nat} {xs : List Value} (h : W.ownsRow B e size (.slice (some ⟨g, 0, none⟩) N cap) N xs) (hn : n ≤ N) : W.ownsRow B e size (.slice (some ⟨g, 0, none⟩) n cap) n (xs.take (n * size)) := by
  rcases h.2 with ⟨h', _⟩ | ⟨g', cap', cur, h', hb, hg, h3, h4, h5, h6⟩
  · cases h'
  · cases h'
    refine ⟨?_, Or.inr ⟨g, cap, cur, rfl, hb, hg, by omega, h4, h5, ?_⟩⟩
    · rw [List.length_take, h.1]
      exact Nat.min_eq_left (Nat.mul_le_mul_right _ hn)
    · rw [← h6, List.take_take]
      congr 1
      exact (Nat.min_eq_left (Nat.mul_le_mul_right _ hn)).symm
/-- Two rows in one block have one room. -/
theorem own_cap {W : World} {B B' : Nat} {e : TypeId} {g n n' cap cap' : Nat} {xs xs' : List Value} (h : W.ownsRow B e 2 (.slice (some ⟨g, 0, none⟩) n cap) n xs) (h' : W.ownsRow B' e 2 (.slice (some ⟨g, 0, none⟩) n' cap') n' xs') : cap = cap' := by
  rcases h.2 with ⟨k, _⟩ | ⟨g1, c1, cur, k, _, hg, _, _, h5, _⟩
  · cases k
  rcases h'.2 with ⟨k', _⟩ | ⟨g2, c2, cur', k', _, hg', _, _, h5', _⟩
  · cases k'
  cases k
  cases k'
  rw [hg] at hg'
  cases hg'
  omega
/-- Rows of unlike types lie in unlike blocks. -/
theorem own_apart {W : World} {B B' : Nat} {e e' : TypeId} {s s' : Nat} {v v' : Value} {n n' : Nat} {xs xs' : List Value} (h : W.ownsRow B e s v n xs) (h' : W.ownsRow B' e' s' v' n' xs') (hne : e ≠ e') : v.ownBlock = none ∨ v.ownBlock ≠ v'.ownBlock := by
  rcases h.2 with ⟨k, _⟩ | ⟨g1, c1, cur, k, _, hg, _⟩
  · left; rw [k]; rfl
  right
  rcases h'.2 with ⟨k', _⟩ | ⟨g2, c2, cur', k', _, hg', _⟩
  · rw [k, k']; simp [Value.ownBlock]
  · rw [k, k']
    intro e1
    simp only [Value.ownBlock, Option.some.injEq] at e1
    subst e1
    rw [hg] at hg'
    cases hg'
    exact hne rfl
theorem grown_trans {a b c : World} {row : Option Nat} (h : a.grownBy b row) (k : b.grownBy c row) : a.grownBy c row :=
  ⟨k.os.trans h.os, k.tape.trans h.tape, k.output.trans h.output, Nat.le_trans h.size k.size, fun i hi hr => (k.block i (Nat.lt_of_lt_of_le hi h.size) hr).trans (h.block i hi hr)⟩
theorem grown_bel {a b : World} {row : Option Nat} (h : Below a.heap.size a b) : a.grownBy b row := ⟨h.os, h.tape, h.output, h.size, fun k hk _ => h.block k hk⟩
/-- One more row at work behind what was there: a step in place of it. -/
theorem grown_new {a b c : World} {row : Option Nat} {g : Nat} (h : a.grownBy b row) (k : b.grownBy c (some g)) (hg : row = some g ∨ a.heap.size ≤ g) : a.grownBy c row :=
  ⟨k.os.trans h.os, k.tape.trans h.tape, k.output.trans h.output, Nat.le_trans h.size k.size, fun i hi hr => (k.block i (Nat.lt_of_lt_of_le hi h.size) (fun e => by
    rcases hg with r | r
    · exact hr (by rw [e, r])
    · cases e; omega)).trans (h.block i hi hr)⟩
theorem own_atG {W : World} {B : Nat} {e : TypeId} {s n : Nat} {v : Value} {xs : List Value} (h : W.ownsRow B e s v n xs) : v.ownBlock = none ∨ ∃ g, v.ownBlock = some g ∧ B ≤ g ∧ g < W.heap.size := by
  rcases h.2 with ⟨q, _⟩ | ⟨g, cap, cur, q, hB, hg, _⟩
  · left; rw [q]; rfl
  · right; exact ⟨g, by rw [q]; rfl, hB, (Array.getElem?_eq_some_iff.1 hg).1⟩
theorem own_belG {W W' : World} {B : Nat} {e : TypeId} {s n : Nat} {v : Value} {xs : List Value} (h : W.ownsRow B e s v n xs) (hb : Below W.heap.size W W') : W'.ownsRow B e s v n xs := World.ownsRow.kept (row := none) h (grown_bel hb) (by cases e : v.ownBlock <;> simp)
theorem own_leG {W : World} {B B' : Nat} {e : TypeId} {s n : Nat} {v : Value} {xs : List Value} (h : W.ownsRow B e s v n xs) (hb : B' ≤ B) : W.ownsRow B' e s v n xs := by
  refine ⟨h.1, ?_⟩
  rcases h.2 with k | ⟨g, cap, cur, hv, hB, hrest⟩
  · exact Or.inl k
  · exact Or.inr ⟨g, cap, cur, hv, by omega, hrest⟩
/-- A row is not a block of another type. -/
theorem own_notype {W : World} {B p : Nat} {e t : TypeId} {s n : Nat} {v : Value} {xs : List Value} {cs : Array Value} {z : Nat × Nat} (h : W.ownsRow B e s v n xs) (hp : W.heap[p]? = some (.cells cs t z)) (hne : e ≠ t) : v.ownBlock ≠ some p := by
  rcases h.2 with ⟨k, _⟩ | ⟨g1, c1, cur, k, _, hg, _⟩
  · rw [k]; simp [Value.ownBlock]
  · rw [k]
    intro e1
    simp only [Value.ownBlock, Option.some.injEq] at e1
    subst e1
    rw [hg] at hp
    cases hp
    exact hne rfl
/-- All but some blocks stay. -/
structure Chg (S : Nat → Prop) (W W' : World) : Prop where
  os : W'.os = W.os
  tape : W'.tape = W.tape
  output : W'.output = W.output
  size : W.heap.size ≤ W'.heap.size
  block : ∀ k, k < W.heap.size → ¬ S k → W'.heap[k]? = W.heap[k]?
theorem Chg.refl (S : Nat → Prop) (W : World) : Chg S W W := ⟨rfl, rfl, rfl, Nat.le_refl _, fun _ _ _ => rfl⟩
theorem Chg.trans {S S' : Nat → Prop} {a b c : World} (h : Chg S a b) (k : Chg S' b c) (hs : ∀ x, S' x → S x ∨ a.heap.size ≤ x) : Chg S a c :=
  ⟨k.os.trans h.os, k.tape.trans h.tape, k.output.trans h.output, Nat.le_trans h.size k.size, fun j hj hn => (k.block j (Nat.lt_of_lt_of_le hj h.size) (fun q => by rcases hs j q with r | r; exact hn r; omega)).trans (h.block j hj hn)⟩
theorem Chg.of_grown {S : Nat → Prop} {a b : World} {row : Option Nat} (h : a.grownBy b row) (hs : ∀ x, row = some x → S x) : Chg S a b :=
  ⟨h.os, h.tape, h.output, h.size, fun k hk hn => h.block k hk (fun e => hn (hs k e.symm))⟩
theorem Chg.of_below {S : Nat → Prop} {a b : World} (h : Below a.heap.size a b) : Chg S a b := ⟨h.os, h.tape, h.output, h.size, fun k hk _ => h.block k hk⟩
theorem Chg.row {S : Nat → Prop} {W W' : World} {B : Nat} {e : TypeId} {s n : Nat} {v : Value} {xs : List Value} (k : Chg S W W') (h : W.ownsRow B e s v n xs) (hS : ∀ x, v.ownBlock = some x → ¬ S x) : W'.ownsRow B e s v n xs := by
  refine ⟨h.1, ?_⟩
  rcases h.2 with hn | ⟨g, cap, cur, rfl, hb, hgg, rest⟩
  · exact .inl hn
  · exact .inr ⟨g, cap, cur, rfl, hb, (k.block g (Array.getElem?_eq_some_iff.1 hgg).1 (hS g rfl)).trans hgg, rest⟩
theorem Chg.at_ {S : Nat → Prop} {W W' : World} {p : Nat} {o : Obj} (k : Chg S W W') (h : W.heap[p]? = some o) (hS : ¬ S p) : W'.heap[p]? = some o := (k.block p (Array.getElem?_eq_some_iff.1 h).1 hS).trans h
theorem Chg.below {S : Nat → Prop} {B : Nat} {a b : World} (k : Chg S a b) (hB : B ≤ a.heap.size) (hS : ∀ x, S x → B ≤ x) : Below B a b := ⟨k.os, k.tape, k.output, k.size, fun j hj => k.block j (by omega) (fun q => by have := hS j q; omega)⟩
/-- The mark of the j-th list. -/
def Mk (j : Nat) : Cn := (-1 - (j : Int), 0)
def rc (n : Nat) (m : Cn) : List Cn := List.replicate n m
theorem rc_len (n : Nat) (m : Cn) : (rc n m).length = n := by simp [rc]
theorem rc_succ (n : Nat) (m : Cn) : fl (rc (n + 1) m) = fl (rc n m) ++ [.int .i64 m.1, .int .u64 (m.2 : Int)] := by
  unfold rc
  rw [List.replicate_succ', fl_append]
  rfl
theorem fl_rc_take (n k : Nat) (m : Cn) : (fl (rc (n + k) m)).take (n * 2) = fl (rc n m) := by
  unfold rc
  rw [← List.replicate_append_replicate, fl_append, List.take_append_of_le_length (by rw [fl_length, List.length_replicate]; omega)]
  rw [List.take_of_length_le (by rw [fl_length, List.length_replicate]; omega)]
/-- Counts in a row of the call's own. -/
def OwnC (B : Nat) (v : Value) (L : List Cn) (W : World) : Prop := W.ownsRow B 45 2 v L.length (fl L)
theorem OwnC.bel {B : Nat} {v : Value} {L : List Cn} {W W' : World} (h : OwnC B v L W) (hb : Below W.heap.size W W') : OwnC B v L W' := own_belG h hb
/-- While a list is written over. -/
structure WC (B : Nat) (W1 : World) (A : List Cn) (v : Value) (m : Cn) (q : Nat) (W : World) : Prop where
  own : W.ownsRow B 45 2 v A.length (fl (rc q m) ++ fl (A.drop q))
  grown : W1.grownBy W v.ownBlock
theorem overC (A : List Cn) (m : Cn) (q : Nat) (h : q < A.length) : ((fl (rc q m) ++ fl (A.drop q)).set (q * 2) (.int .i64 m.1)).set (q * 2 + 1) (.int .u64 (m.2 : Int)) = fl (rc (q + 1) m) ++ fl (A.drop (q + 1)) := by
  rw [List.drop_eq_getElem_cons h, fl, rc_succ, List.append_assoc]
  rw [List.set_append_right _ _ (by rw [fl_length, rc_len]; omega), List.set_append_right _ _ (by rw [fl_length, rc_len]; omega)]
  rw [fl_length, rc_len, show q * 2 - q * 2 = 0 by omega, show q * 2 + 1 - q * 2 = 1 by omega]
  rfl
theorem WC.step {B : Nat} {W1 : World} {A : List Cn} {b cp : Nat} {m : Cn} {q : Nat} {W : World} (h : WC B W1 A (.slice (some ⟨b, 0, none⟩) A.length cp) m q W) (hq : q < A.length) : WC B W1 A (.slice (some ⟨b, 0, none⟩) A.length cp) m (q + 1) ((W.setCell ⟨b, q * 2, none⟩ (.int .i64 m.1)).setCell ⟨b, q * 2 + 1, none⟩ (.int .u64 (m.2 : Int))) := by
  obtain ⟨s1, g1⟩ := h.own.stored (q * 2) (.int .i64 m.1)
  obtain ⟨s2, g2⟩ := s1.stored (q * 2 + 1) (.int .u64 (m.2 : Int))
  rw [overC A m q hq] at s2
  exact ⟨s2, grown_trans h.grown (grown_trans g1 g2)⟩
theorem WC.start {B : Nat} {W1 : World} {A : List Cn} {v : Value} {m : Cn} (h : OwnC B v A W1) : WC B W1 A v m 0 W1 := ⟨by have h' : W1.ownsRow B 45 2 v A.length (fl A) := h; simpa [rc, fl] using h', grown_bel (Below.refl _ _)⟩
theorem WC.done {B : Nat} {W1 : World} {A : List Cn} {v : Value} {m : Cn} {W : World} (h : WC B W1 A v m A.length W) : OwnC B v (rc A.length m) W := by
  have := h.own
  rw [List.drop_of_length_le (Nat.le_refl _)] at this
  unfold OwnC
  rw [rc_len]
  simpa [fl] using this
/-- While marks are appended: the list itself stays as it is within its length. -/
structure AC (B : Nat) (W1 : World) (v l : Value) (n k : Nat) (m : Cn) (W : World) : Prop where
  own : OwnC B v (rc n m) W
  cur : OwnC B l (rc (n + k) m) W
  grown : W1.grownBy W v.ownBlock
  at_ : l.ownBlock = none ∨ l.ownBlock = v.ownBlock ∨ ∃ g, l.ownBlock = some g ∧ W1.heap.size ≤ g
theorem AC.curRow {B : Nat} {W1 : World} {v l : Value} {n k : Nat} {m : Cn} {W W2 : World} (h : AC B W1 v l n k m W) (hb : Below W.heap.size W W2) : W2.ownsRow B 45 2 l (n + k) (fl (rc (n + k) m)) := by
  have q : OwnC B l (rc (n + k) m) W2 := h.cur.bel hb
  unfold OwnC at q
  rw [rc_len] at q
  exact q
theorem AC.push {B : Nat} {W1 : World} {v l l' : Value} {n k : Nat} {m : Cn} {W W2 W3 : World} (h : AC B W1 v l n k m W) (hsz : B ≤ W1.heap.size) (ha : Below W.heap.size W W2)
    (hp : (∃ g cap, l = .slice (some ⟨g, 0, none⟩) (n + k) cap ∧ l' = .slice (some ⟨g, 0, none⟩) (n + k + 1) cap ∧ W3.ownsRow B 45 2 l' (n + k + 1) (fl (rc (n + k) m) ++ [.int .i64 m.1, .int .u64 (m.2 : Int)]) ∧ W2.grownBy W3 (some g)) ∨ (W3.ownsRow W2.heap.size 45 2 l' (n + k + 1) (fl (rc (n + k) m) ++ [.int .i64 m.1, .int .u64 (m.2 : Int)]) ∧ Below W2.heap.size W2 W3)) :
    AC B W1 v l' n (k + 1) m W3 := by
  have h2 : OwnC B v (rc n m) W2 := h.own.bel ha
  have h2c : OwnC B l (rc (n + k) m) W2 := h.cur.bel ha
  have g2 : W1.grownBy W2 v.ownBlock := grown_trans h.grown (grown_bel ha)
  have hb2 : B ≤ W2.heap.size := Nat.le_trans hsz g2.size
  rw [← rc_succ] at hp
  unfold OwnC at h2 h2c
  rw [rc_len] at h2 h2c
  rcases hp with ⟨g, cap, rfl, rfl, hr, hg⟩ | ⟨hr, hB⟩
  · refine ⟨?_, ?_, ?_, ?_⟩
    · unfold OwnC
      rw [rc_len]
      by_cases e : v.ownBlock = some g
      · rcases h2.2 with ⟨q, _⟩ | ⟨g', cap', cur, q, _⟩
        · rw [q] at e; cases e
        · subst q
          cases e
          have hc := own_cap h2 h2c
          subst hc
          have := own_take hr (n := n) (by omega)
          rw [show n + k + 1 = n + (k + 1) by omega, fl_rc_take] at this
          exact this
      · exact World.ownsRow.kept h2 hg (Or.inr e)
    · unfold OwnC
      rw [rc_len]
      exact hr
    · refine grown_new g2 hg ?_
      rcases h.at_ with q | q | ⟨g', q, q1⟩
      · cases q
      · exact Or.inl q.symm
      · cases q
        exact Or.inr q1
    · exact h.at_
  · refine ⟨?_, ?_, grown_trans g2 (grown_bel hB), ?_⟩
    · have : OwnC B v (rc n m) W2 := h.own.bel ha
      exact this.bel hB
    · unfold OwnC
      rw [rc_len]
      exact own_leG hr hb2
    · rcases own_atG hr with q | ⟨g, q, q1, _⟩
      · exact Or.inl q
      · exact Or.inr (Or.inr ⟨g, q, Nat.le_trans g2.size q1⟩)
/-- THE BOOK: its block, its two lists of lists, each list with its marks. -/
structure BK (B p : Nat) (L : List (Value × Value × Nat)) (vl vg : Value) (n : Nat) (W : World) : Prop where
  blk : W.heap[p]? = some (.cells #[vl, vg, .int .i64 (n : Int), .bool false] 49 (0, 0))
  rl : W.ownsRow B 25 1 vl L.length (L.map (·.1))
  rg : W.ownsRow B 25 1 vg L.length (L.map (·.2.1))
  lg : vl.ownBlock = none ∨ vl.ownBlock ≠ vg.ownBlock
  own : ∀ j (h : j < L.length), OwnC B L[j].1 (rc L[j].2.2 (Mk j)) W
  grw : ∀ j (h : j < L.length), OwnC B L[j].2.1 (rc (L[j].2.2 + 30) (Mk j)) W
theorem BK.new (B : Nat) (W : World) : BK B W.heap.size [] (.slice none 0 0) (.slice none 0 0) 0 (W.alloc (.cells #[.slice none 0 0, .slice none 0 0, .int .i64 0, .bool false] 49)) :=
  ⟨heap_alloc_new W _, World.ownsRow_nil _ _ _ _, World.ownsRow_nil _ _ _ _, Or.inl rfl, fun j h => by simp at h, fun j h => by simp at h⟩
theorem BK.below {B p : Nat} {L : List (Value × Value × Nat)} {vl vg : Value} {n : Nat} {W W' : World} (h : BK B p L vl vg n W) (hb : Below W.heap.size W W') : BK B p L vl vg n W' :=
  ⟨(hb.block p (Array.getElem?_eq_some_iff.1 h.blk).1).trans h.blk, own_belG h.rl hb, own_belG h.rg hb, h.lg, fun j hj => (h.own j hj).bel hb, fun j hj => (h.grw j hj).bel hb⟩
end Go.Proofs.YtbgdmlekhobjdaaGreat
/- THE BOOK: add, in memory. Own work of the verifier. -/
namespace Go.Proofs.YtbgdmlekhobjdaaGreat
open Go.RowKit

/-- One more list is appended to a list of lists. -/
theorem app_row {W W4 : World} {B : Nat} {v v' x : Value} {c : Nat} {xs : List Value} (o : Obj) (hv : W.ownsRow B 25 1 v c xs) (hB : B ≤ W.heap.size)
    (hp : (∃ g cap, v = .slice (some ⟨g, 0, none⟩) c cap ∧ v' = .slice (some ⟨g, 0, none⟩) (c + 1) cap ∧ W4.ownsRow B 25 1 v' (c + 1) (xs ++ [x]) ∧ (W.alloc o).grownBy W4 (some g)) ∨ (W4.ownsRow (W.alloc o).heap.size 25 1 v' (c + 1) (xs ++ [x]) ∧ Below (W.alloc o).heap.size (W.alloc o) W4)) :
    W4.ownsRow B 25 1 v' (c + 1) (xs ++ [x]) ∧ Chg (fun y => v.ownBlock = some y) W W4 ∧ (v'.ownBlock = v.ownBlock ∨ ∃ y, v'.ownBlock = some y ∧ W.heap.size ≤ y) := by
  have hs : (W.alloc o).heap.size = W.heap.size + 1 := by simp
  have h0 : Chg (fun y => v.ownBlock = some y) W (W.alloc o) := Chg.of_below (bel1 W o)
  rcases hp with ⟨g, cap, rfl, rfl, hr, hg⟩ | ⟨hr, hb⟩
  · exact ⟨hr, h0.trans (Chg.of_grown (S := fun y => some g = some y) hg (fun _ h => h)) (fun y hy => Or.inl hy), Or.inl rfl⟩
  · refine ⟨own_leG hr (by omega), h0.trans (Chg.of_below (S := fun _ => False) hb) (fun y hy => hy.elim), ?_⟩
    rcases own_atG hr with q | ⟨g, q, q1, _⟩
    · left
      rcases hr.2 with ⟨_, q'⟩ | ⟨g, cap, cur, e, _⟩
      · omega
      · rw [e] at q; cases q
    · exact Or.inr ⟨g, q, by omega⟩
/-- While the book takes the lists in. -/
structure A3 (B p : Nat) (L : List (Value × Value × Nat)) (xs ys : List Value) (vl vg : Value) (n : Nat) (S : Nat → Prop) (W0 W : World) : Prop where
  blk : W.heap[p]? = some (.cells #[vl, vg, .int .i64 (n : Int), .bool false] 49 (0, 0))
  rl : W.ownsRow B 25 1 vl xs.length xs
  rg : W.ownsRow B 25 1 vg ys.length ys
  lg : vl.ownBlock = none ∨ vl.ownBlock ≠ vg.ownBlock
  own : ∀ j (h : j < L.length), OwnC B L[j].1 (rc L[j].2.2 (Mk j)) W
  grw : ∀ j (h : j < L.length), OwnC B L[j].2.1 (rc (L[j].2.2 + 30) (Mk j)) W
  sz : B ≤ W.heap.size
  chg : Chg S W0 W
  pS : S p
  lS : ∀ x, vl.ownBlock = some x → S x ∨ W0.heap.size ≤ x
  gS : ∀ x, vg.ownBlock = some x → S x ∨ W0.heap.size ≤ x
theorem chg_set (W : World) (p i : Nat) (u : Value) : Chg (fun y => y = p) W (W.setCell ⟨p, i, none⟩ u) := ⟨rfl, rfl, rfl, by simp, fun k _ hn => Below.heap_setCell _ _ _ _ hn⟩
theorem ne_none {a b : Option Nat} (h : a = none ∨ a ≠ b) : ∀ x, a = some x → ¬ b = some x := fun x hx e => by
  rcases h with q | q
  · rw [q] at hx; cases hx
  · exact q (hx.trans e.symm)
theorem ne_none' {a b : Option Nat} (h : a = none ∨ a ≠ b) : ∀ x, b = some x → ¬ a = some x := fun x hx e => ne_none h x e hx
theorem A3.appL {B p : Nat} {L : List (Value × Value × Nat)} {xs ys : List Value} {vl vg vl' x : Value} {n : Nat} {S : Nat → Prop} {W0 W W4 : World} (h : A3 B p L xs ys vl vg n S W0 W) (o : Obj)
    (hp : (∃ g cap, vl = .slice (some ⟨g, 0, none⟩) xs.length cap ∧ vl' = .slice (some ⟨g, 0, none⟩) (xs.length + 1) cap ∧ W4.ownsRow B 25 1 vl' (xs.length + 1) (xs ++ [x]) ∧ (W.alloc o).grownBy W4 (some g)) ∨ (W4.ownsRow (W.alloc o).heap.size 25 1 vl' (xs.length + 1) (xs ++ [x]) ∧ Below (W.alloc o).heap.size (W.alloc o) W4)) :
    W4.heap[p]? = some (.cells #[vl, vg, .int .i64 (n : Int), .bool false] 49 (0, 0)) ∧ A3 B p L (xs ++ [x]) ys vl' vg n S W0 (W4.setCell ⟨p, 0, none⟩ vl') := by
  obtain ⟨r4, c4, a4⟩ := app_row o h.rl h.sz hp
  have pl := own_notype h.rl h.blk (by decide)
  have pg := own_notype h.rg h.blk (by decide)
  have b4 := c4.at_ h.blk pl
  have c5 := chg_set W4 p 0 vl'
  have b5 : (W4.setCell ⟨p, 0, none⟩ vl').heap[p]? = some (.cells #[vl', vg, .int .i64 (n : Int), .bool false] 49 (0, 0)) := by rw [heap_setCell_same W4 p 0 _ _ _ b4]; rfl
  have pl' := own_notype r4 b4 (by decide)
  have g4 := c4.row h.rg (ne_none' h.lg)
  have hk : ∀ {u : Value} {m : Nat} {zs : List Value}, W.ownsRow B 45 2 u m zs → (W4.setCell ⟨p, 0, none⟩ vl').ownsRow B 45 2 u m zs := fun hu => by
    have u4 := c4.row hu (ne_none (own_apart hu h.rl (by decide)))
    exact c5.row u4 (fun y hy e => own_notype hu h.blk (by decide) (by rw [hy, e]))
  refine ⟨b4, ⟨b5, ?_, c5.row g4 (fun y hy e => pg (by rw [hy, e])), ?_, fun j hj => hk (h.own j hj), fun j hj => hk (h.grw j hj), Nat.le_trans h.sz (Nat.le_trans c4.size c5.size), (h.chg.trans c4 h.lS).trans c5 (fun y hy => by rw [hy]; exact Or.inl h.pS), h.pS, ?_, h.gS⟩⟩
  · rw [List.length_append]
    exact c5.row r4 (fun y hy e => pl' (by rw [hy, e]))
  · rcases a4 with q | ⟨y, q, q1⟩
    · rw [q]; exact h.lg
    · right
      intro e
      rw [q] at e
      have := (h.rg.lt y e.symm).2
      omega
  · intro y hy
    rcases a4 with q | ⟨z, q, q1⟩
    · exact h.lS y (by rw [← q]; exact hy)
    · rw [q] at hy
      cases hy
      exact Or.inr (Nat.le_trans h.chg.size q1)
theorem A3.appG {B p : Nat} {L : List (Value × Value × Nat)} {xs ys : List Value} {vl vg vg' x : Value} {n : Nat} {S : Nat → Prop} {W0 W W4 : World} (h : A3 B p L xs ys vl vg n S W0 W) (o : Obj)
    (hp : (∃ g cap, vg = .slice (some ⟨g, 0, none⟩) ys.length cap ∧ vg' = .slice (some ⟨g, 0, none⟩) (ys.length + 1) cap ∧ W4.ownsRow B 25 1 vg' (ys.length + 1) (ys ++ [x]) ∧ (W.alloc o).grownBy W4 (some g)) ∨ (W4.ownsRow (W.alloc o).heap.size 25 1 vg' (ys.length + 1) (ys ++ [x]) ∧ Below (W.alloc o).heap.size (W.alloc o) W4)) :
    W4.heap[p]? = some (.cells #[vl, vg, .int .i64 (n : Int), .bool false] 49 (0, 0)) ∧ A3 B p L xs (ys ++ [x]) vl vg' n S W0 (W4.setCell ⟨p, 1, none⟩ vg') := by
  obtain ⟨r4, c4, a4⟩ := app_row o h.rg h.sz hp
  have pl := own_notype h.rl h.blk (by decide)
  have pg := own_notype h.rg h.blk (by decide)
  have b4 := c4.at_ h.blk pg
  have c5 := chg_set W4 p 1 vg'
  have b5 : (W4.setCell ⟨p, 1, none⟩ vg').heap[p]? = some (.cells #[vl, vg', .int .i64 (n : Int), .bool false] 49 (0, 0)) := by rw [heap_setCell_same W4 p 1 _ _ _ b4]; rfl
  have pg' := own_notype r4 b4 (by decide)
  have l4 := c4.row h.rl (ne_none h.lg)
  have hk : ∀ {u : Value} {m : Nat} {zs : List Value}, W.ownsRow B 45 2 u m zs → (W4.setCell ⟨p, 1, none⟩ vg').ownsRow B 45 2 u m zs := fun hu => by
    have u4 := c4.row hu (ne_none (own_apart hu h.rg (by decide)))
    exact c5.row u4 (fun y hy e => own_notype hu h.blk (by decide) (by rw [hy, e]))
  refine ⟨b4, ⟨b5, c5.row l4 (fun y hy e => pl (by rw [hy, e])), ?_, ?_, fun j hj => hk (h.own j hj), fun j hj => hk (h.grw j hj), Nat.le_trans h.sz (Nat.le_trans c4.size c5.size), (h.chg.trans c4 h.gS).trans c5 (fun y hy => by rw [hy]; exact Or.inl h.pS), h.pS, h.lS, ?_⟩⟩
  · rw [List.length_append]
    exact c5.row r4 (fun y hy e => pg' (by rw [hy, e]))
  · rcases a4 with q | ⟨y, q, q1⟩
    · rw [q]; exact h.lg
    · rcases own_atG h.rl with e0 | ⟨g, e0, _, e1⟩
      · exact Or.inl e0
      · right
        rw [e0, q]
        intro e
        cases e
        omega
  · intro y hy
    rcases a4 with q | ⟨z, q, q1⟩
    · exact h.gS y (by rw [← q]; exact hy)
    · rw [q] at hy
      cases hy
      exact Or.inr (Nat.le_trans h.chg.size q1)
theorem A3.setN {B p : Nat} {L : List (Value × Value × Nat)} {xs ys : List Value} {vl vg : Value} {n : Nat} {S : Nat → Prop} {W0 W : World} (h : A3 B p L xs ys vl vg n S W0 W) (n' : Nat) : A3 B p L xs ys vl vg n' S W0 (W.setCell ⟨p, 2, none⟩ (.int .i64 (n' : Int))) := by
  have pl := own_notype h.rl h.blk (by decide)
  have pg := own_notype h.rg h.blk (by decide)
  have c5 := chg_set W p 2 (.int .i64 (n' : Int))
  refine ⟨by rw [heap_setCell_same W p 2 _ _ _ h.blk]; rfl, c5.row h.rl (fun y hy e => pl (by rw [hy, e])), c5.row h.rg (fun y hy e => pg (by rw [hy, e])), h.lg, fun j hj => ?_, fun j hj => ?_, Nat.le_trans h.sz c5.size, h.chg.trans c5 (fun y hy => by rw [hy]; exact Or.inl h.pS), h.pS, h.lS, h.gS⟩
  · have hu := h.own j hj
    exact c5.row hu (fun y hy e => own_notype hu h.blk (by decide) (by rw [hy, e]))
  · have hu := h.grw j hj
    exact c5.row hu (fun y hy e => own_notype hu h.blk (by decide) (by rw [hy, e]))
/-- What add leaves behind. -/
def AddQ (B p : Nat) (L : List (Value × Value × Nat)) (vl vg : Value) (n k : Nat) (v : Value) (w w' : World) : Prop := ∃ g' vl' vg', BK B p (L ++ [(v, g', k)]) vl' vg' (n + 40 + k) w' ∧ (g'.ownBlock = none ∨ g'.ownBlock = v.ownBlock ∨ ∃ x, g'.ownBlock = some x ∧ w.heap.size ≤ x) ∧ Chg (fun x => x = p ∨ vl.ownBlock = some x ∨ vg.ownBlock = some x ∨ v.ownBlock = some x) w w'
/-- Lists of the book are not this one. -/
def Apart (L : List (Value × Value × Nat)) (v : Value) : Prop := ∀ e ∈ L, (e.1.ownBlock = none ∨ e.1.ownBlock ≠ v.ownBlock) ∧ (e.2.1.ownBlock = none ∨ e.2.1.ownBlock ≠ v.ownBlock)
/-- The two loops are done. -/
theorem a3_of {B p : Nat} {L : List (Value × Value × Nat)} {vl vg : Value} {n k : Nat} {v g' : Value} {A : List Cn} {w W1 W2 W : World} (h : BK B p L vl vg n w) (hsz : B ≤ w.heap.size) (hA : OwnC B v A w) (hap : Apart L v) (h1 : Below w.heap.size w W1) (hg : W1.grownBy W2 v.ownBlock) (hc : AC B W2 v g' k 30 (Mk L.length) W) :
    A3 B p (L ++ [(v, g', k)]) (L.map (·.1)) (L.map (·.2.1)) vl vg n (fun x => x = p ∨ vl.ownBlock = some x ∨ vg.ownBlock = some x ∨ v.ownBlock = some x) w W := by
  have gg := grown_trans hg hc.grown
  have cw : Chg (fun x => v.ownBlock = some x) w W := (Chg.of_below (S := fun x => v.ownBlock = some x) h1).trans (Chg.of_grown (S := fun x => v.ownBlock = some x) gg (fun x hx => hx)) (fun x hx => Or.inl hx)
  have hk : ∀ (j : Nat) (hj : j < (L ++ [(v, g', k)]).length), OwnC B (L ++ [(v, g', k)])[j].1 (rc (L ++ [(v, g', k)])[j].2.2 (Mk j)) W ∧ OwnC B (L ++ [(v, g', k)])[j].2.1 (rc ((L ++ [(v, g', k)])[j].2.2 + 30) (Mk j)) W := fun j hj => by
    rw [List.length_append, List.length_singleton] at hj
    by_cases c : j < L.length
    · rw [List.getElem_append_left c]
      obtain ⟨q1, q2⟩ := hap L[j] (List.getElem_mem c)
      exact ⟨cw.row (h.own j c) (ne_none q1), cw.row (h.grw j c) (ne_none q2)⟩
    · have : j = L.length := by omega
      subst this
      rw [List.getElem_append_right (Nat.le_refl _)]
      simp only [Nat.sub_self, List.getElem_singleton]
      exact ⟨hc.own, hc.cur⟩
  refine ⟨cw.at_ h.blk (own_notype hA h.blk (by decide)), ?_, ?_, h.lg, fun j hj => (hk j hj).1, fun j hj => (hk j hj).2, Nat.le_trans hsz cw.size, ⟨cw.os, cw.tape, cw.output, cw.size, fun x hx hn => cw.block x hx (fun e => hn (Or.inr (Or.inr (Or.inr e))))⟩, Or.inl rfl, fun x hx => Or.inl (Or.inr (Or.inl hx)), fun x hx => Or.inl (Or.inr (Or.inr (Or.inl hx)))⟩
  · rw [List.length_map]
    exact cw.row h.rl (ne_none (own_apart h.rl hA (by decide)))
  · rw [List.length_map]
    exact cw.row h.rg (ne_none (own_apart h.rg hA (by decide)))
theorem A3.done {B p : Nat} {L : List (Value × Value × Nat)} {vl vg vl' vg' : Value} {n k : Nat} {v g' : Value} {w W : World} (h : A3 B p (L ++ [(v, g', k)]) (L.map (·.1) ++ [v]) (L.map (·.2.1) ++ [g']) vl' vg' (n + 40 + k) (fun x => x = p ∨ vl.ownBlock = some x ∨ vg.ownBlock = some x ∨ v.ownBlock = some x) w W) (hat : g'.ownBlock = none ∨ g'.ownBlock = v.ownBlock ∨ ∃ x, g'.ownBlock = some x ∧ w.heap.size ≤ x) : AddQ B p L vl vg n k v w W := by
  have e1 : (L ++ [(v, g', k)]).map (·.1) = L.map (·.1) ++ [v] := by simp
  have e2 : (L ++ [(v, g', k)]).map (·.2.1) = L.map (·.2.1) ++ [g'] := by simp
  have hl := h.rl
  have hg := h.rg
  rw [← e1, List.length_map] at hl
  rw [← e2, List.length_map] at hg
  exact ⟨g', vl', vg', ⟨h.blk, hl, hg, h.lg, h.own, h.grw⟩, hat, h.chg⟩
end Go.Proofs.YtbgdmlekhobjdaaGreat
