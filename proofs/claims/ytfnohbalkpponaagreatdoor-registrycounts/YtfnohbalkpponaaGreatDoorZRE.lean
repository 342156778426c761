/- THE BOOK: memory. Own work of the verifier. -/
import Derived.Test.YtfnohbalkpponaaGreatDoorZAD
import Derived.Test.YtfnohbalkpponaaGreatDoorZAK
import Derived.Laws.OwnMore
import Derived.OwnWalk
import Derived.BigQuiet
import Derived.Test.YtfnohbalkpponaaGreatDoorZAT
import Derived.Test.YtfnohbalkpponaaGreatDoorZAR
import Derived.Test.YtfnohbalkpponaaGreatDoorZAS
namespace Go.Proofs.YtfnohbalkpponaaGreatDoor.Va
open Go.RowKit

theorem bel_drewB {B : Nat} {a w : World} (h : Below B a w) : Below B a w.drew := ⟨h.os, h.tape, h.output, h.size, h.block⟩
/-- append to a row of the call's own: in place, or in a new row while all else stays. -/
theorem append_two {P : Program} (w : World) (base : Nat) (t ty e : TypeId) (i : TypeInfo) (z : Value) (size bytes : Nat) (ht : P.underlying t = some (.slice e)) (hi : P.info? e = some i) (hz : i.zero = some z)
    (hsize : i.size = size) (hby : i.bytes = bytes) (hzs : z.cells.size = size)
    (v : Value) (n : Nat) (xs : List Value) (hown : w.ownsRow base e size v n xs)
    (a : Addr) (m c : Nat) (news : List Value) (hl : news.length = m * size) (hnews : ∀ j u, news[j]? = some u → w.cell? (a.add j) = some u) (h1 : ∀ u ∈ news, u.oneCell' = true)
    (hm : 0 < m) (h63 : n + m ≤ maxLen) (hbytes : (n + m) * bytes ≤ 140737488355328) :
    ∃ v' w', (Builtin.append_ #[t, t] ty #[v, .slice (some a) m c]).run P w = .ok v' w' ∧
      ((∃ g cap, v = .slice (some ⟨g, 0, none⟩) n cap ∧ v' = .slice (some ⟨g, 0, none⟩) (n + m) cap ∧ w'.ownsRow base e size v' (n + m) (xs ++ news) ∧ w.grownBy w' (some g)) ∨
       (w'.ownsRow w.heap.size e size v' (n + m) (xs ++ news) ∧ Below w.heap.size w w')) := by
  subst hsize
  subst hby
  have hsmall : n + m ≤ 9223372036854775807 := by simp only [maxLen] at h63; omega
  have hlen : (xs ++ news).length = (n + m) * i.size := by rw [List.length_append, hown.1, hl, Nat.add_mul]
  have grown : ∀ (old : Nat),
      (w.drew.alloc (.cells (xs.toArray ++ news.toArray ++ Builtin.zeroCells z.cells (grownCap w (n + m) old e - (n + m))) e)).ownsRow w.heap.size e i.size
        (.slice (some ⟨w.heap.size, 0, none⟩) (n + m) (grownCap w (n + m) old e)) (n + m) (xs ++ news) ∧
      Below w.heap.size w (w.drew.alloc (.cells (xs.toArray ++ news.toArray ++ Builtin.zeroCells z.cells (grownCap w (n + m) old e - (n + m))) e)) := by
    intro old
    have hge := grownCap_ge w (n + m) old e
    have hcm : grownCap w (n + m) old e ≤ maxLen := grownCap_le_maxLen w (n + m) old e h63
    refine ⟨⟨hlen, .inr ⟨w.heap.size, _, xs.toArray ++ news.toArray ++ Builtin.zeroCells z.cells (grownCap w (n + m) old e - (n + m)), rfl, Nat.le_refl _, ?_, hge, hcm, ?_, ?_⟩⟩, (bel_drewB (Below.refl _ _)).alloc (Nat.le_refl _) _⟩
    · show (w.heap.push _)[w.heap.size]? = _
      simp
    · simp only [Array.size_append, List.size_toArray, size_zeroCells, hzs, hown.1, hl, ← Nat.add_mul]
      congr 1
      omega
    · simp only [Array.toList_append, List.append_assoc]
      rw [← List.append_assoc, ← hlen]
      exact List.take_left
  rcases hown.2 with ⟨rfl, rfl⟩ | ⟨g, cap, cur, rfl, hbg, hg, hnc, hcm, hcs, htake⟩
  · have hx : xs = [] := List.eq_nil_of_length_eq_zero (by simpa using hown.1)
    subst hx
    have hr := run_append_nil (P := P) w t ty e i z ht hi hz a m c news hl hnews (by omega) (by omega) (by have hb := hbytes; simp only [Nat.zero_add] at hb; omega)
    have hgr := grown 0
    simp only [Nat.zero_add, List.nil_append, Array.empty_append] at hgr ⊢
    exact ⟨_, _, hr, Or.inr hgr⟩
  · by_cases hroom : n + m ≤ cap
    · obtain ⟨w', k1, k2, k3⟩ := run_append_fits (P := P) w base t ty e i i.size ht hi rfl g n cap xs hown a m c news hl hnews h1 hroom
      exact ⟨_, w', k1, Or.inl ⟨g, cap, rfl, rfl, k2, k3⟩⟩
    · have holds : ∀ j u, xs[j]? = some u → w.cell? ((⟨g, 0, none⟩ : Addr).add j) = some u := hown.cells (g := g) rfl
      have hr := run_append_grow (P := P) w t ty e i z ht hi hz ⟨g, 0, none⟩ n cap xs hown.1 holds a m c news hl hnews (by omega) (by omega) (growslice_fits (by omega) hbytes)
      exact ⟨_, _, hr, Or.inr (grown cap)⟩
theorem wpList_append_two {P : Program} (w : World) {ops : Array Oper} {rest : List Oper} {o : Oper} {a : Act} {Q : Exit → Act → World → Prop} (hgd : o.guard = none) (s x : Operand) (t : TypeId)
    (ho : o.op = .call { callee := .builtin .append, args := #[s, x], argTypes := #[t, t] })
    (base : Nat) (e : TypeId) (i : TypeInfo) (z : Value) (size bytes : Nat) (ht : P.underlying t = some (.slice e)) (hi : P.info? e = some i) (hz : i.zero = some z)
    (hsize : i.size = size) (hby : i.bytes = bytes) (hzs : z.cells.size = size)
    (v : Value) (n : Nat) (xs : List Value) (hs : a.eval s = v) (hown : w.ownsRow base e size v n xs)
    (ad : Addr) (m c : Nat) (news : List Value) (hx : a.eval x = .slice (some ad) m c) (hl : news.length = m * size) (hnews : ∀ j u, news[j]? = some u → w.cell? (ad.add j) = some u) (h1 : ∀ u ∈ news, u.oneCell' = true)
    (hm : 0 < m) (h63 : n + m ≤ maxLen) (hbytes : (n + m) * bytes ≤ 140737488355328)
    (h : ∀ v' w', ((∃ g cap, v = .slice (some ⟨g, 0, none⟩) n cap ∧ v' = .slice (some ⟨g, 0, none⟩) (n + m) cap ∧ w'.ownsRow base e size v' (n + m) (xs ++ news) ∧ w.grownBy w' (some g)) ∨ (w'.ownsRow w.heap.size e size v' (n + m) (xs ++ news) ∧ Below w.heap.size w w')) → wpList P ops Q rest (a.put o.dst v') w') :
    wpList P ops Q (o :: rest) a w := by
  refine wpList_plain hgd fun K hK => ?_
  obtain ⟨v', w', hr, h2⟩ := append_two (P := P) w base t o.type e i z size bytes ht hi hz hsize hby hzs v n xs hown ad m c news hl hnews h1 hm h63 hbytes
  unfold Oper.wp execOp
  simp only [ho, resolve, invoke, builtin, Sem.run_bind, Sem.run_pure, Result.andThen_ok, List.map_toArray, List.map_cons, List.map_nil, hs, hx, hr]
  exact hK _ _ (h v' w' h2)
/-- The beginning of a row of the call's own is one too. -/
theorem own_take {W : World} {B : Nat} {e : TypeId} {size g N n cap : Nat} {xs : List Value} (h : W.ownsRow B e size (.slice (some ⟨g, 0, none⟩) N cap) N xs) (hn : n ≤ N) : W.ownsRow B e size (.slice (some ⟨g, 0, none⟩) n cap) n (xs.take (n * size)) := by
  rcases h.2 with ⟨h', _⟩ | ⟨g', cap', cur, h', hb, hg, h3, h4, h5, h6⟩
  · cases h'
  · cases h'
    refine ⟨?_, Or.inr ⟨g, cap, cur, rfl, hb, hg, by omega, h4, h5, ?_⟩⟩
    · rw [List.length_take, h.1]
      exact Nat.min_eq_left (Nat.mul_le_mul_right _ hn)
    · rw [← h6, List.take_take]
      congr 1
      exact (Nat.min_eq_left (Nat.mul_le_mul_right _ hn)).symm
/-- Two rows in one block have one room. -/
theorem own_cap {W : World} {B B' : Nat} {e : TypeId} {g n n' cap cap' : Nat} {xs xs' : List Value} (h : W.ownsRow B e 2 (.slice (some ⟨g, 0, none⟩) n cap) n xs) (h' : W.ownsRow B' e 2 (.slice (some ⟨g, 0, none⟩) n' cap') n' xs') : cap = cap' := by
  rcases h.2 with ⟨k, _⟩ | ⟨g1, c1, cur, k, _, hg, _, _, h5, _⟩
  · cases k
  rcases h'.2 with ⟨k', _⟩ | ⟨g2, c2, cur', k', _, hg', _, _, h5', _⟩
  · cases k'
  cases k
  cases k'
  rw [hg] at hg'
  cases hg'
  omega
theorem grown_trans {a b c : World} {row : Option Nat} (h : a.grownBy b row) (k : b.grownBy c row) : a.grownBy c row :=
  ⟨k.os.trans h.os, k.tape.trans h.tape, k.output.trans h.output, Nat.le_trans h.size k.size, fun i hi hr => (k.block i (Nat.lt_of_lt_of_le hi h.size) hr).trans (h.block i hi hr)⟩
theorem grown_bel {a b : World} {row : Option Nat} (h : Below a.heap.size a b) : a.grownBy b row := ⟨h.os, h.tape, h.output, h.size, fun k hk _ => h.block k hk⟩
/-- One more row at work behind what was there: a step in place of it. -/
theorem grown_new {a b c : World} {row : Option Nat} {g : Nat} (h : a.grownBy b row) (k : b.grownBy c (some g)) (hg : row = some g ∨ a.heap.size ≤ g) : a.grownBy c row :=
  ⟨k.os.trans h.os, k.tape.trans h.tape, k.output.trans h.output, Nat.le_trans h.size k.size, fun i hi hr => (k.block i (Nat.lt_of_lt_of_le hi h.size) (fun e => by
    rcases hg with r | r
    · exact hr (by rw [e, r])
    · cases e; omega)).trans (h.block i hi hr)⟩
theorem own_atG {W : World} {B : Nat} {e : TypeId} {s n : Nat} {v : Value} {xs : List Value} (h : W.ownsRow B e s v n xs) : v.ownBlock = none ∨ ∃ g, v.ownBlock = some g ∧ B ≤ g ∧ g < W.heap.size := by
  rcases h.2 with ⟨q, _⟩ | ⟨g, cap, cur, q, hB, hg, _⟩
  · left; rw [q]; rfl
  · right; exact ⟨g, by rw [q]; rfl, hB, (Array.getElem?_eq_some_iff.1 hg).1⟩
theorem own_belG {W W' : World} {B : Nat} {e : TypeId} {s n : Nat} {v : Value} {xs : List Value} (h : W.ownsRow B e s v n xs) (hb : Below W.heap.size W W') : W'.ownsRow B e s v n xs := World.ownsRow.kept (row := none) h (grown_bel hb) (by cases e : v.ownBlock <;> simp)
theorem own_leG {W : World} {B B' : Nat} {e : TypeId} {s n : Nat} {v : Value} {xs : List Value} (h : W.ownsRow B e s v n xs) (hb : B' ≤ B) : W.ownsRow B' e s v n xs := by
  refine ⟨h.1, ?_⟩
  rcases h.2 with k | ⟨g, cap, cur, hv, hB, hrest⟩
  · exact Or.inl k
  · exact Or.inr ⟨g, cap, cur, hv, by omega, hrest⟩
/-- All but some blocks stay. -/
structure Chg (S : Nat → Prop) (W W' : World) : Prop where
  os : W'.os = W.os
  tape : W'.tape = W.tape
  output : W'.output = W.output
  size : W.heap.size ≤ W'.heap.size
  block : ∀ k, k < W.heap.size → ¬ S k → W'.heap[k]? = W.heap[k]?
theorem Chg.refl (S : Nat → Prop) (W : World) : Chg S W W := ⟨rfl, rfl, rfl, Nat.le_refl _, fun _ _ _ => rfl⟩
theorem Chg.trans {S S' : Nat → Prop} {a b c : World} (h : Chg S a b) (k : Chg S' b c) (hs : ∀ x, S' x → S x ∨ a.heap.size ≤ x) : Chg S a c :=
  ⟨k.os.trans h.os, k.tape.trans h.tape, k.output.trans h.output, Nat.le_trans h.size k.size, fun j hj hn => (k.block j (Nat.lt_of_lt_of_le hj h.size) (fun q => by rcases hs j q with r | r; exact hn r; omega)).trans (h.block j hj hn)⟩
theorem Chg.of_below {S : Nat → Prop} {a b : World} (h : Below a.heap.size a b) : Chg S a b := ⟨h.os, h.tape, h.output, h.size, fun k hk _ => h.block k hk⟩
theorem Chg.row {S : Nat → Prop} {W W' : World} {B : Nat} {e : TypeId} {s n : Nat} {v : Value} {xs : List Value} (k : Chg S W W') (h : W.ownsRow B e s v n xs) (hS : ∀ x, v.ownBlock = some x → ¬ S x) : W'.ownsRow B e s v n xs := by
  refine ⟨h.1, ?_⟩
  rcases h.2 with hn | ⟨g, cap, cur, rfl, hb, hgg, rest⟩
  · exact .inl hn
  · exact .inr ⟨g, cap, cur, rfl, hb, (k.block g (Array.getElem?_eq_some_iff.1 hgg).1 (hS g rfl)).trans hgg, rest⟩
theorem Chg.at_ {S : Nat → Prop} {W W' : World} {p : Nat} {o : Obj} (k : Chg S W W') (h : W.heap[p]? = some o) (hS : ¬ S p) : W'.heap[p]? = some o := (k.block p (Array.getElem?_eq_some_iff.1 h).1 hS).trans h
theorem Chg.below {S : Nat → Prop} {B : Nat} {a b : World} (k : Chg S a b) (hB : B ≤ a.heap.size) (hS : ∀ x, S x → B ≤ x) : Below B a b := ⟨k.os, k.tape, k.output, k.size, fun j hj => k.block j (by omega) (fun q => by have := hS j q; omega)⟩
/-- The mark of the j-th list. -/
def Mk (j : Nat) : Cn := (-1 - (j : Int), 0)
def rc (n : Nat) (m : Cn) : List Cn := List.replicate n m
theorem rc_len (n : Nat) (m : Cn) : (rc n m).length = n := by simp [rc]
theorem rc_succ (n : Nat) (m : Cn) : fl (rc (n + 1) m) = fl (rc n m) ++ [.int .i64 m.1, .int .u64 (m.2 : Int)] := by
  unfold rc
  rw [List.replicate_succ', fl_append]
  rfl
theorem fl_rc_take (n k : Nat) (m : Cn) : (fl (rc (n + k) m)).take (n * 2) = fl (rc n m) := by
  unfold rc
  rw [← List.replicate_append_replicate, fl_append, List.take_append_of_le_length (by rw [fl_length, List.length_replicate]; omega)]
  rw [List.take_of_length_le (by rw [fl_length, List.length_replicate]; omega)]
/-- Counts in a row of the call's own. -/
def OwnC (B : Nat) (v : Value) (L : List Cn) (W : World) : Prop := W.ownsRow B 160 2 v L.length (fl L)
theorem OwnC.bel {B : Nat} {v : Value} {L : List Cn} {W W' : World} (h : OwnC B v L W) (hb : Below W.heap.size W W') : OwnC B v L W' := own_belG h hb
/-- While a list is written over. -/
structure WC (B : Nat) (W1 : World) (A : List Cn) (v : Value) (m : Cn) (q : Nat) (W : World) : Prop where
  own : W.ownsRow B 160 2 v A.length (fl (rc q m) ++ fl (A.drop q))
  grown : W1.grownBy W v.ownBlock
theorem overC (A : List Cn) (m : Cn) (q : Nat) (h : q < A.length) : ((fl (rc q m) ++ fl (A.drop q)).set (q * 2) (.int .i64 m.1)).set (q * 2 + 1) (.int .u64 (m.2 : Int)) = fl (rc (q + 1) m) ++ fl (A.drop (q + 1)) := by
  rw [List.drop_eq_getElem_cons h, fl, rc_succ, List.append_assoc]
  rw [List.set_append_right _ _ (by rw [fl_length, rc_len]; omega), List.set_append_right _ _ (by rw [fl_length, rc_len]; omega)]
  rw [fl_length, rc_len, show q * 2 - q * 2 = 0 by omega, show q * 2 + 1 - q * 2 = 1 by omega]
  rfl
theorem WC.step {B : Nat} {W1 : World} {A : List Cn} {b cp : Nat} {m : Cn} {q : Nat} {W : World} (h : WC B W1 A (.slice (some ⟨b, 0, none⟩) A.length cp) m q W) (hq : q < A.length) : WC B W1 A (.slice (some ⟨b, 0, none⟩) A.length cp) m (q + 1) ((W.setCell ⟨b, q * 2, none⟩ (.int .i64 m.1)).setCell ⟨b, q * 2 + 1, none⟩ (.int .u64 (m.2 : Int))) := by
  obtain ⟨s1, g1⟩ := h.own.stored (q * 2) (.int .i64 m.1)
  obtain ⟨s2, g2⟩ := s1.stored (q * 2 + 1) (.int .u64 (m.2 : Int))
  rw [overC A m q hq] at s2
  exact ⟨s2, grown_trans h.grown (grown_trans g1 g2)⟩
theorem WC.start {B : Nat} {W1 : World} {A : List Cn} {v : Value} {m : Cn} (h : OwnC B v A W1) : WC B W1 A v m 0 W1 := ⟨by have h' : W1.ownsRow B 160 2 v A.length (fl A) := h; simpa [rc, fl] using h', grown_bel (Below.refl _ _)⟩
theorem WC.done {B : Nat} {W1 : World} {A : List Cn} {v : Value} {m : Cn} {W : World} (h : WC B W1 A v m A.length W) : OwnC B v (rc A.length m) W := by
  have := h.own
  rw [List.drop_of_length_le (Nat.le_refl _)] at this
  unfold OwnC
  rw [rc_len]
  simpa [fl] using this
/-- While marks are appended: the list itself stays as it is within its length. -/
structure AC (B : Nat) (W1 : World) (v l : Value) (n k : Nat) (m : Cn) (W : World) : Prop where
  own : OwnC B v (rc n m) W
  cur : OwnC B l (rc (n + k) m) W
  grown : W1.grownBy W v.ownBlock
  at_ : l.ownBlock = none ∨ l.ownBlock = v.ownBlock ∨ ∃ g, l.ownBlock = some g ∧ W1.heap.size ≤ g
theorem AC.push {B : Nat} {W1 : World} {v l l' : Value} {n k : Nat} {m : Cn} {W W2 W3 : World} (h : AC B W1 v l n k m W) (hsz : B ≤ W1.heap.size) (ha : Below W.heap.size W W2)
    (hp : (∃ g cap, l = .slice (some ⟨g, 0, none⟩) (n + k) cap ∧ l' = .slice (some ⟨g, 0, none⟩) (n + k + 1) cap ∧ W3.ownsRow B 160 2 l' (n + k + 1) (fl (rc (n + k) m) ++ [.int .i64 m.1, .int .u64 (m.2 : Int)]) ∧ W2.grownBy W3 (some g)) ∨ (W3.ownsRow W2.heap.size 160 2 l' (n + k + 1) (fl (rc (n + k) m) ++ [.int .i64 m.1, .int .u64 (m.2 : Int)]) ∧ Below W2.heap.size W2 W3)) :
    AC B W1 v l' n (k + 1) m W3 := by
  have h2 : OwnC B v (rc n m) W2 := h.own.bel ha
  have h2c : OwnC B l (rc (n + k) m) W2 := h.cur.bel ha
  have g2 : W1.grownBy W2 v.ownBlock := grown_trans h.grown (grown_bel ha)
  have hb2 : B ≤ W2.heap.size := Nat.le_trans hsz g2.size
  rw [← rc_succ] at hp
  unfold OwnC at h2 h2c
  rw [rc_len] at h2 h2c
  rcases hp with ⟨g, cap, rfl, rfl, hr, hg⟩ | ⟨hr, hB⟩
  · refine ⟨?_, ?_, ?_, ?_⟩
    · unfold OwnC
      rw [rc_len]
      by_cases e : v.ownBlock = some g
      · rcases h2.2 with ⟨q, _⟩ | ⟨g', cap', cur, q, _⟩
        · rw [q] at e; cases e
        · subst q
          cases e
          have hc := own_cap h2 h2c
          subst hc
          have := own_take hr (n := n) (by omega)
          rw [show n + k + 1 = n + (k + 1) by omega, fl_rc_take] at this
          exact this
      · exact World.ownsRow.kept h2 hg (Or.inr e)
    · unfold OwnC
      rw [rc_len]
      exact hr
    · refine grown_new g2 hg ?_
      rcases h.at_ with q | q | ⟨g', q, q1⟩
      · cases q
      · exact Or.inl q.symm
      · cases q
        exact Or.inr q1
    · exact h.at_
  · refine ⟨?_, ?_, grown_trans g2 (grown_bel hB), ?_⟩
    · have : OwnC B v (rc n m) W2 := h.own.bel ha
      exact this.bel hB
    · unfold OwnC
      rw [rc_len]
      exact own_leG hr hb2
    · rcases own_atG hr with q | ⟨g, q, q1, _⟩
      · exact Or.inl q
      · exact Or.inr (Or.inr ⟨g, q, Nat.le_trans g2.size q1⟩)
end Go.Proofs.YtfnohbalkpponaaGreatDoor.Va
/- THE BOOK: add, in memory. Own work of the verifier. -/
namespace Go.Proofs.YtfnohbalkpponaaGreatDoor.Va
open Go.RowKit

theorem chg_set (W : World) (p i : Nat) (u : Value) : Chg (fun y => y = p) W (W.setCell ⟨p, i, none⟩ u) := ⟨rfl, rfl, rfl, by simp, fun k _ hn => Below.heap_setCell _ _ _ _ hn⟩
end Go.Proofs.YtfnohbalkpponaaGreatDoor.Va
/- THE BOOK: add. Own work of the verifier. -/
namespace Go.Proofs.YtfnohbalkpponaaGreatDoor.Va
open Go.RowKit

theorem four_cells {W : World} {b : Nat} {u0 u1 u2 u3 : Value} {t : TypeId} (h : W.heap[b]? = some (.cells #[u0, u1, u2, u3] t (0, 0))) : W.cell? ⟨b, 0, none⟩ = some u0 ∧ W.cell? ⟨b, 1, none⟩ = some u1 ∧ W.cell? ⟨b, 2, none⟩ = some u2 ∧ W.cell? ⟨b, 3, none⟩ = some u3 ∧ ∀ j, W.frozen? ⟨b, j, none⟩ = false := by
  refine ⟨?_, ?_, ?_, ?_, fun j => ?_⟩ <;> simp [World.cell?, World.frozen?, h]
theorem own_slice {W : World} {B : Nat} {e : TypeId} {s n : Nat} {v : Value} {xs : List Value} (h : W.ownsRow B e s v n xs) : ∃ ao g cap, v = .slice ao n cap ∧ (0 < n → ao = some ⟨g, 0, none⟩) := by
  rcases h.2 with ⟨q, q2⟩ | ⟨g, cap, cur, q, _⟩
  · exact ⟨none, 0, 0, by rw [q, q2], fun k => by omega⟩
  · exact ⟨_, g, cap, q, fun _ => rfl⟩
end Go.Proofs.YtfnohbalkpponaaGreatDoor.Va
/- THE BOOK: stays. Own work of the verifier. -/
namespace Go.Proofs.YtfnohbalkpponaaGreatDoor.Va
open Go.RowKit

theorem OwnC.form {W : World} {B n : Nat} {v : Value} {m : Cn} (h : OwnC B v (rc n m) W) : ∃ ao g cap, v = .slice ao n cap ∧ (0 < n → ao = some ⟨g, 0, none⟩) := by
  have h' : W.ownsRow B 160 2 v n (fl (rc n m)) := by have := h; unfold OwnC at this; rw [rc_len] at this; exact this
  exact own_slice h'
end Go.Proofs.YtfnohbalkpponaaGreatDoor.Va
/- LISTS OF LABELS in memory. Own work of the verifier. -/
namespace Go.Proofs.YtfnohbalkpponaaGreatDoor.Va
open Go.RowKit

abbrev Lb : Type := List UInt8 × List UInt8
/-- Labels, one behind the other. -/
def RowL (W : World) (b o : Nat) (L : List Lb) : Prop := ∀ i (h : i < L.length), W.cell? ⟨b, o + i * 2, none⟩ = some (.string ⟨L[i].1.toArray⟩) ∧ W.cell? ⟨b, o + i * 2 + 1, none⟩ = some (.string ⟨L[i].2.toArray⟩)
theorem RowL.below {W W1 : World} {b o : Nat} {L : List Lb} (h : RowL W b o L) (hb : Below W.heap.size W W1) : RowL W1 b o L := fun i hi => by
  obtain ⟨h1, h2⟩ := h i hi
  rw [hb.cell (p := ⟨b, o + i * 2, none⟩) (lt_of_cell h1), hb.cell (p := ⟨b, o + i * 2 + 1, none⟩) (lt_of_cell h2)]
  exact ⟨h1, h2⟩
def flL : List Lb → List Value
  | [] => []
  | c :: L => .string ⟨c.1.toArray⟩ :: .string ⟨c.2.toArray⟩ :: flL L
theorem flL_length (L : List Lb) : (flL L).length = L.length * 2 := by
  induction L with
  | nil => rfl
  | cons c L ih => simp only [flL, List.length_cons, ih]; omega
theorem flL_append (A B : List Lb) : flL (A ++ B) = flL A ++ flL B := by
  induction A with
  | nil => rfl
  | cons c A ih => simp only [List.cons_append, flL, ih]
theorem flL_get (L : List Lb) (i : Nat) (h : i < L.length) : (flL L)[i * 2]? = some (.string ⟨L[i].1.toArray⟩) ∧ (flL L)[i * 2 + 1]? = some (.string ⟨L[i].2.toArray⟩) := by
  induction L generalizing i with
  | nil => simp at h
  | cons c L ih =>
    cases i with
    | zero => exact ⟨rfl, rfl⟩
    | succ i =>
      have := ih i (by simpa using h)
      rw [show (i + 1) * 2 = i * 2 + 2 by omega]
      simpa [flL] using this
theorem infoLabel : (Tryz.prog.info? 54).map (fun i => (i.zero, i.size, i.bytes)) = some (some (.agg #[.string ⟨#[]⟩, .string ⟨#[]⟩]), 2, 32) := by kernel_rfl
def rl (n : Nat) (m : Lb) : List Lb := List.replicate n m
theorem rl_len (n : Nat) (m : Lb) : (rl n m).length = n := by simp [rl]
theorem rl_succ (n : Nat) (m : Lb) : flL (rl (n + 1) m) = flL (rl n m) ++ [.string ⟨m.1.toArray⟩, .string ⟨m.2.toArray⟩] := by
  unfold rl
  rw [List.replicate_succ', flL_append]
  rfl
theorem flL_rl_take (n k : Nat) (m : Lb) : (flL (rl (n + k) m)).take (n * 2) = flL (rl n m) := by
  unfold rl
  rw [← List.replicate_append_replicate, flL_append, List.take_append_of_le_length (by rw [flL_length, List.length_replicate]; omega)]
  rw [List.take_of_length_le (by rw [flL_length, List.length_replicate]; omega)]
/-- Counts in a row of the call's own. -/
def OwnL (B : Nat) (v : Value) (L : List Lb) (W : World) : Prop := W.ownsRow B 54 2 v L.length (flL L)
theorem OwnL.bel {B : Nat} {v : Value} {L : List Lb} {W W' : World} (h : OwnL B v L W) (hb : Below W.heap.size W W') : OwnL B v L W' := own_belG h hb
/-- While a list is written over. -/
structure WL (B : Nat) (W1 : World) (A : List Lb) (v : Value) (m : Lb) (q : Nat) (W : World) : Prop where
  own : W.ownsRow B 54 2 v A.length (flL (rl q m) ++ flL (A.drop q))
  grown : W1.grownBy W v.ownBlock
theorem overL (A : List Lb) (m : Lb) (q : Nat) (h : q < A.length) : ((flL (rl q m) ++ flL (A.drop q)).set (q * 2) (.string ⟨m.1.toArray⟩)).set (q * 2 + 1) (.string ⟨m.2.toArray⟩) = flL (rl (q + 1) m) ++ flL (A.drop (q + 1)) := by
  rw [List.drop_eq_getElem_cons h, flL, rl_succ, List.append_assoc]
  rw [List.set_append_right _ _ (by rw [flL_length, rl_len]; omega), List.set_append_right _ _ (by rw [flL_length, rl_len]; omega)]
  rw [flL_length, rl_len, show q * 2 - q * 2 = 0 by omega, show q * 2 + 1 - q * 2 = 1 by omega]
  rfl
theorem WL.step {B : Nat} {W1 : World} {A : List Lb} {b cp : Nat} {m : Lb} {q : Nat} {W : World} (h : WL B W1 A (.slice (some ⟨b, 0, none⟩) A.length cp) m q W) (hq : q < A.length) : WL B W1 A (.slice (some ⟨b, 0, none⟩) A.length cp) m (q + 1) ((W.setCell ⟨b, q * 2, none⟩ (.string ⟨m.1.toArray⟩)).setCell ⟨b, q * 2 + 1, none⟩ (.string ⟨m.2.toArray⟩)) := by
  obtain ⟨s1, g1⟩ := h.own.stored (q * 2) (.string ⟨m.1.toArray⟩)
  obtain ⟨s2, g2⟩ := s1.stored (q * 2 + 1) (.string ⟨m.2.toArray⟩)
  rw [overL A m q hq] at s2
  exact ⟨s2, grown_trans h.grown (grown_trans g1 g2)⟩
theorem WL.start {B : Nat} {W1 : World} {A : List Lb} {v : Value} {m : Lb} (h : OwnL B v A W1) : WL B W1 A v m 0 W1 := ⟨by have h' : W1.ownsRow B 54 2 v A.length (flL A) := h; simpa [rl, flL] using h', grown_bel (Below.refl _ _)⟩
theorem WL.done {B : Nat} {W1 : World} {A : List Lb} {v : Value} {m : Lb} {W : World} (h : WL B W1 A v m A.length W) : OwnL B v (rl A.length m) W := by
  have := h.own
  rw [List.drop_of_length_le (Nat.le_refl _)] at this
  unfold OwnL
  rw [rl_len]
  simpa [flL] using this
/-- While marks are appended: the list itself stays as it is within its length. -/
structure AL (B : Nat) (W1 : World) (v l : Value) (n k : Nat) (m : Lb) (W : World) : Prop where
  own : OwnL B v (rl n m) W
  cur : OwnL B l (rl (n + k) m) W
  grown : W1.grownBy W v.ownBlock
  at_ : l.ownBlock = none ∨ l.ownBlock = v.ownBlock ∨ ∃ g, l.ownBlock = some g ∧ W1.heap.size ≤ g
theorem AL.push {B : Nat} {W1 : World} {v l l' : Value} {n k : Nat} {m : Lb} {W W2 W3 : World} (h : AL B W1 v l n k m W) (hsz : B ≤ W1.heap.size) (ha : Below W.heap.size W W2)
    (hp : (∃ g cap, l = .slice (some ⟨g, 0, none⟩) (n + k) cap ∧ l' = .slice (some ⟨g, 0, none⟩) (n + k + 1) cap ∧ W3.ownsRow B 54 2 l' (n + k + 1) (flL (rl (n + k) m) ++ [.string ⟨m.1.toArray⟩, .string ⟨m.2.toArray⟩]) ∧ W2.grownBy W3 (some g)) ∨ (W3.ownsRow W2.heap.size 54 2 l' (n + k + 1) (flL (rl (n + k) m) ++ [.string ⟨m.1.toArray⟩, .string ⟨m.2.toArray⟩]) ∧ Below W2.heap.size W2 W3)) :
    AL B W1 v l' n (k + 1) m W3 := by
  have h2 : OwnL B v (rl n m) W2 := h.own.bel ha
  have h2c : OwnL B l (rl (n + k) m) W2 := h.cur.bel ha
  have g2 : W1.grownBy W2 v.ownBlock := grown_trans h.grown (grown_bel ha)
  have hb2 : B ≤ W2.heap.size := Nat.le_trans hsz g2.size
  rw [← rl_succ] at hp
  unfold OwnL at h2 h2c
  rw [rl_len] at h2 h2c
  rcases hp with ⟨g, cap, rfl, rfl, hr, hg⟩ | ⟨hr, hB⟩
  · refine ⟨?_, ?_, ?_, ?_⟩
    · unfold OwnL
      rw [rl_len]
      by_cases e : v.ownBlock = some g
      · rcases h2.2 with ⟨q, _⟩ | ⟨g', cap', cur, q, _⟩
        · rw [q] at e; cases e
        · subst q
          cases e
          have hc := own_cap h2 h2c
          subst hc
          have := own_take hr (n := n) (by omega)
          rw [show n + k + 1 = n + (k + 1) by omega, flL_rl_take] at this
          exact this
      · exact World.ownsRow.kept h2 hg (Or.inr e)
    · unfold OwnL
      rw [rl_len]
      exact hr
    · refine grown_new g2 hg ?_
      rcases h.at_ with q | q | ⟨g', q, q1⟩
      · cases q
      · exact Or.inl q.symm
      · cases q
        exact Or.inr q1
    · exact h.at_
  · refine ⟨?_, ?_, grown_trans g2 (grown_bel hB), ?_⟩
    · have : OwnL B v (rl n m) W2 := h.own.bel ha
      exact this.bel hB
    · unfold OwnL
      rw [rl_len]
      exact own_leG hr hb2
    · rcases own_atG hr with q | ⟨g, q, q1, _⟩
      · exact Or.inl q
      · exact Or.inr (Or.inr ⟨g, q, Nat.le_trans g2.size q1⟩)
theorem OwnL.open {B : Nat} {v : Value} {L : List Lb} {W : World} (h : OwnL B v L W) : ∃ ao b cap, v = .slice ao L.length cap ∧ (L ≠ [] → ao = some ⟨b, 0, none⟩) ∧ RowL W b 0 L ∧ L.length ≤ cap ∧ cap ≤ 9223372036854775807 := by
  rcases h.2 with ⟨h1, h2⟩ | ⟨g, cap, cur, hv, hg, hh, h3, h4, h5, h6⟩
  · have hL : L = [] := List.length_eq_zero_iff.1 h2
    subst hL
    exact ⟨none, 0, 0, h1, fun k => absurd rfl k, (fun i hi => by simp at hi), Nat.le_refl _, by omega⟩
  · refine ⟨_, g, cap, hv, fun _ => rfl, fun i hi => ?_, h3, by unfold maxLen at h4; omega⟩
    obtain ⟨e1, e2⟩ := flL_get L i hi
    rw [← h6, List.getElem?_take, if_pos (by omega)] at e1
    rw [← h6, List.getElem?_take, if_pos (by omega)] at e2
    rw [Array.getElem?_toList] at e1 e2
    constructor
    · show W.cell? ⟨g, 0 + i * 2, none⟩ = _
      rw [Nat.zero_add]
      simp [World.cell?, hh, e1]
    · show W.cell? ⟨g, 0 + i * 2 + 1, none⟩ = _
      rw [Nat.zero_add]
      simp [World.cell?, hh, e2]
theorem flL_one (L : List Lb) : ∀ u ∈ flL L, u.oneCell' = true := by
  induction L with
  | nil => intro u hu; cases hu
  | cons c L ih =>
    intro u hu
    simp only [flL, List.mem_cons] at hu
    rcases hu with rfl | rfl | h
    · rfl
    · rfl
    · exact ih u h
end Go.Proofs.YtfnohbalkpponaaGreatDoor.Va
/- LABELS: labels and named, the law's. Own work of the verifier. -/
namespace Go.Proofs.YtfnohbalkpponaaGreatDoor.Va
open Go.RowKit

theorem OwnL.form {W : World} {B n : Nat} {v : Value} {m : Lb} (h : OwnL B v (rl n m) W) : ∃ ao g cap, v = .slice ao n cap ∧ (0 < n → ao = some ⟨g, 0, none⟩) := by
  have h' : W.ownsRow B 54 2 v n (flL (rl n m)) := by have := h; unfold OwnL at this; rw [rl_len] at this; exact this
  exact own_slice h'
end Go.Proofs.YtfnohbalkpponaaGreatDoor.Va
/- VALUES: eleven cells; what is copied. Own work of the verifier. -/
namespace Go.Proofs.YtfnohbalkpponaaGreatDoor.Va
open Go.RowKit

theorem eleven_cells {W : World} {b : Nat} {u0 u1 u2 u3 u4 u5 u6 u7 u8 u9 u10 : Value} {t : TypeId} (h : Hid (W.heap[b]? = some (.cells #[u0, u1, u2, u3, u4, u5, u6, u7, u8, u9, u10] t (0, 0)))) : W.cell? ⟨b, 0, none⟩ = some u0 ∧ W.cell? ⟨b, 1, none⟩ = some u1 ∧ W.cell? ⟨b, 2, none⟩ = some u2 ∧ W.cell? ⟨b, 3, none⟩ = some u3 ∧ W.cell? ⟨b, 4, none⟩ = some u4 ∧ W.cell? ⟨b, 5, none⟩ = some u5 ∧ W.cell? ⟨b, 6, none⟩ = some u6 ∧ W.cell? ⟨b, 7, none⟩ = some u7 ∧ W.cell? ⟨b, 8, none⟩ = some u8 ∧ W.cell? ⟨b, 9, none⟩ = some u9 ∧ W.cell? ⟨b, 10, none⟩ = some u10 := by
  unfold Hid at h; simp [World.cell?, h]
theorem eleven_fr {W : World} {b : Nat} {u0 u1 u2 u3 u4 u5 u6 u7 u8 u9 u10 : Value} {t : TypeId} (h : Hid (W.heap[b]? = some (.cells #[u0, u1, u2, u3, u4, u5, u6, u7, u8, u9, u10] t (0, 0)))) : W.frozen? ⟨b, 0, none⟩ = false ∧ W.frozen? ⟨b, 1, none⟩ = false ∧ W.frozen? ⟨b, 2, none⟩ = false ∧ W.frozen? ⟨b, 3, none⟩ = false ∧ W.frozen? ⟨b, 4, none⟩ = false ∧ W.frozen? ⟨b, 5, none⟩ = false ∧ W.frozen? ⟨b, 6, none⟩ = false ∧ W.frozen? ⟨b, 7, none⟩ = false ∧ W.frozen? ⟨b, 8, none⟩ = false ∧ W.frozen? ⟨b, 9, none⟩ = false ∧ W.frozen? ⟨b, 10, none⟩ = false :=
  ⟨hid_fr h 0, hid_fr h 1, hid_fr h 2, hid_fr h 3, hid_fr h 4, hid_fr h 5, hid_fr h 6, hid_fr h 7, hid_fr h 8, hid_fr h 9, hid_fr h 10⟩
def put11 (W : World) (b : Nat) (v0 v1 v2 v3 v4 v5 v6 v7 v8 v9 v10 : Value) : World := ((((((((((W.setCell ⟨b, 0, none⟩ v0).setCell ⟨b, 1, none⟩ v1).setCell ⟨b, 2, none⟩ v2).setCell ⟨b, 3, none⟩ v3).setCell ⟨b, 4, none⟩ v4).setCell ⟨b, 5, none⟩ v5).setCell ⟨b, 6, none⟩ v6).setCell ⟨b, 7, none⟩ v7).setCell ⟨b, 8, none⟩ v8).setCell ⟨b, 9, none⟩ v9).setCell ⟨b, 10, none⟩ v10
theorem put11_eq (W : World) (b : Nat) (v0 v1 v2 v3 v4 v5 v6 v7 v8 v9 v10 : Value) : ((((((((((W.setCell ⟨b, 0, none⟩ v0).setCell ⟨b, 1, none⟩ v1).setCell ⟨b, 2, none⟩ v2).setCell ⟨b, 3, none⟩ v3).setCell ⟨b, 4, none⟩ v4).setCell ⟨b, 5, none⟩ v5).setCell ⟨b, 6, none⟩ v6).setCell ⟨b, 7, none⟩ v7).setCell ⟨b, 8, none⟩ v8).setCell ⟨b, 9, none⟩ v9).setCell ⟨b, 10, none⟩ v10 = put11 W b v0 v1 v2 v3 v4 v5 v6 v7 v8 v9 v10 := rfl
set_option maxHeartbeats 8000000 in
theorem set_eleven {W : World} {b : Nat} {u0 u1 u2 u3 u4 u5 u6 u7 u8 u9 u10 v0 v1 v2 v3 v4 v5 v6 v7 v8 v9 v10 : Value} {t : TypeId} (h : W.heap[b]? = some (.cells #[u0, u1, u2, u3, u4, u5, u6, u7, u8, u9, u10] t (0, 0))) : (put11 W b v0 v1 v2 v3 v4 v5 v6 v7 v8 v9 v10).heap[b]? = some (.cells #[v0, v1, v2, v3, v4, v5, v6, v7, v8, v9, v10] t (0, 0)) := by
  have h1 : (W.setCell ⟨b, 0, none⟩ v0).heap[b]? = some (.cells #[v0, u1, u2, u3, u4, u5, u6, u7, u8, u9, u10] t (0, 0)) := by rw [heap_setCell_same _ b 0 _ _ _ h]; rfl
  have h2 : ((W.setCell ⟨b, 0, none⟩ v0).setCell ⟨b, 1, none⟩ v1).heap[b]? = some (.cells #[v0, v1, u2, u3, u4, u5, u6, u7, u8, u9, u10] t (0, 0)) := by rw [heap_setCell_same _ b 1 _ _ _ h1]; rfl
  have h3 : (((W.setCell ⟨b, 0, none⟩ v0).setCell ⟨b, 1, none⟩ v1).setCell ⟨b, 2, none⟩ v2).heap[b]? = some (.cells #[v0, v1, v2, u3, u4, u5, u6, u7, u8, u9, u10] t (0, 0)) := by rw [heap_setCell_same _ b 2 _ _ _ h2]; rfl
  have h4 : ((((W.setCell ⟨b, 0, none⟩ v0).setCell ⟨b, 1, none⟩ v1).setCell ⟨b, 2, none⟩ v2).setCell ⟨b, 3, none⟩ v3).heap[b]? = some (.cells #[v0, v1, v2, v3, u4, u5, u6, u7, u8, u9, u10] t (0, 0)) := by rw [heap_setCell_same _ b 3 _ _ _ h3]; rfl
  have h5 : (((((W.setCell ⟨b, 0, none⟩ v0).setCell ⟨b, 1, none⟩ v1).setCell ⟨b, 2, none⟩ v2).setCell ⟨b, 3, none⟩ v3).setCell ⟨b, 4, none⟩ v4).heap[b]? = some (.cells #[v0, v1, v2, v3, v4, u5, u6, u7, u8, u9, u10] t (0, 0)) := by rw [heap_setCell_same _ b 4 _ _ _ h4]; rfl
  have h6 : ((((((W.setCell ⟨b, 0, none⟩ v0).setCell ⟨b, 1, none⟩ v1).setCell ⟨b, 2, none⟩ v2).setCell ⟨b, 3, none⟩ v3).setCell ⟨b, 4, none⟩ v4).setCell ⟨b, 5, none⟩ v5).heap[b]? = some (.cells #[v0, v1, v2, v3, v4, v5, u6, u7, u8, u9, u10] t (0, 0)) := by rw [heap_setCell_same _ b 5 _ _ _ h5]; rfl
  have h7 : (((((((W.setCell ⟨b, 0, none⟩ v0).setCell ⟨b, 1, none⟩ v1).setCell ⟨b, 2, none⟩ v2).setCell ⟨b, 3, none⟩ v3).setCell ⟨b, 4, none⟩ v4).setCell ⟨b, 5, none⟩ v5).setCell ⟨b, 6, none⟩ v6).heap[b]? = some (.cells #[v0, v1, v2, v3, v4, v5, v6, u7, u8, u9, u10] t (0, 0)) := by rw [heap_setCell_same _ b 6 _ _ _ h6]; rfl
  have h8 : ((((((((W.setCell ⟨b, 0, none⟩ v0).setCell ⟨b, 1, none⟩ v1).setCell ⟨b, 2, none⟩ v2).setCell ⟨b, 3, none⟩ v3).setCell ⟨b, 4, none⟩ v4).setCell ⟨b, 5, none⟩ v5).setCell ⟨b, 6, none⟩ v6).setCell ⟨b, 7, none⟩ v7).heap[b]? = some (.cells #[v0, v1, v2, v3, v4, v5, v6, v7, u8, u9, u10] t (0, 0)) := by rw [heap_setCell_same _ b 7 _ _ _ h7]; rfl
  have h9 : (((((((((W.setCell ⟨b, 0, none⟩ v0).setCell ⟨b, 1, none⟩ v1).setCell ⟨b, 2, none⟩ v2).setCell ⟨b, 3, none⟩ v3).setCell ⟨b, 4, none⟩ v4).setCell ⟨b, 5, none⟩ v5).setCell ⟨b, 6, none⟩ v6).setCell ⟨b, 7, none⟩ v7).setCell ⟨b, 8, none⟩ v8).heap[b]? = some (.cells #[v0, v1, v2, v3, v4, v5, v6, v7, v8, u9, u10] t (0, 0)) := by rw [heap_setCell_same _ b 8 _ _ _ h8]; rfl
  have h10 : ((((((((((W.setCell ⟨b, 0, none⟩ v0).setCell ⟨b, 1, none⟩ v1).setCell ⟨b, 2, none⟩ v2).setCell ⟨b, 3, none⟩ v3).setCell ⟨b, 4, none⟩ v4).setCell ⟨b, 5, none⟩ v5).setCell ⟨b, 6, none⟩ v6).setCell ⟨b, 7, none⟩ v7).setCell ⟨b, 8, none⟩ v8).setCell ⟨b, 9, none⟩ v9).heap[b]? = some (.cells #[v0, v1, v2, v3, v4, v5, v6, v7, v8, v9, u10] t (0, 0)) := by rw [heap_setCell_same _ b 9 _ _ _ h9]; rfl
  have h11 : (((((((((((W.setCell ⟨b, 0, none⟩ v0).setCell ⟨b, 1, none⟩ v1).setCell ⟨b, 2, none⟩ v2).setCell ⟨b, 3, none⟩ v3).setCell ⟨b, 4, none⟩ v4).setCell ⟨b, 5, none⟩ v5).setCell ⟨b, 6, none⟩ v6).setCell ⟨b, 7, none⟩ v7).setCell ⟨b, 8, none⟩ v8).setCell ⟨b, 9, none⟩ v9).setCell ⟨b, 10, none⟩ v10).heap[b]? = some (.cells #[v0, v1, v2, v3, v4, v5, v6, v7, v8, v9, v10] t (0, 0)) := by rw [heap_setCell_same _ b 10 _ _ _ h10]; rfl
  exact h11
theorem four_cellsH {W : World} {b : Nat} {u0 u1 u2 u3 : Value} {t : TypeId} (h : Hid (W.heap[b]? = some (.cells #[u0, u1, u2, u3] t (0, 0)))) : W.cell? ⟨b, 0, none⟩ = some u0 ∧ W.cell? ⟨b, 1, none⟩ = some u1 ∧ W.cell? ⟨b, 2, none⟩ = some u2 ∧ W.cell? ⟨b, 3, none⟩ = some u3 := ⟨(four_cells h).1, (four_cells h).2.1, (four_cells h).2.2.1, (four_cells h).2.2.2.1⟩
theorem chg_moreG {S : Nat → Prop} {W V : World} {g j : Nat} {u : Value} (h : Chg S W V) (hS : S g) : Chg S W (V.setCell ⟨g, j, none⟩ u) := h.trans (chg_set V g j u) (fun x hx => Or.inl (by rw [hx]; exact hS))
theorem chg_put11 (W : World) (b : Nat) (v0 v1 v2 v3 v4 v5 v6 v7 v8 v9 v10 : Value) : Chg (fun x => x = b) W (put11 W b v0 v1 v2 v3 v4 v5 v6 v7 v8 v9 v10) := by
  unfold put11
  exact chg_moreG (chg_moreG (chg_moreG (chg_moreG (chg_moreG (chg_moreG (chg_moreG (chg_moreG (chg_moreG (chg_moreG (chg_set W b 0 v0) rfl) rfl) rfl) rfl) rfl) rfl) rfl) rfl) rfl) rfl
theorem new4_0 (w : World) (o1 o2 o3 o4 : Obj) : ((((w.alloc o1).alloc o2).alloc o3).alloc o4).heap[w.heap.size]? = some o1 := by
  have h := new3_0 w o1 o2 o3
  exact (Below.heap_alloc _ o4 _ (Array.getElem?_eq_some_iff.1 h).1).trans h
theorem new4_1 (w : World) (o1 o2 o3 o4 : Obj) : ((((w.alloc o1).alloc o2).alloc o3).alloc o4).heap[w.heap.size + 1]? = some o2 := by
  have h := new3_1 w o1 o2 o3
  exact (Below.heap_alloc _ o4 _ (Array.getElem?_eq_some_iff.1 h).1).trans h
theorem new4_2 (w : World) (o1 o2 o3 o4 : Obj) : ((((w.alloc o1).alloc o2).alloc o3).alloc o4).heap[w.heap.size + 1 + 1]? = some o3 := by
  have h := new3_2 w o1 o2 o3
  exact (Below.heap_alloc _ o4 _ (Array.getElem?_eq_some_iff.1 h).1).trans h
theorem new4_3 (w : World) (o1 o2 o3 o4 : Obj) : ((((w.alloc o1).alloc o2).alloc o3).alloc o4).heap[w.heap.size + 1 + 1 + 1]? = some o4 := by
  have h := new_1 (((w.alloc o1).alloc o2).alloc o3) o4
  have e : (((w.alloc o1).alloc o2).alloc o3).heap.size = w.heap.size + 1 + 1 + 1 := by simp
  rw [e] at h
  exact h
theorem bel4 (w : World) (o1 o2 o3 o4 : Obj) : Below w.heap.size w ((((w.alloc o1).alloc o2).alloc o3).alloc o4) := bt (bel3 w o1 o2 o3) (bel1 _ _)
/-- A list of labels as it is handed in. -/
def SLb (W : World) (v : Value) (L : List Lb) : Prop := (v = .slice none 0 0 ∧ L = []) ∨ ∃ b o cap, v = .slice (some ⟨b, o, none⟩) L.length cap ∧ L.length ≤ cap ∧ RowL W b o L
theorem SLb.below {W W1 : World} {v : Value} {L : List Lb} (h : SLb W v L) (hb : Below W.heap.size W W1) : SLb W1 v L := by
  rcases h with h | ⟨b, o, cap, h1, h2, hr⟩
  · exact Or.inl h
  · exact Or.inr ⟨b, o, cap, h1, h2, hr.below hb⟩
theorem RowL.cells {w : World} {b o : Nat} {L : List Lb} (h : RowL w b o L) (j : Nat) (u : Value) (hu : (flL L)[j]? = some u) : w.cell? ((⟨b, o, none⟩ : Addr).add j) = some u := by
  have hj : j < (flL L).length := by
    rcases Nat.lt_or_ge j (flL L).length with c | c
    · exact c
    · rw [List.getElem?_eq_none c] at hu; cases hu
  rw [flL_length] at hj
  have hi : j / 2 < L.length := by omega
  obtain ⟨g1, g2⟩ := flL_get L (j / 2) hi
  obtain ⟨h1, h2⟩ := h (j / 2) hi
  rw [Addr.add_lit]
  rcases Nat.mod_two_eq_zero_or_one j with e | e
  · rw [show j / 2 * 2 = j by omega] at g1 h1
    rw [g1] at hu
    cases hu
    exact h1
  · rw [show j / 2 * 2 + 1 = j by omega] at g2
    rw [show o + j / 2 * 2 + 1 = o + j by omega] at h2
    rw [g2] at hu
    cases hu
    exact h2
/-- append(nil, v...): a copy. -/
theorem run_copyL {w : World} {v : Value} {L : List Lb} (h : SLb w v L) (hl : L.length ≤ 1048576) (ty : TypeId) :
    ∃ v' w', (Builtin.append_ #[39, 39] ty #[.slice none 0 0, v]).run Tryz.prog w = .ok v' w' ∧ (OwnL w.heap.size v' L w' ∧ Below w.heap.size w w') := by
  obtain ⟨i0, hi, hz0, hz1, hz2⟩ := info_parts infoLabel
  rcases h with ⟨rfl, rfl⟩ | ⟨b, o, cap, rfl, _, hr⟩
  · refine ⟨.slice none 0 0, w, ?_, World.ownsRow_nil _ _ _ _, Below.refl _ _⟩
    simp [Builtin.append_, run_underlying Tryz.underlying39, sizeOf, typeInfo, zeroValue, hi, hz0, Builtin.lenOf, run_firstCells_none]
  · obtain ⟨v', w', k1, k2, k3, _⟩ := run_append_own (P := Tryz.prog) w w.heap.size 39 ty 54 i0 (.agg #[.string ⟨#[]⟩, .string ⟨#[]⟩]) 2 32 Tryz.underlying39 hi hz0 hz1 hz2 rfl (by decide) (.slice none 0 0) 0 [] (World.ownsRow_nil _ _ _ _) ⟨b, o, none⟩ L.length cap (flL L) (flL_length L) hr.cells (flL_one L) (by unfold maxLen; omega) (by omega) (Nat.le_refl _)
    refine ⟨v', w', k1, by unfold OwnL; simpa using k2, ⟨k3.os, k3.tape, k3.output, k3.size, fun k hk => k3.block k hk (by simp [Value.ownBlock])⟩⟩
theorem run_copyC {w : World} {v : Value} {L : List Cn} (h : SN w v L) (hl : L.length ≤ 1048576) (ty : TypeId) :
    ∃ v' w', (Builtin.append_ #[71, 71] ty #[.slice none 0 0, v]).run Tryz.prog w = .ok v' w' ∧ (OwnC w.heap.size v' L w' ∧ Below w.heap.size w w') := by
  obtain ⟨i0, hi, hz0, hz1, hz2⟩ := info_parts infoC
  rcases h with ⟨rfl, rfl⟩ | ⟨b, o, cap, rfl, _, hr⟩
  · refine ⟨.slice none 0 0, w, ?_, World.ownsRow_nil _ _ _ _, Below.refl _ _⟩
    simp [Builtin.append_, run_underlying Tryz.underlying71, sizeOf, typeInfo, zeroValue, hi, hz0, Builtin.lenOf, run_firstCells_none]
  · obtain ⟨v', w', k1, k2, k3, _⟩ := run_append_own (P := Tryz.prog) w w.heap.size 71 ty 160 i0 (.agg #[.int .i64 0, .int .u64 0]) 2 16 Tryz.underlying71 hi hz0 hz1 hz2 rfl (by decide) (.slice none 0 0) 0 [] (World.ownsRow_nil _ _ _ _) ⟨b, o, none⟩ L.length cap (fl L) (fl_length L) hr.cells (fl_one L) (by unfold maxLen; omega) (by omega) (Nat.le_refl _)
    refine ⟨v', w', k1, by unfold OwnC; simpa using k2, ⟨k3.os, k3.tape, k3.output, k3.size, fun k hk => k3.block k hk (by simp [Value.ownBlock])⟩⟩
theorem wpList_run {P : Program} (w : World) {ops : Array Oper} {rest : List Oper} {o : Oper} {a : Act} {Q : Exit → Act → World → Prop} (hgd : o.guard = none) (s x : Operand) (t : TypeId)
    (ho : o.op = .call { callee := .builtin .append, args := #[s, x], argTypes := #[t, t] }) (v0 v : Value) (hs : a.eval s = v0) (hx : a.eval x = v) {R : Value → World → Prop}
    (hrun : ∃ v' w', (Builtin.append_ #[t, t] o.type #[v0, v]).run P w = .ok v' w' ∧ R v' w')
    (h : ∀ v' w', R v' w' → wpList P ops Q rest (a.put o.dst v') w') : wpList P ops Q (o :: rest) a w := by
  refine wpList_plain hgd fun K hK => ?_
  obtain ⟨v', w', hr, h2⟩ := hrun
  unfold Oper.wp execOp
  simp only [ho, resolve, invoke, builtin, Sem.run_bind, Sem.run_pure, Result.andThen_ok, List.map_toArray, List.map_cons, List.map_nil, hs, hx, hr]
  exact hK _ _ (h v' w' h2)
theorem hkN {k : Nat} {o : Obj} {W W' : World} (h : W.heap[k]? = some o) (hb : Below W.heap.size W W') : W'.heap[k]? = some o := (hb.block k (Array.getElem?_eq_some_iff.1 h).1).trans h
abbrev vval (kd : Int) (nm hp : ByteArray) (lv : Value) (hi lo : Int) (cv : Value) (n sum mn mx : Nat) : Value := .agg #[.int .i64 kd, .string nm, .string hp, lv, .int .i64 hi, .int .u64 lo, cv, .int .u64 (n : Int), .float .f64 sum, .float .f64 mn, .float .f64 mx]
def gT (kd x : Int) : Int := if kd = 1 ∨ kd = 2 then x else 0
def gC (kd : Int) (A : List Cn) : List Cn := if kd = 2 then A else []
def gN (kd : Int) (n : Nat) : Nat := if kd = 2 ∨ kd = 3 then n else 0
def gF (kd : Int) (x : Nat) : Nat := if kd = 3 then x else 0
end Go.Proofs.YtfnohbalkpponaaGreatDoor.Va
/- SlabMerges: the rest of its code behind a place. Own work of the verifier. -/
namespace Go.Proofs.YtfnohbalkpponaaGreatDoor.Va
open Go.RowKit
/-- The code behind its first n parts. -/
def sDrop : Nat → Code → Code
  | 0, c => c
  | n + 1, .seq _ b => sDrop n b
  | _ + 1, c => c
def sFirst : Code → Code
  | .seq a _ => a
  | c => c
def bodyC : Option Code → Code
  | some c => c
  | none => .skip
end Go.Proofs.YtfnohbalkpponaaGreatDoor.Va
/- VALUES: how both Values end. Own work of the verifier. -/
namespace Go.Proofs.YtfnohbalkpponaaGreatDoor.Va
open Go.RowKit
set_option maxRecDepth 10000 in
set_option maxHeartbeats 8000000 in
theorem cval_tail (B : Nat) (W : World) (kd H Lo : Int) (nm hp : ByteArray) (la ca : Option Addr) (lm lc cm cc N r a b : Nat) (R : Ending → World → Prop) (HV : Hid (W.heap[B + 1 + 1 + 1]? = some (.cells #[.int .i64 kd, .string nm, .string hp, .slice la lm lc, .int .i64 H, .int .u64 Lo, .slice ca cm cc, .int .u64 (N : Int), .float .f64 r, .float .f64 a, .float .f64 b] 73 (0, 0)))) (HR : Hid (W.heap[B + 1 + 1]? = some (.cells #[.int .i64 0, .string ⟨#[]⟩, .string ⟨#[]⟩, .slice none 0 0, .int .i64 0, .int .u64 0, .slice none 0 0, .int .u64 0, .float .f64 0, .float .f64 0, .float .f64 0] 73 (0, 0))))
    (hR : R (.returned (vval kd nm hp (.slice la lm lc) H Lo (.slice ca cm cc) N r a b)) (put11 W (B + 1 + 1) (.int .i64 kd) (.string nm) (.string hp) (.slice la lm lc) (.int .i64 H) (.int .u64 Lo) (.slice ca cm cc) (.int .u64 (N : Int)) (.float .f64 r) (.float .f64 a) (.float .f64 b)))
    (u0 u1 u2 u3 u6 u7 u8 u9 u10 u11 u12 u13 u14 u15 u16 u17 u18 u19 u20 u21 u22 u23 u24 u25 u26 u27 u28 u29 u30 u31 u32 u33 u34 u35 u36 u37 u38 u39 u40 u41 u42 u43 u44 u45 u46 u47 : Value) (K : Act → World → Prop) (hK : ∀ a w1, Code.wp Tryz.prog (sDrop 5 (bodyC Tryz.f81.body)) (bodyPost Tryz.prog Tryz.f81 R) a w1 → K a w1) :
    Code.wp Tryz.prog (sFirst (sDrop 4 (bodyC Tryz.f81.body))) (Exit.then K (bodyPost Tryz.prog Tryz.f81 R)) { tmps := #[u0, u1, u2, u3, (.pointer (some ⟨B + 1 + 1, 0, none⟩)), (.pointer (some ⟨B + 1 + 1 + 1, 0, none⟩)), u6, u7, u8, u9, u10, u11, u12, u13, u14, u15, u16, u17, u18, u19, u20, u21, u22, u23, u24, u25, u26, u27, u28, u29, u30, u31, u32, u33, u34, u35, u36, u37, u38, u39, u40, u41, u42, u43, u44, u45, u46, u47], defers := [] } W := by
  obtain ⟨v0, v1, v2, v3, v4, v5, v6, v7, v8, v9, v10⟩ := eleven_cells HV
  obtain ⟨z0, z1, z2, z3, z4, z5, z6, z7, z8, z9, z10⟩ := eleven_cells HR
  obtain ⟨f0, f1, f2, f3, f4, f5, f6, f7, f8, f9, f10⟩ := eleven_fr HR
  have sF := store_f
  have HRR := hid_of hR
  clear hR
  dsimp only [sDrop, sFirst, bodyC, Tryz.f81] at hK ⊢
  go_wp2_with fail
  rw [put11_eq]
  have HS := hid_of (set_eleven (v0 := (.int .i64 kd)) (v1 := (.string nm)) (v2 := (.string hp)) (v3 := (.slice la lm lc)) (v4 := (.int .i64 H)) (v5 := (.int .u64 Lo)) (v6 := (.slice ca cm cc)) (v7 := (.int .u64 (N : Int))) (v8 := (.float .f64 r)) (v9 := (.float .f64 a)) (v10 := (.float .f64 b)) HR.out)
  obtain ⟨y0, y1, y2, y3, y4, y5, y6, y7, y8, y9, y10⟩ := eleven_cells HS
  simp [bodyPost, results, go_sem, y0, y1, y2, y3, y4, y5, y6, y7, y8, y9, y10]
  exact HRR.out
end Go.Proofs.YtfnohbalkpponaaGreatDoor.Va
/- Floats: contracts under names of their own. Own work of the verifier. -/
namespace Go.Proofs.YtfnohbalkpponaaGreatDoor.Pr
open Go.RowKit Soft

theorem zptotal (a c : Nat) (ha : a < 18446744073709551616) (hc : c < 18446744073709551616) (w : World) :
    Calls Tryz.prog 125 #[.complex .f64 a c] w fun e w' => ∃ r n, e = .returned (.float .f64 r) ∧ w' = w.drewN n ∧ r < 18446744073709551616 ∧ Soft.one r = Soft.fa a c := ptotal_any a c ha hc w
end Go.Proofs.YtfnohbalkpponaaGreatDoor.Pr
namespace Go.Proofs.YtfnohbalkpponaaGreatDoor
open Go.RowKit

end Go.Proofs.YtfnohbalkpponaaGreatDoor
/- VALUES: the code's Value. Own work of the verifier. -/
namespace Go.Proofs.YtfnohbalkpponaaGreatDoor.Va
open Go.RowKit
/-- What the code's Value tells. -/
def CvQ (kd hi lo : Int) (nm hp : ByteArray) (n s c mn mx : Nat) (D : List Lb) (A : List Cn) (w : World) (e : Ending) (w' : World) : Prop := ∃ la lm lc ca cm cc r, e = .returned (vval kd nm hp (.slice la lm lc) (gT kd hi) (gT kd lo) (.slice ca cm cc) (gN kd n) r (gF kd mn) (gF kd mx)) ∧ Hid (OwnL w.heap.size (.slice la lm lc) D w') ∧ Hid (OwnC w.heap.size (.slice ca cm cc) (gC kd A) w') ∧ Hid (Below w.heap.size w w') ∧ Hid (r < 18446744073709551616 ∧ Soft.one r = gF kd (Soft.fa s c))
theorem val_fin {B M : Nat} {w w6 F : World} {lv cv : Value} {D : List Lb} {C : List Cn} (hL : OwnL M lv D w6) (hC : OwnC M cv C w6) (hb : Below B w w6) (hM : B + 1 + 1 + 1 < M) (hS : M ≤ w6.heap.size) (hc : Chg (fun x => x = B + 1 + 1 ∨ x = B + 1 + 1 + 1) w6 F) : Hid (OwnL B lv D F) ∧ Hid (OwnC B cv C F) ∧ Hid (Below B w F) :=
  ⟨own_leG (hc.row hL (fun x hx e => by have := (hL.lt x hx).1; omega)) (by omega), own_leG (hc.row hC (fun x hx e => by have := (hC.lt x hx).1; omega)) (by omega), hb.trans (hc.below (by omega) (fun x hx => by omega))⟩
theorem ownC_nil (B : Nat) (W : World) : OwnC B (.slice none 0 0) [] W := World.ownsRow_nil _ _ _ _
theorem oneZ_zero : Soft.one 0 = 0 := by decide
/-- A part's box, held. -/
abbrev PH (B : Nat) (hi lo : Int) (v : Value) (n s c mn mx : Nat) (W : World) : Prop := W.cell? ⟨B + 1, 0, none⟩ = some (.int .i64 hi) ∧ W.cell? ⟨B + 1, 1, none⟩ = some (.int .u64 lo) ∧ W.cell? ⟨B + 1, 2, none⟩ = some v ∧ W.cell? ⟨B + 1, 3, none⟩ = some (.int .u64 (n : Int)) ∧ W.cell? ⟨B + 1, 4, none⟩ = some (.complex .f64 s c) ∧ W.cell? ⟨B + 1, 5, none⟩ = some (.float .f64 mn) ∧ W.cell? ⟨B + 1, 6, none⟩ = some (.float .f64 mx)
theorem PH.kept {B : Nat} {hi lo : Int} {v : Value} {n s c mn mx : Nat} {W W' : World} (h : PH B hi lo v n s c mn mx W) (k : Below W.heap.size W W') : PH B hi lo v n s c mn mx W' := by
  obtain ⟨c0, c1, c2, c3, c4, c5, c6⟩ := h
  exact ⟨cell_kept k c0, cell_kept k c1, cell_kept k c2, cell_kept k c3, cell_kept k c4, cell_kept k c5, cell_kept k c6⟩
theorem PH.set1 {B : Nat} {hi lo : Int} {v : Value} {n s c mn mx : Nat} {W : World} (h : PH B hi lo v n s c mn mx W) (j : Nat) (u : Value) : PH B hi lo v n s c mn mx (W.setCell ⟨B + 1 + 1 + 1, j, none⟩ u) := by
  obtain ⟨c0, c1, c2, c3, c4, c5, c6⟩ := h
  have k : ∀ (i : Nat) (x : Value), W.cell? ⟨B + 1, i, none⟩ = some x → (W.setCell ⟨B + 1 + 1 + 1, j, none⟩ u).cell? ⟨B + 1, i, none⟩ = some x := fun i x hx => (World.cell?_setCell_other W ⟨B + 1 + 1 + 1, j, none⟩ ⟨B + 1, i, none⟩ u (fun e => by injection e; omega)).trans hx
  exact ⟨k _ _ c0, k _ _ c1, k _ _ c2, k _ _ c3, k _ _ c4, k _ _ c5, k _ _ c6⟩
set_option maxRecDepth 10000 in
set_option maxHeartbeats 8000000 in
theorem cval_1 (hi lo : Int) (nm hp : ByteArray) (la : Option Addr) (lc : Nat) (D : List Lb) (ca : Option Addr) (cc n s c mn mx : Nat) (A : List Cn) (w : World) (hD : SLb w (.slice la D.length lc) D) (hA : SN w (.slice ca A.length cc) A) (hlD : D.length ≤ 1048576) (_hlA : A.length ≤ 1048576) (hs : s < 18446744073709551616) (hc : c < 18446744073709551616) :
    Calls Tryz.prog 81 #[.agg #[.int .i64 1, .string nm, .string hp, .slice la D.length lc], part hi lo (.slice ca A.length cc) n s c mn mx] w fun e w' => CvQ 1 hi lo nm hp n s c mn mx D A w e w' := by
  have sF := store_f
  have HTO : Hid (∀ W, Calls Tryz.prog 125 #[.complex .f64 s c] W fun e w' => ∃ r, e = .returned (.float .f64 r) ∧ Hid (Below W.heap.size W w') ∧ Hid (r < 18446744073709551616 ∧ Soft.one r = Soft.fa s c)) := fun W => (Pr.zptotal s c hs hc W).mono fun e w' ⟨r, k, e1, e2, e3, e4⟩ => ⟨r, e1, by rw [e2]; exact below_drew W k, e3, e4⟩
  clear hs hc
  go_enter Tryz.func81, Tryz.ntmps81
  go_upto_region 2 with fail
  generalize hw4 : (((w.alloc (.cells #[.int .i64 1, .string nm, .string hp, .slice la D.length lc] 41)).alloc (.cells #[.int .i64 hi, .int .u64 lo, .slice ca A.length cc, .int .u64 (n : Int), .complex .f64 s c, .float .f64 mn, .float .f64 mx] 184)).alloc (.cells #[.int .i64 0, .string ⟨#[]⟩, .string ⟨#[]⟩, .slice none 0 0, .int .i64 0, .int .u64 0, .slice none 0 0, .int .u64 0, .float .f64 0, .float .f64 0, .float .f64 0] 73)).alloc (.cells #[.int .i64 1, .string nm, .string hp, .slice la D.length lc, .int .i64 0, .int .u64 0, .slice none 0 0, .int .u64 0, .float .f64 0, .float .f64 0, .float .f64 0] 73) = w4
  have HB4 : Hid (Below w.heap.size w w4) := by rw [← hw4]; exact bel4 _ _ _ _ _
  have HD : Hid (w4.heap[w.heap.size]? = some (.cells #[.int .i64 1, .string nm, .string hp, .slice la D.length lc] 41 (0, 0))) := by rw [← hw4]; exact new4_0 _ _ _ _ _
  have HP : Hid (w4.heap[w.heap.size + 1]? = some (.cells #[.int .i64 hi, .int .u64 lo, .slice ca A.length cc, .int .u64 (n : Int), .complex .f64 s c, .float .f64 mn, .float .f64 mx] 184 (0, 0))) := by rw [← hw4]; exact new4_1 _ _ _ _ _
  have HR : Hid (w4.heap[w.heap.size + 1 + 1]? = some (.cells #[.int .i64 0, .string ⟨#[]⟩, .string ⟨#[]⟩, .slice none 0 0, .int .i64 0, .int .u64 0, .slice none 0 0, .int .u64 0, .float .f64 0, .float .f64 0, .float .f64 0] 73 (0, 0))) := by rw [← hw4]; exact new4_2 _ _ _ _ _
  have HV : Hid (w4.heap[w.heap.size + 1 + 1 + 1]? = some (.cells #[.int .i64 1, .string nm, .string hp, .slice la D.length lc, .int .i64 0, .int .u64 0, .slice none 0 0, .int .u64 0, .float .f64 0, .float .f64 0, .float .f64 0] 73 (0, 0))) := by rw [← hw4]; exact new4_3 _ _ _ _ _
  have HSL := hid_of (hD.below HB4.out)
  have HSC := hid_of (hA.below HB4.out)
  have hA0 := hid_of hA
  clear hD hA
  obtain ⟨d0, d1, d2, d3⟩ := four_cellsH HD
  clear hw4
  generalize hB : w.heap.size = B at *
  have HBB := hid_of hB
  clear hB
  obtain ⟨v0, v1, v2, v3, v4, v5, v6, v7, v8, v9, v10⟩ := eleven_cells HV
  obtain ⟨f0, f1, f2, f3, f4, f5, f6, f7, f8, f9, f10⟩ := eleven_fr HV
  go_upto_region 3 with (first
    | (at_builtin; refine wpList_run _ rfl _ _ 39 rfl (.slice none 0 0) (.slice la D.length lc) rfl rfl (run_copyL HSL.out hlD _) ?_; intro lv w5 hq5; obtain ⟨hq5, hb5⟩ := hq5; obtain ⟨a5, b5, c5, rfl, -⟩ := own_slice hq5; have HL5 := hid_of hq5; have HV5 := hid_of (hkN HV.out hb5); have HB5 := hid_of hb5; have v3' := (eleven_cells HV5).2.2.2.1; have f3' := (eleven_fr HV5).2.2.2.1))
  have hM : B + 1 + 1 + 1 < w4.heap.size := (Array.getElem?_eq_some_iff.1 HV.out).1
  have HV6 : Hid ((w5.setCell ⟨B + 1 + 1 + 1, 3, none⟩ (.slice a5 D.length c5)).heap[B + 1 + 1 + 1]? = some (.cells #[.int .i64 1, .string nm, .string hp, .slice a5 D.length c5, .int .i64 0, .int .u64 0, .slice none 0 0, .int .u64 0, .float .f64 0, .float .f64 0, .float .f64 0] 73 (0, 0))) := by unfold Hid; rw [heap_setCell_same _ _ 3 _ _ _ HV5.out]; rfl
  have hc6 := chg_set w5 (B + 1 + 1 + 1) 3 (.slice a5 D.length c5)
  have HD6 := hid_of (hc6.at_ (hkN HD.out HB5.out) (by omega))
  have HP6 := hid_of (hc6.at_ (hkN HP.out HB5.out) (by omega))
  have HR6 := hid_of (hc6.at_ (hkN HR.out HB5.out) (by omega))
  have HL6 : Hid (OwnL w4.heap.size (.slice a5 D.length c5) D (w5.setCell ⟨B + 1 + 1 + 1, 3, none⟩ (.slice a5 D.length c5))) := hc6.row HL5.out (fun x hx e => by have := (HL5.out.lt x hx).1; omega)
  have HB6 : Hid (Below B w (w5.setCell ⟨B + 1 + 1 + 1, 3, none⟩ (.slice a5 D.length c5))) := HB4.out.trans ((HB5.out.mono (by omega)).trans (hc6.below (by have := HB5.out.size; omega) (fun x hx => by omega)))
  have HS6 : Hid (w4.heap.size ≤ (w5.setCell ⟨B + 1 + 1 + 1, 3, none⟩ (.slice a5 D.length c5)).heap.size) := Nat.le_trans HB5.out.size hc6.size
  have HM := hid_of hM
  clear hc6 hM HV5 HB5 HL5 HD HP HR HV HB4 HSL d0 d1 d2 d3 v0 f0 v1 f1 v2 f2 v3 f3 v4 f4 v5 f5 v6 f6 v7 f7 v8 f8 v9 f9 v10 f10 v3' f3' hq5 hb5
  generalize w5.setCell ⟨B + 1 + 1 + 1, 3, none⟩ (.slice a5 D.length c5) = w6 at *
  generalize w4.heap.size = M at *
  obtain ⟨d0, d1, d2, d3⟩ := four_cellsH HD6
  obtain ⟨p0, p1, p2, p3, p4, p5, p6⟩ := seven_cells HP6
  obtain ⟨v0, v1, v2, v3, v4, v5, v6, v7, v8, v9, v10⟩ := eleven_cells HV6
  obtain ⟨f0, f1, f2, f3, f4, f5, f6, f7, f8, f9, f10⟩ := eleven_fr HV6
  go_upto_region 11 with fail
  have HV7 : Hid (((w6.setCell ⟨B + 1 + 1 + 1, 4, none⟩ (.int .i64 hi)).setCell ⟨B + 1 + 1 + 1, 5, none⟩ (.int .u64 lo)).heap[B + 1 + 1 + 1]? = some (.cells #[.int .i64 1, .string nm, .string hp, .slice a5 D.length c5, .int .i64 hi, .int .u64 lo, .slice none 0 0, .int .u64 0, .float .f64 0, .float .f64 0, .float .f64 0] 73 (0, 0))) := by unfold Hid; rw [heap_setCell_same _ _ 5 _ _ _ (heap_setCell_same _ _ 4 _ _ _ HV6.out)]; rfl
  have hc7 : Chg (fun x => x = B + 1 + 1 ∨ x = B + 1 + 1 + 1) w6 ((w6.setCell ⟨B + 1 + 1 + 1, 4, none⟩ (.int .i64 hi)).setCell ⟨B + 1 + 1 + 1, 5, none⟩ (.int .u64 lo)) := chg_moreG (chg_moreG (Chg.refl _ _) (Or.inr rfl)) (Or.inr rfl)
  have HR7 := hid_of (((chg_set w6 (B + 1 + 1 + 1) 4 (.int .i64 hi)).trans (chg_set _ (B + 1 + 1 + 1) 5 (.int .u64 lo)) (fun x hx => Or.inl hx)).at_ HR6.out (by omega))
  rename_i hKe
  refine cval_tail B _ 1 hi lo nm hp a5 none D.length c5 0 0 0 0 0 0 _ HV7 HR7 ?_ _ _ _ _ _ _ _ _ _ _ _ _ _ _ _ _ _ _ _ _ _ _ _ _ _ _ _ _ _ _ _ _ _ _ _ _ _ _ _ _ _ _ _ _ _ _ _ hKe
  have hf := fun (t0 t1 t2 t3 t4 t5 t6 t7 t8 t9 t10 : Value) => val_fin HL6.out (ownC_nil M w6) HB6.out HM.out HS6.out (hc7.trans (chg_put11 _ _ t0 t1 t2 t3 t4 t5 t6 t7 t8 t9 t10) (fun x hx => Or.inl (Or.inl hx)))
  have hBB := HBB.out
  subst hBB
  exact ⟨a5, D.length, c5, none, 0, 0, 0, rfl, (hf _ _ _ _ _ _ _ _ _ _ _).1, (hf _ _ _ _ _ _ _ _ _ _ _).2.1, (hf _ _ _ _ _ _ _ _ _ _ _).2.2, by decide, by rw [show gF 1 (Soft.fa s c) = 0 from if_neg (by decide)]; exact oneZ_zero⟩
set_option maxRecDepth 10000 in
set_option maxHeartbeats 8000000 in
theorem cval_0 (kd hi lo : Int) (nm hp : ByteArray) (la : Option Addr) (lc : Nat) (D : List Lb) (ca : Option Addr) (cc n s c mn mx : Nat) (A : List Cn) (w : World) (hD : SLb w (.slice la D.length lc) D) (hA : SN w (.slice ca A.length cc) A) (hlD : D.length ≤ 1048576) (_hlA : A.length ≤ 1048576) (hs : s < 18446744073709551616) (hc : c < 18446744073709551616) (g1 : ¬ kd = 1) (g2 : ¬ kd = 2) (g3 : ¬ kd = 3) :
    Calls Tryz.prog 81 #[.agg #[.int .i64 kd, .string nm, .string hp, .slice la D.length lc], part hi lo (.slice ca A.length cc) n s c mn mx] w fun e w' => CvQ kd hi lo nm hp n s c mn mx D A w e w' := by
  have sF := store_f
  have HTO : Hid (∀ W, Calls Tryz.prog 125 #[.complex .f64 s c] W fun e w' => ∃ r, e = .returned (.float .f64 r) ∧ Hid (Below W.heap.size W w') ∧ Hid (r < 18446744073709551616 ∧ Soft.one r = Soft.fa s c)) := fun W => (Pr.zptotal s c hs hc W).mono fun e w' ⟨r, k, e1, e2, e3, e4⟩ => ⟨r, e1, by rw [e2]; exact below_drew W k, e3, e4⟩
  clear hs hc
  go_enter Tryz.func81, Tryz.ntmps81
  go_upto_region 2 with fail
  generalize hw4 : (((w.alloc (.cells #[.int .i64 kd, .string nm, .string hp, .slice la D.length lc] 41)).alloc (.cells #[.int .i64 hi, .int .u64 lo, .slice ca A.length cc, .int .u64 (n : Int), .complex .f64 s c, .float .f64 mn, .float .f64 mx] 184)).alloc (.cells #[.int .i64 0, .string ⟨#[]⟩, .string ⟨#[]⟩, .slice none 0 0, .int .i64 0, .int .u64 0, .slice none 0 0, .int .u64 0, .float .f64 0, .float .f64 0, .float .f64 0] 73)).alloc (.cells #[.int .i64 kd, .string nm, .string hp, .slice la D.length lc, .int .i64 0, .int .u64 0, .slice none 0 0, .int .u64 0, .float .f64 0, .float .f64 0, .float .f64 0] 73) = w4
  have HB4 : Hid (Below w.heap.size w w4) := by rw [← hw4]; exact bel4 _ _ _ _ _
  have HD : Hid (w4.heap[w.heap.size]? = some (.cells #[.int .i64 kd, .string nm, .string hp, .slice la D.length lc] 41 (0, 0))) := by rw [← hw4]; exact new4_0 _ _ _ _ _
  have HP : Hid (w4.heap[w.heap.size + 1]? = some (.cells #[.int .i64 hi, .int .u64 lo, .slice ca A.length cc, .int .u64 (n : Int), .complex .f64 s c, .float .f64 mn, .float .f64 mx] 184 (0, 0))) := by rw [← hw4]; exact new4_1 _ _ _ _ _
  have HR : Hid (w4.heap[w.heap.size + 1 + 1]? = some (.cells #[.int .i64 0, .string ⟨#[]⟩, .string ⟨#[]⟩, .slice none 0 0, .int .i64 0, .int .u64 0, .slice none 0 0, .int .u64 0, .float .f64 0, .float .f64 0, .float .f64 0] 73 (0, 0))) := by rw [← hw4]; exact new4_2 _ _ _ _ _
  have HV : Hid (w4.heap[w.heap.size + 1 + 1 + 1]? = some (.cells #[.int .i64 kd, .string nm, .string hp, .slice la D.length lc, .int .i64 0, .int .u64 0, .slice none 0 0, .int .u64 0, .float .f64 0, .float .f64 0, .float .f64 0] 73 (0, 0))) := by rw [← hw4]; exact new4_3 _ _ _ _ _
  have HSL := hid_of (hD.below HB4.out)
  have HSC := hid_of (hA.below HB4.out)
  have hA0 := hid_of hA
  clear hD hA
  obtain ⟨d0, d1, d2, d3⟩ := four_cellsH HD
  clear hw4
  generalize hB : w.heap.size = B at *
  have HBB := hid_of hB
  clear hB
  obtain ⟨v0, v1, v2, v3, v4, v5, v6, v7, v8, v9, v10⟩ := eleven_cells HV
  obtain ⟨f0, f1, f2, f3, f4, f5, f6, f7, f8, f9, f10⟩ := eleven_fr HV
  go_upto_region 3 with (first
    | (at_builtin; refine wpList_run _ rfl _ _ 39 rfl (.slice none 0 0) (.slice la D.length lc) rfl rfl (run_copyL HSL.out hlD _) ?_; intro lv w5 hq5; obtain ⟨hq5, hb5⟩ := hq5; obtain ⟨a5, b5, c5, rfl, -⟩ := own_slice hq5; have HL5 := hid_of hq5; have HV5 := hid_of (hkN HV.out hb5); have HB5 := hid_of hb5; have v3' := (eleven_cells HV5).2.2.2.1; have f3' := (eleven_fr HV5).2.2.2.1))
  have hM : B + 1 + 1 + 1 < w4.heap.size := (Array.getElem?_eq_some_iff.1 HV.out).1
  have HV6 : Hid ((w5.setCell ⟨B + 1 + 1 + 1, 3, none⟩ (.slice a5 D.length c5)).heap[B + 1 + 1 + 1]? = some (.cells #[.int .i64 kd, .string nm, .string hp, .slice a5 D.length c5, .int .i64 0, .int .u64 0, .slice none 0 0, .int .u64 0, .float .f64 0, .float .f64 0, .float .f64 0] 73 (0, 0))) := by unfold Hid; rw [heap_setCell_same _ _ 3 _ _ _ HV5.out]; rfl
  have hc6 := chg_set w5 (B + 1 + 1 + 1) 3 (.slice a5 D.length c5)
  have HD6 := hid_of (hc6.at_ (hkN HD.out HB5.out) (by omega))
  have HP6 := hid_of (hc6.at_ (hkN HP.out HB5.out) (by omega))
  have HR6 := hid_of (hc6.at_ (hkN HR.out HB5.out) (by omega))
  have HL6 : Hid (OwnL w4.heap.size (.slice a5 D.length c5) D (w5.setCell ⟨B + 1 + 1 + 1, 3, none⟩ (.slice a5 D.length c5))) := hc6.row HL5.out (fun x hx e => by have := (HL5.out.lt x hx).1; omega)
  have HB6 : Hid (Below B w (w5.setCell ⟨B + 1 + 1 + 1, 3, none⟩ (.slice a5 D.length c5))) := HB4.out.trans ((HB5.out.mono (by omega)).trans (hc6.below (by have := HB5.out.size; omega) (fun x hx => by omega)))
  have HS6 : Hid (w4.heap.size ≤ (w5.setCell ⟨B + 1 + 1 + 1, 3, none⟩ (.slice a5 D.length c5)).heap.size) := Nat.le_trans HB5.out.size hc6.size
  have HM := hid_of hM
  clear hc6 hM HV5 HB5 HL5 HD HP HR HV HB4 HSL d0 d1 d2 d3 v0 f0 v1 f1 v2 f2 v3 f3 v4 f4 v5 f5 v6 f6 v7 f7 v8 f8 v9 f9 v10 f10 v3' f3' hq5 hb5
  generalize w5.setCell ⟨B + 1 + 1 + 1, 3, none⟩ (.slice a5 D.length c5) = w6 at *
  generalize w4.heap.size = M at *
  obtain ⟨d0, d1, d2, d3⟩ := four_cellsH HD6
  obtain ⟨p0, p1, p2, p3, p4, p5, p6⟩ := seven_cells HP6
  obtain ⟨v0, v1, v2, v3, v4, v5, v6, v7, v8, v9, v10⟩ := eleven_cells HV6
  obtain ⟨f0, f1, f2, f3, f4, f5, f6, f7, f8, f9, f10⟩ := eleven_fr HV6
  go_upto_region 11 with fail
  rename_i hKe
  refine cval_tail B _ kd 0 0 nm hp a5 none D.length c5 0 0 0 0 0 0 _ HV6 HR6 ?_ _ _ _ _ _ _ _ _ _ _ _ _ _ _ _ _ _ _ _ _ _ _ _ _ _ _ _ _ _ _ _ _ _ _ _ _ _ _ _ _ _ _ _ _ _ _ _ hKe
  have hf := fun (t0 t1 t2 t3 t4 t5 t6 t7 t8 t9 t10 : Value) => val_fin HL6.out (ownC_nil M w6) HB6.out HM.out HS6.out (Chg.trans (Chg.refl _ _) (chg_put11 _ _ t0 t1 t2 t3 t4 t5 t6 t7 t8 t9 t10) (fun x hx => Or.inl (Or.inl hx)))
  have hBB := HBB.out
  subst hBB
  have e1 : gT kd hi = 0 := by unfold gT; rw [if_neg (by omega)]
  have e2 : gT kd lo = 0 := by unfold gT; rw [if_neg (by omega)]
  have e3 : gC kd A = [] := by unfold gC; rw [if_neg g2]
  have e4 : gN kd n = 0 := by unfold gN; rw [if_neg (by omega)]
  have e5 : ∀ x, gF kd x = 0 := fun x => by unfold gF; rw [if_neg g3]
  refine ⟨a5, D.length, c5, none, 0, 0, 0, ?_, (hf _ _ _ _ _ _ _ _ _ _ _).1, ?_, (hf _ _ _ _ _ _ _ _ _ _ _).2.2, by decide, ?_⟩
  · rw [e1, e2, e4, e5, e5]
  · rw [e3]; exact (hf _ _ _ _ _ _ _ _ _ _ _).2.1
  · rw [e5]; exact oneZ_zero
set_option maxRecDepth 10000 in
set_option maxHeartbeats 8000000 in
theorem cval_2 (hi lo : Int) (nm hp : ByteArray) (la : Option Addr) (lc : Nat) (D : List Lb) (ca : Option Addr) (cc n s c mn mx : Nat) (A : List Cn) (w : World) (hD : SLb w (.slice la D.length lc) D) (hA : SN w (.slice ca A.length cc) A) (hlD : D.length ≤ 1048576) (hlA : A.length ≤ 1048576) (hs : s < 18446744073709551616) (hc : c < 18446744073709551616) :
    Calls Tryz.prog 81 #[.agg #[.int .i64 2, .string nm, .string hp, .slice la D.length lc], part hi lo (.slice ca A.length cc) n s c mn mx] w fun e w' => CvQ 2 hi lo nm hp n s c mn mx D A w e w' := by
  have sF := store_f
  have HTO : Hid (∀ W, Calls Tryz.prog 125 #[.complex .f64 s c] W fun e w' => ∃ r, e = .returned (.float .f64 r) ∧ Hid (Below W.heap.size W w') ∧ Hid (r < 18446744073709551616 ∧ Soft.one r = Soft.fa s c)) := fun W => (Pr.zptotal s c hs hc W).mono fun e w' ⟨r, k, e1, e2, e3, e4⟩ => ⟨r, e1, by rw [e2]; exact below_drew W k, e3, e4⟩
  clear hs hc
  go_enter Tryz.func81, Tryz.ntmps81
  go_upto_region 2 with fail
  generalize hw4 : (((w.alloc (.cells #[.int .i64 2, .string nm, .string hp, .slice la D.length lc] 41)).alloc (.cells #[.int .i64 hi, .int .u64 lo, .slice ca A.length cc, .int .u64 (n : Int), .complex .f64 s c, .float .f64 mn, .float .f64 mx] 184)).alloc (.cells #[.int .i64 0, .string ⟨#[]⟩, .string ⟨#[]⟩, .slice none 0 0, .int .i64 0, .int .u64 0, .slice none 0 0, .int .u64 0, .float .f64 0, .float .f64 0, .float .f64 0] 73)).alloc (.cells #[.int .i64 2, .string nm, .string hp, .slice la D.length lc, .int .i64 0, .int .u64 0, .slice none 0 0, .int .u64 0, .float .f64 0, .float .f64 0, .float .f64 0] 73) = w4
  have HB4 : Hid (Below w.heap.size w w4) := by rw [← hw4]; exact bel4 _ _ _ _ _
  have HD : Hid (w4.heap[w.heap.size]? = some (.cells #[.int .i64 2, .string nm, .string hp, .slice la D.length lc] 41 (0, 0))) := by rw [← hw4]; exact new4_0 _ _ _ _ _
  have HP : Hid (w4.heap[w.heap.size + 1]? = some (.cells #[.int .i64 hi, .int .u64 lo, .slice ca A.length cc, .int .u64 (n : Int), .complex .f64 s c, .float .f64 mn, .float .f64 mx] 184 (0, 0))) := by rw [← hw4]; exact new4_1 _ _ _ _ _
  have HR : Hid (w4.heap[w.heap.size + 1 + 1]? = some (.cells #[.int .i64 0, .string ⟨#[]⟩, .string ⟨#[]⟩, .slice none 0 0, .int .i64 0, .int .u64 0, .slice none 0 0, .int .u64 0, .float .f64 0, .float .f64 0, .float .f64 0] 73 (0, 0))) := by rw [← hw4]; exact new4_2 _ _ _ _ _
  have HV : Hid (w4.heap[w.heap.size + 1 + 1 + 1]? = some (.cells #[.int .i64 2, .string nm, .string hp, .slice la D.length lc, .int .i64 0, .int .u64 0, .slice none 0 0, .int .u64 0, .float .f64 0, .float .f64 0, .float .f64 0] 73 (0, 0))) := by rw [← hw4]; exact new4_3 _ _ _ _ _
  have HSL := hid_of (hD.below HB4.out)
  have HSC := hid_of (hA.below HB4.out)
  have hA0 := hid_of hA
  clear hD hA
  obtain ⟨d0, d1, d2, d3⟩ := four_cellsH HD
  clear hw4
  generalize hB : w.heap.size = B at *
  have HBB := hid_of hB
  clear hB
  obtain ⟨v0, v1, v2, v3, v4, v5, v6, v7, v8, v9, v10⟩ := eleven_cells HV
  obtain ⟨f0, f1, f2, f3, f4, f5, f6, f7, f8, f9, f10⟩ := eleven_fr HV
  go_upto_region 3 with (first
    | (at_builtin; refine wpList_run _ rfl _ _ 39 rfl (.slice none 0 0) (.slice la D.length lc) rfl rfl (run_copyL HSL.out hlD _) ?_; intro lv w5 hq5; obtain ⟨hq5, hb5⟩ := hq5; obtain ⟨a5, b5, c5, rfl, -⟩ := own_slice hq5; have HL5 := hid_of hq5; have HV5 := hid_of (hkN HV.out hb5); have HB5 := hid_of hb5; have v3' := (eleven_cells HV5).2.2.2.1; have f3' := (eleven_fr HV5).2.2.2.1))
  have hM : B + 1 + 1 + 1 < w4.heap.size := (Array.getElem?_eq_some_iff.1 HV.out).1
  have HV6 : Hid ((w5.setCell ⟨B + 1 + 1 + 1, 3, none⟩ (.slice a5 D.length c5)).heap[B + 1 + 1 + 1]? = some (.cells #[.int .i64 2, .string nm, .string hp, .slice a5 D.length c5, .int .i64 0, .int .u64 0, .slice none 0 0, .int .u64 0, .float .f64 0, .float .f64 0, .float .f64 0] 73 (0, 0))) := by unfold Hid; rw [heap_setCell_same _ _ 3 _ _ _ HV5.out]; rfl
  have hc6 := chg_set w5 (B + 1 + 1 + 1) 3 (.slice a5 D.length c5)
  have HD6 := hid_of (hc6.at_ (hkN HD.out HB5.out) (by omega))
  have HP6 := hid_of (hc6.at_ (hkN HP.out HB5.out) (by omega))
  have HR6 := hid_of (hc6.at_ (hkN HR.out HB5.out) (by omega))
  have HL6 : Hid (OwnL w4.heap.size (.slice a5 D.length c5) D (w5.setCell ⟨B + 1 + 1 + 1, 3, none⟩ (.slice a5 D.length c5))) := hc6.row HL5.out (fun x hx e => by have := (HL5.out.lt x hx).1; omega)
  have HB6 : Hid (Below B w (w5.setCell ⟨B + 1 + 1 + 1, 3, none⟩ (.slice a5 D.length c5))) := HB4.out.trans ((HB5.out.mono (by omega)).trans (hc6.below (by have := HB5.out.size; omega) (fun x hx => by omega)))
  have HS6 : Hid (w4.heap.size ≤ (w5.setCell ⟨B + 1 + 1 + 1, 3, none⟩ (.slice a5 D.length c5)).heap.size) := Nat.le_trans HB5.out.size hc6.size
  have HM := hid_of hM
  clear hc6 hM HV5 HB5 HL5 HD HP HR HV HB4 HSL d0 d1 d2 d3 v0 f0 v1 f1 v2 f2 v3 f3 v4 f4 v5 f5 v6 f6 v7 f7 v8 f8 v9 f9 v10 f10 v3' f3' hq5 hb5
  generalize w5.setCell ⟨B + 1 + 1 + 1, 3, none⟩ (.slice a5 D.length c5) = w6 at *
  generalize w4.heap.size = M at *
  obtain ⟨d0, d1, d2, d3⟩ := four_cellsH HD6
  obtain ⟨p0, p1, p2, p3, p4, p5, p6⟩ := seven_cells HP6
  obtain ⟨v0, v1, v2, v3, v4, v5, v6, v7, v8, v9, v10⟩ := eleven_cells HV6
  obtain ⟨f0, f1, f2, f3, f4, f5, f6, f7, f8, f9, f10⟩ := eleven_fr HV6
  go_upto_region 7 with fail
  go_cut [20] from 22 (fun _ V => Hid (V.heap[B + 1 + 1 + 1]? = some (.cells #[.int .i64 2, .string nm, .string hp, .slice a5 D.length c5, .int .i64 hi, .int .u64 lo, .slice none 0 0, .int .u64 (n : Int), .float .f64 0, .float .f64 0, .float .f64 0] 73 (0, 0))) ∧ Hid (Chg (fun x => x = B + 1 + 1 + 1) w6 V))
  case first =>
    go_region
    go_wp2_with fail
    go_meet
    have e1 : (((w6.setCell ⟨B + 1 + 1 + 1, 4, none⟩ (.int .i64 hi)).setCell ⟨B + 1 + 1 + 1, 5, none⟩ (.int .u64 lo)).setCell ⟨B + 1 + 1 + 1, 7, none⟩ (.int .u64 (n : Int))).heap[B + 1 + 1 + 1]? = some (.cells #[.int .i64 2, .string nm, .string hp, .slice a5 D.length c5, .int .i64 hi, .int .u64 lo, .slice none 0 0, .int .u64 (n : Int), .float .f64 0, .float .f64 0, .float .f64 0] 73 (0, 0)) := by rw [heap_setCell_same _ _ 7 _ _ _ (heap_setCell_same _ _ 5 _ _ _ (heap_setCell_same _ _ 4 _ _ _ HV6.out))]; rfl
    have e2 : Chg (fun x => x = B + 1 + 1 + 1) w6 (((w6.setCell ⟨B + 1 + 1 + 1, 4, none⟩ (.int .i64 hi)).setCell ⟨B + 1 + 1 + 1, 5, none⟩ (.int .u64 lo)).setCell ⟨B + 1 + 1 + 1, 7, none⟩ (.int .u64 (n : Int))) := chg_moreG (chg_moreG (chg_moreG (Chg.refl _ _) rfl) rfl) rfl
    exact ⟨e1, ⟨e2.os, e2.tape, e2.output, e2.size, e2.block⟩⟩
  case rest =>
  obtain ⟨HV7, HC7⟩ := hcut
  have HP7 := hid_of (HC7.out.at_ HP6.out (by omega))
  have HR7 := hid_of (HC7.out.at_ HR6.out (by omega))
  have hm := HM.out
  have HL7 : Hid (OwnL M (.slice a5 D.length c5) D wc) := HC7.out.row HL6.out (fun x hx e => by have := (HL6.out.lt x hx).1; omega)
  have HB7 : Hid (Below B w wc) := HB6.out.trans (HC7.out.below (by have := HS6.out; omega) (fun x hx => by omega))
  have HS7 := hid_of (Nat.le_trans HS6.out HC7.out.size)
  have HSN7 := hid_of (hA0.out.below (show Below w.heap.size w wc by rw [HBB.out]; exact HB7.out))
  clear HV6 HP6 HR6 HL6 HB6 HS6 HC7 HD6 HSC hm d0 d1 d2 d3 p0 p1 p2 p3 p4 p5 p6 v0 f0 v1 f1 v2 f2 v3 f3 v4 f4 v5 f5 v6 f6 v7 f7 v8 f8 v9 f9 v10 f10
  obtain ⟨p0, p1, p2, p3, p4, p5, p6⟩ := seven_cells HP7
  obtain ⟨v0, v1, v2, v3, v4, v5, v6, v7, v8, v9, v10⟩ := eleven_cells HV7
  obtain ⟨f0, f1, f2, f3, f4, f5, f6, f7, f8, f9, f10⟩ := eleven_fr HV7
  go_upto_region 11 with (first
    | (at_builtin; refine wpList_run _ rfl _ _ 71 rfl (.slice none 0 0) (.slice ca A.length cc) rfl rfl (run_copyC HSN7.out hlA _) ?_; intro cv w8 hq8; obtain ⟨hq8, hb8⟩ := hq8; obtain ⟨a8, b8, c8, rfl, -⟩ := own_slice hq8; have HC8 := hid_of hq8; have HV8 := hid_of (hkN HV7.out hb8); have HB8 := hid_of hb8; have v6' := (eleven_cells HV8).2.2.2.2.2.2.1; have f6' := (eleven_fr HV8).2.2.2.2.2.2.1))
  have HV9 : Hid ((w8.setCell ⟨B + 1 + 1 + 1, 6, none⟩ (.slice a8 A.length c8)).heap[B + 1 + 1 + 1]? = some (.cells #[.int .i64 2, .string nm, .string hp, .slice a5 D.length c5, .int .i64 hi, .int .u64 lo, .slice a8 A.length c8, .int .u64 (n : Int), .float .f64 0, .float .f64 0, .float .f64 0] 73 (0, 0))) := by unfold Hid; rw [heap_setCell_same _ _ 6 _ _ _ HV8.out]; rfl
  have hc9 := chg_set w8 (B + 1 + 1 + 1) 6 (.slice a8 A.length c8)
  have HR9 := hid_of (hc9.at_ (hkN HR7.out HB8.out) (by omega))
  have hs7 := HS7.out
  have hs8 := HB8.out.size
  have hf := fun (t0 t1 t2 t3 t4 t5 t6 t7 t8 t9 t10 : Value) => val_fin (HL7.out.bel HB8.out) (own_leG HC8.out hs7) (HB7.out.trans (HB8.out.mono (by have := HM.out; omega))) HM.out (Nat.le_trans hs7 hs8) ((Chg.trans (Chg.refl (fun x => x = B + 1 + 1 ∨ x = B + 1 + 1 + 1) _) hc9 (fun x hx => Or.inl (Or.inr hx))).trans (chg_put11 _ (B + 1 + 1) t0 t1 t2 t3 t4 t5 t6 t7 t8 t9 t10) (fun x hx => Or.inl (Or.inl hx)))
  rename_i hKe
  refine cval_tail B _ 2 hi lo nm hp a5 a8 D.length c5 A.length c8 n 0 0 0 _ HV9 HR9 ?_ _ _ _ _ _ _ _ _ _ _ _ _ _ _ _ _ _ _ _ _ _ _ _ _ _ _ _ _ _ _ _ _ _ _ _ _ _ _ _ _ _ _ _ _ _ _ _ hKe
  have hBB := HBB.out
  subst hBB
  exact ⟨a5, D.length, c5, a8, A.length, c8, 0, rfl, (hf _ _ _ _ _ _ _ _ _ _ _).1, (hf _ _ _ _ _ _ _ _ _ _ _).2.1, (hf _ _ _ _ _ _ _ _ _ _ _).2.2, by decide, by rw [show gF 2 (Soft.fa s c) = 0 from if_neg (by decide)]; exact oneZ_zero⟩
set_option maxRecDepth 10000 in
set_option maxHeartbeats 8000000 in
theorem cval_3 (hi lo : Int) (nm hp : ByteArray) (la : Option Addr) (lc : Nat) (D : List Lb) (ca : Option Addr) (cc n s c mn mx : Nat) (A : List Cn) (w : World) (hD : SLb w (.slice la D.length lc) D) (hA : SN w (.slice ca A.length cc) A) (hlD : D.length ≤ 1048576) (_hlA : A.length ≤ 1048576) (hs : s < 18446744073709551616) (hc : c < 18446744073709551616) :
    Calls Tryz.prog 81 #[.agg #[.int .i64 3, .string nm, .string hp, .slice la D.length lc], part hi lo (.slice ca A.length cc) n s c mn mx] w fun e w' => CvQ 3 hi lo nm hp n s c mn mx D A w e w' := by
  have sF := store_f
  have HTO : Hid (∀ W, Calls Tryz.prog 125 #[.complex .f64 s c] W fun e w' => ∃ r, e = .returned (.float .f64 r) ∧ Hid (Below W.heap.size W w') ∧ Hid (r < 18446744073709551616 ∧ Soft.one r = Soft.fa s c)) := fun W => (Pr.zptotal s c hs hc W).mono fun e w' ⟨r, k, e1, e2, e3, e4⟩ => ⟨r, e1, by rw [e2]; exact below_drew W k, e3, e4⟩
  clear hs hc
  go_enter Tryz.func81, Tryz.ntmps81
  go_upto_region 2 with fail
  generalize hw4 : (((w.alloc (.cells #[.int .i64 3, .string nm, .string hp, .slice la D.length lc] 41)).alloc (.cells #[.int .i64 hi, .int .u64 lo, .slice ca A.length cc, .int .u64 (n : Int), .complex .f64 s c, .float .f64 mn, .float .f64 mx] 184)).alloc (.cells #[.int .i64 0, .string ⟨#[]⟩, .string ⟨#[]⟩, .slice none 0 0, .int .i64 0, .int .u64 0, .slice none 0 0, .int .u64 0, .float .f64 0, .float .f64 0, .float .f64 0] 73)).alloc (.cells #[.int .i64 3, .string nm, .string hp, .slice la D.length lc, .int .i64 0, .int .u64 0, .slice none 0 0, .int .u64 0, .float .f64 0, .float .f64 0, .float .f64 0] 73) = w4
  have HB4 : Hid (Below w.heap.size w w4) := by rw [← hw4]; exact bel4 _ _ _ _ _
  have HD : Hid (w4.heap[w.heap.size]? = some (.cells #[.int .i64 3, .string nm, .string hp, .slice la D.length lc] 41 (0, 0))) := by rw [← hw4]; exact new4_0 _ _ _ _ _
  have HP : Hid (w4.heap[w.heap.size + 1]? = some (.cells #[.int .i64 hi, .int .u64 lo, .slice ca A.length cc, .int .u64 (n : Int), .complex .f64 s c, .float .f64 mn, .float .f64 mx] 184 (0, 0))) := by rw [← hw4]; exact new4_1 _ _ _ _ _
  have HR : Hid (w4.heap[w.heap.size + 1 + 1]? = some (.cells #[.int .i64 0, .string ⟨#[]⟩, .string ⟨#[]⟩, .slice none 0 0, .int .i64 0, .int .u64 0, .slice none 0 0, .int .u64 0, .float .f64 0, .float .f64 0, .float .f64 0] 73 (0, 0))) := by rw [← hw4]; exact new4_2 _ _ _ _ _
  have HV : Hid (w4.heap[w.heap.size + 1 + 1 + 1]? = some (.cells #[.int .i64 3, .string nm, .string hp, .slice la D.length lc, .int .i64 0, .int .u64 0, .slice none 0 0, .int .u64 0, .float .f64 0, .float .f64 0, .float .f64 0] 73 (0, 0))) := by rw [← hw4]; exact new4_3 _ _ _ _ _
  have HSL := hid_of (hD.below HB4.out)
  have HSC := hid_of (hA.below HB4.out)
  have hA0 := hid_of hA
  clear hD hA
  obtain ⟨d0, d1, d2, d3⟩ := four_cellsH HD
  clear hw4
  generalize hB : w.heap.size = B at *
  have HBB := hid_of hB
  clear hB
  obtain ⟨v0, v1, v2, v3, v4, v5, v6, v7, v8, v9, v10⟩ := eleven_cells HV
  obtain ⟨f0, f1, f2, f3, f4, f5, f6, f7, f8, f9, f10⟩ := eleven_fr HV
  go_upto_region 3 with (first
    | (at_builtin; refine wpList_run _ rfl _ _ 39 rfl (.slice none 0 0) (.slice la D.length lc) rfl rfl (run_copyL HSL.out hlD _) ?_; intro lv w5 hq5; obtain ⟨hq5, hb5⟩ := hq5; obtain ⟨a5, b5, c5, rfl, -⟩ := own_slice hq5; have HL5 := hid_of hq5; have HV5 := hid_of (hkN HV.out hb5); have HB5 := hid_of hb5; have v3' := (eleven_cells HV5).2.2.2.1; have f3' := (eleven_fr HV5).2.2.2.1))
  have hM : B + 1 + 1 + 1 < w4.heap.size := (Array.getElem?_eq_some_iff.1 HV.out).1
  have HV6 : Hid ((w5.setCell ⟨B + 1 + 1 + 1, 3, none⟩ (.slice a5 D.length c5)).heap[B + 1 + 1 + 1]? = some (.cells #[.int .i64 3, .string nm, .string hp, .slice a5 D.length c5, .int .i64 0, .int .u64 0, .slice none 0 0, .int .u64 0, .float .f64 0, .float .f64 0, .float .f64 0] 73 (0, 0))) := by unfold Hid; rw [heap_setCell_same _ _ 3 _ _ _ HV5.out]; rfl
  have hc6 := chg_set w5 (B + 1 + 1 + 1) 3 (.slice a5 D.length c5)
  have HD6 := hid_of (hc6.at_ (hkN HD.out HB5.out) (by omega))
  have HP6 := hid_of (hc6.at_ (hkN HP.out HB5.out) (by omega))
  have HR6 := hid_of (hc6.at_ (hkN HR.out HB5.out) (by omega))
  have HL6 : Hid (OwnL w4.heap.size (.slice a5 D.length c5) D (w5.setCell ⟨B + 1 + 1 + 1, 3, none⟩ (.slice a5 D.length c5))) := hc6.row HL5.out (fun x hx e => by have := (HL5.out.lt x hx).1; omega)
  have HB6 : Hid (Below B w (w5.setCell ⟨B + 1 + 1 + 1, 3, none⟩ (.slice a5 D.length c5))) := HB4.out.trans ((HB5.out.mono (by omega)).trans (hc6.below (by have := HB5.out.size; omega) (fun x hx => by omega)))
  have HS6 : Hid (w4.heap.size ≤ (w5.setCell ⟨B + 1 + 1 + 1, 3, none⟩ (.slice a5 D.length c5)).heap.size) := Nat.le_trans HB5.out.size hc6.size
  have HM := hid_of hM
  clear hc6 hM HV5 HB5 HL5 HD HP HR HV HB4 HSL d0 d1 d2 d3 v0 f0 v1 f1 v2 f2 v3 f3 v4 f4 v5 f5 v6 f6 v7 f7 v8 f8 v9 f9 v10 f10 v3' f3' hq5 hb5
  generalize w5.setCell ⟨B + 1 + 1 + 1, 3, none⟩ (.slice a5 D.length c5) = w6 at *
  generalize w4.heap.size = M at *
  obtain ⟨d0, d1, d2, d3⟩ := four_cellsH HD6
  obtain ⟨p0, p1, p2, p3, p4, p5, p6⟩ := seven_cells HP6
  obtain ⟨v0, v1, v2, v3, v4, v5, v6, v7, v8, v9, v10⟩ := eleven_cells HV6
  obtain ⟨f0, f1, f2, f3, f4, f5, f6, f7, f8, f9, f10⟩ := eleven_fr HV6
  go_upto_region 10 with fail
  have HK0 : Hid (PH B hi lo (.slice ca A.length cc) n s c mn mx w6) := ⟨p0, p1, p2, p3, p4, p5, p6⟩
  have HV6d : Hid (w6.drew.heap[B + 1 + 1 + 1]? = some (.cells #[.int .i64 3, .string nm, .string hp, .slice a5 D.length c5, .int .i64 0, .int .u64 0, .slice none 0 0, .int .u64 0, .float .f64 0, .float .f64 0, .float .f64 0] 73 (0, 0))) := HV6.out
  have HKd : Hid (PH B hi lo (.slice ca A.length cc) n s c mn mx w6.drew) := ⟨p0, p1, p2, p3, p4, p5, p6⟩
  clear v0 v1 v2 v3 v4 v5 v6 v7 v8 v9 v10 f0 f1 f2 f3 f4 f5 f6 f7 f8 f9 f10 p0 p1 p2 p3 p4 p5 p6
  go_region_held3 (fun V => PH B hi lo (.slice ca A.length cc) n s c mn mx V)
    (first | with_reducible assumption | with_reducible exact HK0.out | with_reducible exact HKd.out | with_reducible exact PH.set1 (by assumption) _ _ | with_reducible exact PH.set1 (PH.set1 (by assumption) _ _) _ _ | with_reducible exact PH.set1 (PH.set1 (PH.set1 (by assumption) _ _) _ _) _ _ | with_reducible exact PH.set1 (PH.set1 (PH.set1 (PH.set1 (by assumption) _ _) _ _) _ _) _ _)
    (first
      | (go_at_call 125; with_reducible refine Calls.mono (HTO.out _) ?_; rintro e w7 ⟨r, rfl, HB7, HQ7⟩; have hk7 := PH.kept (by assumption) HB7.out; have HV7 := hid_of (hkN HV6d.out HB7.out); have v7 := (eleven_cells HV7).2.2.2.2.2.2.2.1; have v8 := (eleven_cells HV7).2.2.2.2.2.2.2.2.1; have v9 := (eleven_cells HV7).2.2.2.2.2.2.2.2.2.1; have v10 := (eleven_cells HV7).2.2.2.2.2.2.2.2.2.2; have f7 := (eleven_fr HV7).2.2.2.2.2.2.2.1; have f8 := (eleven_fr HV7).2.2.2.2.2.2.2.2.1; have f9 := (eleven_fr HV7).2.2.2.2.2.2.2.2.2.1; have f10 := (eleven_fr HV7).2.2.2.2.2.2.2.2.2.2))
  rename_i hHeld
  clear hHeld
  have HV8 : Hid (((((w7.setCell ⟨B + 1 + 1 + 1, 7, none⟩ (.int .u64 (n : Int))).setCell ⟨B + 1 + 1 + 1, 8, none⟩ (.float .f64 r)).setCell ⟨B + 1 + 1 + 1, 9, none⟩ (.float .f64 mn)).setCell ⟨B + 1 + 1 + 1, 10, none⟩ (.float .f64 mx)).heap[B + 1 + 1 + 1]? = some (.cells #[.int .i64 3, .string nm, .string hp, .slice a5 D.length c5, .int .i64 0, .int .u64 0, .slice none 0 0, .int .u64 (n : Int), .float .f64 r, .float .f64 mn, .float .f64 mx] 73 (0, 0))) := by unfold Hid; rw [heap_setCell_same _ _ 10 _ _ _ (heap_setCell_same _ _ 9 _ _ _ (heap_setCell_same _ _ 8 _ _ _ (heap_setCell_same _ _ 7 _ _ _ HV7.out)))]; rfl
  have hc8 : Chg (fun x => x = B + 1 + 1 + 1) w7 ((((w7.setCell ⟨B + 1 + 1 + 1, 7, none⟩ (.int .u64 (n : Int))).setCell ⟨B + 1 + 1 + 1, 8, none⟩ (.float .f64 r)).setCell ⟨B + 1 + 1 + 1, 9, none⟩ (.float .f64 mn)).setCell ⟨B + 1 + 1 + 1, 10, none⟩ (.float .f64 mx)) := chg_moreG (chg_moreG (chg_moreG (chg_moreG (Chg.refl _ _) rfl) rfl) rfl) rfl
  have hb7 : Below w6.heap.size w6 w7 := ⟨HB7.out.os, HB7.out.tape, HB7.out.output, HB7.out.size, HB7.out.block⟩
  have hm := HM.out
  have hs6 := HS6.out
  have hs7 := hb7.size
  have HR8 := hid_of (hc8.at_ (hkN HR6.out hb7) (by omega))
  have hf := fun (t0 t1 t2 t3 t4 t5 t6 t7 t8 t9 t10 : Value) => val_fin (HL6.out.bel hb7) (ownC_nil M w7) (HB6.out.trans (hb7.mono (by omega))) HM.out (Nat.le_trans hs6 hs7) ((Chg.trans (Chg.refl (fun x => x = B + 1 + 1 ∨ x = B + 1 + 1 + 1) _) hc8 (fun x hx => Or.inl (Or.inr hx))).trans (chg_put11 _ (B + 1 + 1) t0 t1 t2 t3 t4 t5 t6 t7 t8 t9 t10) (fun x hx => Or.inl (Or.inl hx)))
  have HF := hid_of hf
  clear hf hc8 hb7 hm hs6 hs7 HV7 HB7 hk7 v7 v8 v9 v10 f7 f8 f9 f10
  go_upto_region 11 with fail
  have hf := HF.out
  rename_i hKe
  refine cval_tail B _ 3 0 0 nm hp a5 none D.length c5 0 0 n r mn mx _ HV8 HR8 ?_ _ _ _ _ _ _ _ _ _ _ _ _ _ _ _ _ _ _ _ _ _ _ _ _ _ _ _ _ _ _ _ _ _ _ _ _ _ _ _ _ _ _ _ _ _ _ _ hKe
  have hBB := HBB.out
  subst hBB
  exact ⟨a5, D.length, c5, none, 0, 0, r, rfl, (hf _ _ _ _ _ _ _ _ _ _ _).1, (hf _ _ _ _ _ _ _ _ _ _ _).2.1, (hf _ _ _ _ _ _ _ _ _ _ _).2.2, HQ7.out.1, HQ7.out.2⟩
theorem cval_any (kd hi lo : Int) (nm hp : ByteArray) (la : Option Addr) (lc : Nat) (D : List Lb) (ca : Option Addr) (cc n s c mn mx : Nat) (A : List Cn) (w : World) (hD : SLb w (.slice la D.length lc) D) (hA : SN w (.slice ca A.length cc) A) (hlD : D.length ≤ 1048576) (hlA : A.length ≤ 1048576) (hs : s < 18446744073709551616) (hc : c < 18446744073709551616) :
    Calls Tryz.prog 81 #[.agg #[.int .i64 kd, .string nm, .string hp, .slice la D.length lc], part hi lo (.slice ca A.length cc) n s c mn mx] w fun e w' => CvQ kd hi lo nm hp n s c mn mx D A w e w' := by
  by_cases g1 : kd = 1
  · subst g1; exact cval_1 hi lo nm hp la lc D ca cc n s c mn mx A w hD hA hlD hlA hs hc
  by_cases g2 : kd = 2
  · subst g2; exact cval_2 hi lo nm hp la lc D ca cc n s c mn mx A w hD hA hlD hlA hs hc
  by_cases g3 : kd = 3
  · subst g3; exact cval_3 hi lo nm hp la lc D ca cc n s c mn mx A w hD hA hlD hlA hs hc
  exact cval_0 kd hi lo nm hp la lc D ca cc n s c mn mx A w hD hA hlD hlA hs hc g1 g2 g3
end Go.Proofs.YtfnohbalkpponaaGreatDoor.Va
