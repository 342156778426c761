/- MEMORY. Own work of the verifier. -/
import Derived.Test.YtfnohbalkpponaaGreatDoorRows
import Derived.WalkKit
import Derived.WalkSpells
import Derived.RowKit3
import Derived.Below
import Derived.Outline
import Derived.Deep.QuietTactic
import Derived.Deep.Draws
import Derived.BigQuiet
import Derived.Laws.Bits64
import Derived.Laws.BitsAllLaws
import Derived.Laws.ShiftsVarLaws
import Derived.Deep.RegionHeld3
import Derived.Deep.DeepCutAuto
import Derived.Laws.OwnMore
import Derived.OwnWalk
namespace Go.Proofs.YtfnohbalkpponaaGreatDoor.Po
open Go.RowKit

theorem bel1 (w : World) (o1 : Obj) : Below w.heap.size w (w.alloc o1) := (Below.refl _ _).alloc (Nat.le_refl _) _
theorem bt {w W W1 : World} (h : Below w.heap.size w W) (k : Below W.heap.size W W1) : Below w.heap.size w W1 := h.trans (k.mono h.size)
theorem new_1 (w : World) (o : Obj) : (w.alloc o).heap[w.heap.size]? = some o := by
  show (w.heap.push _)[w.heap.size]? = _
  simp
theorem hid_of {p : Prop} (h : p) : Hid p := h
theorem retI {k : IntKind} {A B : Int} (h : A = B) : Ending.returned (Value.int k A) = .returned (.int k B) := by rw [h]
theorem retB {A B : Bool} (h : A = B) : Ending.returned (Value.bool A) = .returned (.bool B) := by rw [h]
theorem bel_drewB {B : Nat} {a w : World} (h : Below B a w) : Below B a w.drew := ⟨h.os, h.tape, h.output, h.size, h.block⟩
/-- append to a row of the call's own: in place, or in a new row while all else stays. -/
theorem append_two {P : Program} (w : World) (base : Nat) (t ty e : TypeId) (i : TypeInfo) (z : Value) (size bytes : Nat) (ht : P.underlying t = some (.slice e)) (hi : P.info? e = some i) (hz : i.zero = some z)
    (hsize : i.size = size) (hby : i.bytes = bytes) (hzs : z.cells.size = size)
    (v : Value) (n : Nat) (xs : List Value) (hown : w.ownsRow base e size v n xs)
    (a : Addr) (m c : Nat) (news : List Value) (hl : news.length = m * size) (hnews : ∀ j u, news[j]? = some u → w.cell? (a.add j) = some u) (h1 : ∀ u ∈ news, u.oneCell' = true)
    (hm : 0 < m) (h63 : n + m ≤ maxLen) (hbytes : (n + m) * bytes ≤ 140737488355328) :
    ∃ v' w', (Builtin.append_ #[t, t] ty #[v, .slice (some a) m c]).run P w = .ok v' w' ∧
      ((∃ g cap, v = .slice (some ⟨g, 0, none⟩) n cap ∧ v' = .slice (some ⟨g, 0, none⟩) (n + m) cap ∧ w'.ownsRow base e size v' (n + m) (xs ++ news) ∧ w.grownBy w' (some g)) ∨
       (w'.ownsRow w.heap.size e size v' (n + m) (xs ++ news) ∧ Below w.heap.size w w')) := by
  subst hsize
  subst hby
  have hsmall : n + m ≤ 9223372036854775807 := by simp only [maxLen] at h63; omega
  have hlen : (xs ++ news).length = (n + m) * i.size := by rw [List.length_append, hown.1, hl, Nat.add_mul]
  have grown : ∀ (old : Nat),
      (w.drew.alloc (.cells (xs.toArray ++ news.toArray ++ Builtin.zeroCells z.cells (grownCap w (n + m) old e - (n + m))) e)).ownsRow w.heap.size e i.size
        (.slice (some ⟨w.heap.size, 0, none⟩) (n + m) (grownCap w (n + m) old e)) (n + m) (xs ++ news) ∧
      Below w.heap.size w (w.drew.alloc (.cells (xs.toArray ++ news.toArray ++ Builtin.zeroCells z.cells (grownCap w (n + m) old e - (n + m))) e)) := by
    intro old
    have hge := grownCap_ge w (n + m) old e
    have hcm : grownCap w (n + m) old e ≤ maxLen := grownCap_le_maxLen w (n + m) old e h63
    refine ⟨⟨hlen, .inr ⟨w.heap.size, _, xs.toArray ++ news.toArray ++ Builtin.zeroCells z.cells (grownCap w (n + m) old e - (n + m)), rfl, Nat.le_refl _, ?_, hge, hcm, ?_, ?_⟩⟩, (bel_drewB (Below.refl _ _)).alloc (Nat.le_refl _) _⟩
    · show (w.heap.push _)[w.heap.size]? = _
      simp
    · simp only [Array.size_append, List.size_toArray, size_zeroCells, hzs, hown.1, hl, ← Nat.add_mul]
      congr 1
      omega
    · simp only [Array.toList_append, List.append_assoc]
      rw [← List.append_assoc, ← hlen]
      exact List.take_left
  rcases hown.2 with ⟨rfl, rfl⟩ | ⟨g, cap, cur, rfl, hbg, hg, hnc, hcm, hcs, htake⟩
  · have hx : xs = [] := List.eq_nil_of_length_eq_zero (by simpa using hown.1)
    subst hx
    have hr := run_append_nil (P := P) w t ty e i z ht hi hz a m c news hl hnews (by omega) (by omega) (by have hb := hbytes; simp only [Nat.zero_add] at hb; omega)
    have hgr := grown 0
    simp only [Nat.zero_add, List.nil_append, Array.empty_append] at hgr ⊢
    exact ⟨_, _, hr, Or.inr hgr⟩
  · by_cases hroom : n + m ≤ cap
    · obtain ⟨w', k1, k2, k3⟩ := run_append_fits (P := P) w base t ty e i i.size ht hi rfl g n cap xs hown a m c news hl hnews h1 hroom
      exact ⟨_, w', k1, Or.inl ⟨g, cap, rfl, rfl, k2, k3⟩⟩
    · have holds : ∀ j u, xs[j]? = some u → w.cell? ((⟨g, 0, none⟩ : Addr).add j) = some u := hown.cells (g := g) rfl
      have hr := run_append_grow (P := P) w t ty e i z ht hi hz ⟨g, 0, none⟩ n cap xs hown.1 holds a m c news hl hnews (by omega) (by omega) (growslice_fits (by omega) hbytes)
      exact ⟨_, _, hr, Or.inr (grown cap)⟩
theorem wpList_append_two {P : Program} (w : World) {ops : Array Oper} {rest : List Oper} {o : Oper} {a : Act} {Q : Exit → Act → World → Prop} (hgd : o.guard = none) (s x : Operand) (t : TypeId)
    (ho : o.op = .call { callee := .builtin .append, args := #[s, x], argTypes := #[t, t] })
    (base : Nat) (e : TypeId) (i : TypeInfo) (z : Value) (size bytes : Nat) (ht : P.underlying t = some (.slice e)) (hi : P.info? e = some i) (hz : i.zero = some z)
    (hsize : i.size = size) (hby : i.bytes = bytes) (hzs : z.cells.size = size)
    (v : Value) (n : Nat) (xs : List Value) (hs : a.eval s = v) (hown : w.ownsRow base e size v n xs)
    (ad : Addr) (m c : Nat) (news : List Value) (hx : a.eval x = .slice (some ad) m c) (hl : news.length = m * size) (hnews : ∀ j u, news[j]? = some u → w.cell? (ad.add j) = some u) (h1 : ∀ u ∈ news, u.oneCell' = true)
    (hm : 0 < m) (h63 : n + m ≤ maxLen) (hbytes : (n + m) * bytes ≤ 140737488355328)
    (h : ∀ v' w', ((∃ g cap, v = .slice (some ⟨g, 0, none⟩) n cap ∧ v' = .slice (some ⟨g, 0, none⟩) (n + m) cap ∧ w'.ownsRow base e size v' (n + m) (xs ++ news) ∧ w.grownBy w' (some g)) ∨ (w'.ownsRow w.heap.size e size v' (n + m) (xs ++ news) ∧ Below w.heap.size w w')) → wpList P ops Q rest (a.put o.dst v') w') :
    wpList P ops Q (o :: rest) a w := by
  refine wpList_plain hgd fun K hK => ?_
  obtain ⟨v', w', hr, h2⟩ := append_two (P := P) w base t o.type e i z size bytes ht hi hz hsize hby hzs v n xs hown ad m c news hl hnews h1 hm h63 hbytes
  unfold Oper.wp execOp
  simp only [ho, resolve, invoke, builtin, Sem.run_bind, Sem.run_pure, Result.andThen_ok, List.map_toArray, List.map_cons, List.map_nil, hs, hx, hr]
  exact hK _ _ (h v' w' h2)
/-- The beginning of a row of the call's own is one too. -/
theorem own_take {W : World} {B : Nat} {e : TypeId} {size g N n cap : Nat} {xs : List Value} (h : W.ownsRow B e size (.slice (some ⟨g, 0, none⟩) N cap) N xs) (hn : n ≤ N) : W.ownsRow B e size (.slice (some ⟨g, 0, none⟩) n cap) n (xs.take (n * size)) := by
  rcases h.2 with ⟨h', _⟩ | ⟨g', cap', cur, h', hb, hg, h3, h4, h5, h6⟩
  · cases h'
  · cases h'
    refine ⟨?_, Or.inr ⟨g, cap, cur, rfl, hb, hg, by omega, h4, h5, ?_⟩⟩
    · rw [List.length_take, h.1]
      exact Nat.min_eq_left (Nat.mul_le_mul_right _ hn)
    · rw [← h6, List.take_take]
      congr 1
      exact (Nat.min_eq_left (Nat.mul_le_mul_right _ hn)).symm
/-- Two rows in one block have one room. -/
theorem own_cap {W : World} {B B' : Nat} {e : TypeId} {g n n' cap cap' : Nat} {xs xs' : List Value} (h : W.ownsRow B e 1 (.slice (some ⟨g, 0, none⟩) n cap) n xs) (h' : W.ownsRow B' e 1 (.slice (some ⟨g, 0, none⟩) n' cap') n' xs') : cap = cap' := by
  rcases h.2 with ⟨k, _⟩ | ⟨g1, c1, cur, k, _, hg, _, _, h5, _⟩
  · cases k
  rcases h'.2 with ⟨k', _⟩ | ⟨g2, c2, cur', k', _, hg', _, _, h5', _⟩
  · cases k'
  cases k
  cases k'
  rw [hg] at hg'
  cases hg'
  omega
theorem grown_trans {a b c : World} {row : Option Nat} (h : a.grownBy b row) (k : b.grownBy c row) : a.grownBy c row :=
  ⟨k.os.trans h.os, k.tape.trans h.tape, k.output.trans h.output, Nat.le_trans h.size k.size, fun i hi hr => (k.block i (Nat.lt_of_lt_of_le hi h.size) hr).trans (h.block i hi hr)⟩
theorem grown_bel {a b : World} {row : Option Nat} (h : Below a.heap.size a b) : a.grownBy b row := ⟨h.os, h.tape, h.output, h.size, fun k hk _ => h.block k hk⟩
/-- One more row at work behind what was there: a step in place of it. -/
theorem grown_new {a b c : World} {row : Option Nat} {g : Nat} (h : a.grownBy b row) (k : b.grownBy c (some g)) (hg : row = some g ∨ a.heap.size ≤ g) : a.grownBy c row :=
  ⟨k.os.trans h.os, k.tape.trans h.tape, k.output.trans h.output, Nat.le_trans h.size k.size, fun i hi hr => (k.block i (Nat.lt_of_lt_of_le hi h.size) (fun e => by
    rcases hg with r | r
    · exact hr (by rw [e, r])
    · cases e; omega)).trans (h.block i hi hr)⟩
theorem own_atG {W : World} {B : Nat} {e : TypeId} {s n : Nat} {v : Value} {xs : List Value} (h : W.ownsRow B e s v n xs) : v.ownBlock = none ∨ ∃ g, v.ownBlock = some g ∧ B ≤ g ∧ g < W.heap.size := by
  rcases h.2 with ⟨q, _⟩ | ⟨g, cap, cur, q, hB, hg, _⟩
  · left; rw [q]; rfl
  · right; exact ⟨g, by rw [q]; rfl, hB, (Array.getElem?_eq_some_iff.1 hg).1⟩
theorem own_belG {W W' : World} {B : Nat} {e : TypeId} {s n : Nat} {v : Value} {xs : List Value} (h : W.ownsRow B e s v n xs) (hb : Below W.heap.size W W') : W'.ownsRow B e s v n xs := World.ownsRow.kept (row := none) h (grown_bel hb) (by cases e : v.ownBlock <;> simp)
theorem own_leG {W : World} {B B' : Nat} {e : TypeId} {s n : Nat} {v : Value} {xs : List Value} (h : W.ownsRow B e s v n xs) (hb : B' ≤ B) : W.ownsRow B' e s v n xs := by
  refine ⟨h.1, ?_⟩
  rcases h.2 with k | ⟨g, cap, cur, hv, hB, hrest⟩
  · exact Or.inl k
  · exact Or.inr ⟨g, cap, cur, hv, by omega, hrest⟩
/-- All but some blocks stay. -/
structure Chg (S : Nat → Prop) (W W' : World) : Prop where
  os : W'.os = W.os
  tape : W'.tape = W.tape
  output : W'.output = W.output
  size : W.heap.size ≤ W'.heap.size
  block : ∀ k, k < W.heap.size → ¬ S k → W'.heap[k]? = W.heap[k]?
theorem Chg.refl (S : Nat → Prop) (W : World) : Chg S W W := ⟨rfl, rfl, rfl, Nat.le_refl _, fun _ _ _ => rfl⟩
theorem Chg.trans {S S' : Nat → Prop} {a b c : World} (h : Chg S a b) (k : Chg S' b c) (hs : ∀ x, S' x → S x ∨ a.heap.size ≤ x) : Chg S a c :=
  ⟨k.os.trans h.os, k.tape.trans h.tape, k.output.trans h.output, Nat.le_trans h.size k.size, fun j hj hn => (k.block j (Nat.lt_of_lt_of_le hj h.size) (fun q => by rcases hs j q with r | r; exact hn r; omega)).trans (h.block j hj hn)⟩
theorem Chg.of_below {S : Nat → Prop} {a b : World} (h : Below a.heap.size a b) : Chg S a b := ⟨h.os, h.tape, h.output, h.size, fun k hk _ => h.block k hk⟩
theorem Chg.row {S : Nat → Prop} {W W' : World} {B : Nat} {e : TypeId} {s n : Nat} {v : Value} {xs : List Value} (k : Chg S W W') (h : W.ownsRow B e s v n xs) (hS : ∀ x, v.ownBlock = some x → ¬ S x) : W'.ownsRow B e s v n xs := by
  refine ⟨h.1, ?_⟩
  rcases h.2 with hn | ⟨g, cap, cur, rfl, hb, hgg, rest⟩
  · exact .inl hn
  · exact .inr ⟨g, cap, cur, rfl, hb, (k.block g (Array.getElem?_eq_some_iff.1 hgg).1 (hS g rfl)).trans hgg, rest⟩
theorem Chg.at_ {S : Nat → Prop} {W W' : World} {p : Nat} {o : Obj} (k : Chg S W W') (h : W.heap[p]? = some o) (hS : ¬ S p) : W'.heap[p]? = some o := (k.block p (Array.getElem?_eq_some_iff.1 h).1 hS).trans h
theorem Chg.below {S : Nat → Prop} {B : Nat} {a b : World} (k : Chg S a b) (hB : B ≤ a.heap.size) (hS : ∀ x, S x → B ≤ x) : Below B a b := ⟨k.os, k.tape, k.output, k.size, fun j hj => k.block j (by omega) (fun q => by have := hS j q; omega)⟩
end Go.Proofs.YtfnohbalkpponaaGreatDoor.Po
/- WHICH NUMBERS ARE FREE, as bits. Own work of the verifier. -/
namespace Go.Proofs.YtfnohbalkpponaaGreatDoor.Po

/-- Of each number whether it is taken: the bits of those that are not. -/
def mask : List Bool → Nat
  | [] => 0
  | t :: r => (if t then 0 else 1) + 2 * mask r
theorem mask_lt : ∀ T : List Bool, mask T < 2 ^ T.length
  | [] => by simp [mask]
  | t :: r => by
    have := mask_lt r
    rw [mask, List.length_cons, Nat.pow_succ]
    split <;> omega
theorem mask_small {T : List Bool} (h : T.length ≤ 16) : mask T < 65536 := by
  have h1 := mask_lt T
  have h2 : 2 ^ T.length ≤ 2 ^ 16 := Nat.pow_le_pow_right (by decide) h
  omega
theorem mask_bit : ∀ (T : List Bool) (i : Nat), (mask T).testBit i = decide (T[i]? = some false)
  | [], i => by simp [mask]
  | t :: r, 0 => by
    rw [mask, Nat.testBit_zero]
    cases t <;> simp [Nat.add_mod]
  | t :: r, i + 1 => by
    rw [mask, Nat.testBit_succ, List.getElem?_cons_succ, ← mask_bit r i]
    congr 1
    split <;> omega
theorem two_lt {i : Nat} (h : i ≤ 16) : 2 ^ i ≤ 65536 := by
  have : 2 ^ i ≤ 2 ^ 16 := Nat.pow_le_pow_right (by decide) h
  omega
theorem mask_and (T : List Bool) (i : Nat) : mask T &&& 2 ^ i = if T[i]? = some false then 2 ^ i else 0 := by
  apply Nat.eq_of_testBit_eq
  intro j
  rw [Nat.testBit_and, mask_bit, Nat.testBit_two_pow]
  by_cases e : i = j
  · subst e
    split <;> rename_i h <;> simp [h]
  · split <;> simp [e]
theorem mask_take (T : List Bool) (i : Nat) (hi : i < T.length) (h : T.length ≤ 16) : mask T &&& (18446744073709551615 - 2 ^ i) = mask (T.set i true) := by
  apply Nat.eq_of_testBit_eq
  intro j
  rw [Nat.testBit_and, mask_bit, mask_bit]
  have h1 : 2 ^ i < 2 ^ 64 := Nat.pow_lt_pow_right (by decide) (by omega)
  have e : 18446744073709551615 - 2 ^ i = 2 ^ 64 - (2 ^ i + 1) := by omega
  rw [e, Nat.testBit_two_pow_sub_succ h1, Nat.testBit_two_pow]
  by_cases hj : j < T.length
  · by_cases e : i = j
    · subst e
      simp [hj]
    · rw [List.getElem?_set_ne e]
      have : j < 64 := by omega
      simp [e, this]
  · rw [List.getElem?_eq_none (by omega), List.getElem?_eq_none (by simp; omega)]
    simp
theorem mask_new (n : Nat) : mask (List.replicate n false) = 2 ^ n - 1 := by
  induction n with
  | zero => rfl
  | succ n ih =>
    rw [List.replicate_succ, mask, ih, Nat.pow_succ]
    have : 0 < 2 ^ n := Nat.two_pow_pos _
    simp
    omega
/-- The least that is free. -/
def fst (T : List Bool) : Nat := T.findIdx (fun t => !t)
theorem fst_eq {T : List Bool} {i : Nat} (h : i < T.length) (hi : T[i] = false) (hb : ∀ j, j < i → T[j]? = some true) : fst T = i := by
  unfold fst
  rw [List.findIdx_eq h]
  refine ⟨by simp [hi], fun j hj => ?_⟩
  have := hb j hj
  rw [List.getElem?_eq_getElem (by omega)] at this
  simp at this
  simp [this]
theorem fst_none {T : List Bool} (hb : ∀ j, j < T.length → T[j]? = some true) : fst T = T.length := by
  unfold fst
  rw [List.findIdx_eq_length]
  intro x hx
  obtain ⟨j, hj, rfl⟩ := List.getElem_of_mem hx
  have := hb j hj
  rw [List.getElem?_eq_getElem hj] at this
  simp at this
  simp [this]
/-- Those that are free, rising, from a number on. -/
def fr : Nat → List Bool → List Int
  | _, [] => []
  | k, t :: r => if t then fr (k + 1) r else (k : Int) :: fr (k + 1) r
end Go.Proofs.YtfnohbalkpponaaGreatDoor.Po
/- THE CODE'S POOL. Own work of the verifier. -/
namespace Go.Proofs.YtfnohbalkpponaaGreatDoor.Po
open Go.RowKit

abbrev two (a : Nat) (e : Int) : Ending := .returned (.tuple #[.int .i64 (a : Int), .int .i64 e])
theorem bit_any (n : Nat) (h : n ≤ 16) (w : World) : Calls Tryz.prog 48 #[.int .i64 (n : Int)] w fun e w' => e = .returned (.int .u64 ((2 ^ n : Nat) : Int)) ∧ w' = w := by
  have c1 : (0 : Int) ≤ (n : Int) := by omega
  have h2 := two_lt h
  have hw : (2 : Int) ^ n = ((2 ^ n : Nat) : Int) := by simp
  have hz : IntKind.u64.wrap ((2 : Int) ^ n) = ((2 ^ n : Nat) : Int) := by
    rw [hw, IntKind.wrap_u64]
    generalize 2 ^ n = k at *
    omega
  have HW := hid_of hz
  clear hw hz
  go_enter Tryz.func48, Tryz.ntmps48
  go_wp2
  go_ret
  exact ⟨retI HW.out, rfl⟩
/-- What Take tells. -/
def tk (T : List Bool) : Ending := if fst T < T.length then two (fst T) 0 else two 0 14
theorem tk_yes {T : List Bool} {i : Nat} (h : fst T = i) (hi : i < T.length) : two i 0 = tk T := by unfold tk; rw [h, if_pos hi]
theorem tk_no {T : List Bool} (h : fst T = T.length) : two 0 14 = tk T := by unfold tk; rw [h, if_neg (by omega)]
/-- A pool in memory. -/
def CP (W : World) (b : Nat) (T : List Bool) : Prop := W.heap[b]? = some (.cells #[.int .i64 (T.length : Int), .int .u64 (mask T : Int)] 142 (0, 0))
theorem CP.c0 {W : World} {b : Nat} {T : List Bool} (h : CP W b T) : W.cell? ⟨b, 0, none⟩ = some (.int .i64 (T.length : Int)) := by unfold CP at h; simp [World.cell?, h]
theorem CP.c1 {W : World} {b : Nat} {T : List Bool} (h : CP W b T) : W.cell? ⟨b, 1, none⟩ = some (.int .u64 (mask T : Int)) := by unfold CP at h; simp [World.cell?, h]
theorem CP.fr {W : World} {b : Nat} {T : List Bool} (h : CP W b T) (i : Nat) : W.frozen? ⟨b, i, none⟩ = false := by unfold CP at h; simp [World.frozen?, h]
theorem CP.lt {W : World} {b : Nat} {T : List Bool} (h : CP W b T) : b < W.heap.size := (Array.getElem?_eq_some_iff.1 h).1
theorem CP.chg {W W' : World} {b : Nat} {T : List Bool} {S : Nat → Prop} (h : CP W b T) (k : Chg S W W') (hS : ¬ S b) : CP W' b T := k.at_ h hS
theorem CP.bel {W W' : World} {b : Nat} {T : List Bool} (h : CP W b T) (k : Below W.heap.size W W') : CP W' b T := (k.block b h.lt).trans h
theorem CP.set {W : World} {b : Nat} {T T' : List Bool} (h : CP W b T) (hl : T'.length = T.length) : CP (W.setCell ⟨b, 1, none⟩ (.int .u64 (mask T' : Int))) b T' := by
  unfold CP at *
  rw [heap_setCell_same W b 1 _ _ _ h, hl]
  rfl
theorem CP.drewN {W : World} {b : Nat} {T : List Bool} (h : CP W b T) (n : Nat) : CP (W.drewN n) b T := h.bel (by
  induction n with
  | zero => exact Below.refl _ _
  | succ n ih => exact ⟨ih.os, ih.tape, ih.output, ih.size, ih.block⟩)
theorem bel_drewN {B : Nat} {a w : World} (h : Below B a w) (n : Nat) : Below B a (w.drewN n) := by
  induction n with
  | zero => exact h
  | succ n ih => exact ⟨ih.os, ih.tape, ih.output, ih.size, ih.block⟩
theorem chg_drewN {S : Nat → Prop} {a w : World} (h : Chg S a w) (n : Nat) : Chg S a (w.drewN n) := by
  induction n with
  | zero => exact h
  | succ n ih => exact ⟨ih.os, ih.tape, ih.output, ih.size, ih.block⟩
theorem chg_set (W : World) (p i : Nat) (u : Value) : Chg (fun y => y = p) W (W.setCell ⟨p, i, none⟩ u) := ⟨rfl, rfl, rfl, by simp, fun k _ hn => Below.heap_setCell _ _ _ _ hn⟩
theorem CP.fin {w W : World} {b q : Nat} {T T' : List Bool} (h : CP W b T) (hc : Chg (fun y => y = b) w W) (hl : T'.length = T.length) (hq : mask T' = q) (n : Nat) :
    CP ((W.drewN n).setCell ⟨b, 1, none⟩ (.int .u64 (q : Int))) b T' ∧ Chg (fun y => y = b) w ((W.drewN n).setCell ⟨b, 1, none⟩ (.int .u64 (q : Int))) := by
  subst hq
  exact ⟨(h.drewN n).set hl, (chg_drewN hc n).trans (chg_set _ b 1 _) (fun _ h => Or.inl h)⟩
theorem and_free (T : List Bool) (i : Nat) (hT : T.length ≤ 16) (hi : i ≤ 16) : bits .and .u64 (mask T : Int) ((2 ^ i : Nat) : Int) = (((if T[i]? = some false then 2 ^ i else 0) : Nat) : Int) := by
  have h1 := mask_small hT
  have h2 := two_lt hi
  rw [u64_and_nat _ _ (by omega) (by omega), mask_and]
/-- Whether one is free. -/
theorem isFree_yes (b i : Nat) (T : List Bool) (w : World) (h : CP w b T) (hT : T.length ≤ 16) (hi : i < T.length) (hf : T[i]? = some false) :
    Calls Tryz.prog 65 #[.pointer (some ⟨b, 0, none⟩), .int .i64 (i : Int)] w fun e w' => e = .returned (.bool true) ∧ ∃ n, w' = w.drewN n := by
  have HB : Hid (∀ W, _) := bit_any i (by omega)
  have ha := and_free T i hT (by omega)
  rw [if_pos hf] at ha
  have c1 := h.c1
  have hp := Nat.two_pow_pos i
  generalize mask T = m at *
  generalize 2 ^ i = t at *
  clear hf h
  go_enter Tryz.func65, Tryz.ntmps65
  go_upto_region 1 with fail
  go_quiet ((go_at_call 48; exact Calls.quiet_of_same (HB.out _)))
  go_wp2_with fail
  go_ret
  exact ⟨retB (by simp; omega), nq, rfl⟩
theorem isFree_no (b i : Nat) (T : List Bool) (w : World) (h : CP w b T) (hT : T.length ≤ 16) (hi : i < T.length) (hf : T[i]? = some true) :
    Calls Tryz.prog 65 #[.pointer (some ⟨b, 0, none⟩), .int .i64 (i : Int)] w fun e w' => e = .returned (.bool false) ∧ ∃ n, w' = w.drewN n := by
  have HB : Hid (∀ W, _) := bit_any i (by omega)
  have ha := and_free T i hT (by omega)
  rw [if_neg (by rw [hf]; decide)] at ha
  have c1 := h.c1
  generalize mask T = m at *
  generalize 2 ^ i = t at *
  clear hf h
  go_enter Tryz.func65, Tryz.ntmps65
  go_upto_region 1 with fail
  go_quiet ((go_at_call 48; exact Calls.quiet_of_same (HB.out _)))
  go_wp2_with fail
  go_ret
  exact ⟨rfl, nq, rfl⟩
theorem take_free (T : List Bool) (i : Nat) (hi : i < T.length) (hT : T.length ≤ 16) : bits .andNot .u64 (mask T : Int) ((2 ^ i : Nat) : Int) = (mask (T.set i true) : Int) := by
  have h1 := mask_small hT
  have h2 := two_lt (i := i) (by omega)
  rw [u64_andNot_nat _ _ (by omega) (by omega), mask_take T i hi hT]
set_option maxHeartbeats 1000000 in
theorem take_any (b : Nat) (T : List Bool) (w : World) (h : CP w b T) (hT : T.length ≤ 16) :
    Calls Tryz.prog 33 #[.pointer (some ⟨b, 0, none⟩)] w fun e w' => e = tk T ∧ CP w' b (T.set (fst T) true) ∧ Chg (fun y => y = b) w w' := by
  have c0 := h.c0
  have H : Hid (CP w b T) := h
  clear h
  go_enter Tryz.func33, Tryz.ntmps33
  go_upto_region 2 with fail
  clear c0
  go_loopw [9] (fun x W => ∃ i n : Nat, i ≤ T.length ∧ x = .int .i64 (i : Int) ∧ W = w.drewN n ∧ Hid (∀ j, j < i → T[j]? = some true)) (fun x _ => T.length - (intOf x).toNat)
  case atStart => exact ⟨0, 0, by omega, rfl, rfl, fun j hj => by omega⟩
  case round =>
    obtain ⟨i, n, hi, rfl, rfl, HJ⟩ := hrel
    by_cases hlt : i < T.length
    · have hlt' : (i : Int) < (T.length : Int) := by omega
      by_cases hf : T[i] = false
      · have hf' : T[i]? = some false := by rw [List.getElem?_eq_getElem hlt, hf]
        have HF : Hid (∀ W, CP W b T → _) := fun W hW => isFree_yes b i T W hW hT hlt hf'
        have he := hid_of (fst_eq hlt hf HJ.out)
        have HB : Hid (∀ W, _) := bit_any i (by omega)
        have hm := take_free T i hlt hT
        have hlen : Hid ((T.set i true).length = T.length) := List.length_set
        clear hf hf' HJ
        go_upto_region 5 with (go_at_call 65; with_reducible refine (HF.out _ (H.out.drewN n)).mono ?_; rintro e w1 ⟨rfl, m, rfl⟩)
        have H1 := hid_of (H.out.drewN (n + m))
        have HC1 := hid_of (chg_drewN (Chg.refl (fun y => y = b) w) (n + m))
        generalize w.drewN (n + m) = w1 at *
        have c1 := H1.out.c1
        have f1 := H1.out.fr 1
        have HT : Hid (mask T < 18446744073709551616) := by have := mask_small hT; unfold Hid; omega
        have HP : Hid (2 ^ i < 18446744073709551616) := by have := two_lt (i := i) (by omega); unfold Hid; omega
        generalize hq : mask (T.set i true) = q at *
        have HQ := hid_of hq
        generalize hmt : mask T = mt at *
        generalize hpt : 2 ^ i = pt at *
        clear hq hmt hpt
        go_region_with (go_at_call 48; with_reducible refine (HB.out _).mono ?_; rintro e w9 ⟨rfl, rfl⟩)
        all_goals
          go_wp2_with fail
          go_ret2
          rw [he.out]
          exact ⟨tk_yes he.out hlt, H1.out.fin HC1.out hlen.out HQ.out 1⟩
      · have hf' : T[i]? = some true := by rw [List.getElem?_eq_getElem hlt]; simpa using hf
        have HF : Hid (∀ W, CP W b T → _) := fun W hW => isFree_no b i T W hW hT hlt hf'
        have HJn : Hid (∀ j, j < i + 1 → T[j]? = some true) := fun j hj => by
          rcases Nat.lt_succ_iff_lt_or_eq.1 hj with k | k
          · exact HJ.out j k
          · rw [k]; exact hf'
        clear hf hf' HJ
        go_wp2_with (go_at_call 65; with_reducible refine (HF.out _ (H.out.drewN n)).mono ?_; rintro e w1 ⟨rfl, m, rfl⟩)
        exact ⟨⟨i + 1, n + m, by omega, by go_num, by simp, HJn⟩, by simp [intOf]; omega⟩
    · have hlt' : ¬ (i : Int) < (T.length : Int) := by omega
      have hie : i = T.length := by omega
      subst hie
      have he := hid_of (fst_none HJ.out)
      clear HJ
      go_wp2_with fail
      go_ret2
      rw [he.out, List.set_eq_of_length_le (Nat.le_refl _)]
      exact ⟨tk_no he.out, H.out.drewN n, chg_drewN (Chg.refl _ w) n⟩
theorem new_ok (n : Nat) (h1 : 1 ≤ n) (h2 : n ≤ 16) (w : World) : Calls Tryz.prog 19 #[.int .i64 (n : Int)] w fun e w' => e = .returned (.tuple #[.pointer (some ⟨w.heap.size, 0, none⟩), .int .i64 0]) ∧ CP w' w.heap.size (List.replicate n false) ∧ Below w.heap.size w w' := by
  have HB : Hid (∀ W, _) := bit_any n h2
  have d1 : ¬ (n : Int) < 1 := by omega
  have d2 : ¬ 16 < (n : Int) := by omega
  have hm := mask_new n
  have h3 := two_lt h2
  have h4 := Nat.two_pow_pos n
  have HM : Hid (mask (List.replicate n false) = 2 ^ n - 1) := hm
  clear hm
  generalize 2 ^ n = pt at *
  have hw : IntKind.u64.wrap ((pt : Int) - 1) = ((pt - 1 : Nat) : Int) := by rw [IntKind.wrap_u64]; omega
  have hp : (1 : Int) ≤ (pt : Int) := by omega
  go_enter Tryz.func19, Tryz.ntmps19
  go_wp2_with (go_at_call 48; with_reducible refine (HB.out _).mono ?_; rintro e w9 ⟨rfl, rfl⟩)
  go_ret2
  refine ⟨rfl, ?_, bel1 _ _⟩
  unfold CP
  rw [HM.out, List.length_replicate]
  exact new_1 _ _
end Go.Proofs.YtfnohbalkpponaaGreatDoor.Po
