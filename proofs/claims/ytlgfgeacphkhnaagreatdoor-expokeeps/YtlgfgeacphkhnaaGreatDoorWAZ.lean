/- MEMORY. Own work of the verifier. -/
import Derived.Test.YtlgfgeacphkhnaaGreatDoorRows
import Derived.WalkKit
import Derived.WalkSpells
import Derived.RowKit3
import Derived.Below
import Derived.Outline
import Derived.Deep.QuietTactic
import Derived.Deep.Draws
import Derived.BigQuiet
import Derived.Laws.Bits64
import Derived.Laws.BitsAllLaws
import Derived.Laws.ShiftsVarLaws
import Derived.Deep.RegionHeld3
import Derived.Deep.DeepCutAuto
import Derived.Laws.OwnMore
import Derived.OwnWalk
import Derived.Test.YtlgfgeacphkhnaaGreatDoorWAJ
import Derived.Test.YtlgfgeacphkhnaaGreatDoorWAC
import Derived.Lib.AppendStr
import Derived.Lib.BufferKept
import Derived.Test.YtlgfgeacphkhnaaGreatDoorWAK
import Derived.Laws.Externs
import Derived.Test.YtlgfgeacphkhnaaGreatDoorWAQ
namespace Go.Proofs.YtlgfgeacphkhnaaGreatDoor.Me
open Go.RowKit

theorem bel1 (w : World) (o1 : Obj) : Below w.heap.size w (w.alloc o1) := (Below.refl _ _).alloc (Nat.le_refl _) _
theorem bt {w W W1 : World} (h : Below w.heap.size w W) (k : Below W.heap.size W W1) : Below w.heap.size w W1 := h.trans (k.mono h.size)
theorem new_1 (w : World) (o : Obj) : (w.alloc o).heap[w.heap.size]? = some o := by
 show (w.heap.push _)[w.heap.size]? = _
 simp
theorem hid_of {p : Prop} (h : p) : Hid p := h
theorem retB {A B : Bool} (h : A = B) : Ending.returned (Value.bool A) = .returned (.bool B) := by rw [h]
theorem heap_other (w : World) (a : Addr) (k : Nat) (u : Value) (h : k ≠ a.block) : (w.setCell a u).heap[k]? = w.heap[k]? := Below.heap_setCell _ _ _ _ h
theorem bel_drewB {B : Nat} {a w : World} (h : Below B a w) : Below B a w.drew := ⟨h.os, h.tape, h.output, h.size, h.block⟩
theorem append_two {P : Program} (w : World) (base : Nat) (t ty e : TypeId) (i : TypeInfo) (z : Value) (size bytes : Nat) (ht : P.underlying t = some (.slice e)) (hi : P.info? e = some i) (hz : i.zero = some z)
    (hsize : i.size = size) (hby : i.bytes = bytes) (hzs : z.cells.size = size)
    (v : Value) (n : Nat) (xs : List Value) (hown : w.ownsRow base e size v n xs)
    (a : Addr) (m c : Nat) (news : List Value) (hl : news.length = m * size) (hnews : ∀ j u, news[j]? = some u → w.cell? (a.add j) = some u) (h1 : ∀ u ∈ news, u.oneCell' = true)
    (hm : 0 < m) (h63 : n + m ≤ maxLen) (hbytes : (n + m) * bytes ≤ 140737488355328) :
    ∃ v' w', (Builtin.append_ #[t, t] ty #[v, .slice (some a) m c]).run P w = .ok v' w' ∧
      ((∃ g cap, v = .slice (some ⟨g, 0, none⟩) n cap ∧ v' = .slice (some ⟨g, 0, none⟩) (n + m) cap ∧ w'.ownsRow base e size v' (n + m) (xs ++ news) ∧ w.grownBy w' (some g)) ∨
       (w'.ownsRow w.heap.size e size v' (n + m) (xs ++ news) ∧ Below w.heap.size w w')) := by
  subst hsize
  subst hby
  have hsmall : n + m ≤ 9223372036854775807 := by simp only [maxLen] at h63; omega
  have hlen : (xs ++ news).length = (n + m) * i.size := by rw [List.length_append, hown.1, hl, Nat.add_mul]
  have grown : ∀ (old : Nat),
      (w.drew.alloc (.cells (xs.toArray ++ news.toArray ++ Builtin.zeroCells z.cells (grownCap w (n + m) old e - (n + m))) e)).ownsRow w.heap.size e i.size
        (.slice (some ⟨w.heap.size, 0, none⟩) (n + m) (grownCap w (n + m) old e)) (n + m) (xs ++ news) ∧
      Below w.heap.size w (w.drew.alloc (.cells (xs.toArray ++ news.toArray ++ Builtin.zeroCells z.cells (grownCap w (n + m) old e - (n + m))) e)) := by
    intro old
    have hge := grownCap_ge w (n + m) old e
    have hcm : grownCap w (n + m) old e ≤ maxLen := grownCap_le_maxLen w (n + m) old e h63
    refine ⟨⟨hlen, .inr ⟨w.heap.size, _, xs.toArray ++ news.toArray ++ Builtin.zeroCells z.cells (grownCap w (n + m) old e - (n + m)), rfl, Nat.le_refl _, ?_, hge, hcm, ?_, ?_⟩⟩, (bel_drewB (Below.refl _ _)).alloc (Nat.le_refl _) _⟩
    · show (w.heap.push _)[w.heap.size]? = _
      simp
    · simp only [Array.size_append, List.size_toArray, size_zeroCells, hzs, hown.1, hl, ← Nat.add_mul]
      congr 1
      omega
    · simp only [Array.toList_append, List.append_assoc]
      rw [← List.append_assoc, ← hlen]
      exact List.take_left
  rcases hown.2 with ⟨rfl, rfl⟩ | ⟨g, cap, cur, rfl, hbg, hg, hnc, hcm, hcs, htake⟩
  · have hx : xs = [] := List.eq_nil_of_length_eq_zero (by simpa using hown.1)
    subst hx
    have hr := run_append_nil (P := P) w t ty e i z ht hi hz a m c news hl hnews (by omega) (by omega) (by have hb := hbytes; simp only [Nat.zero_add] at hb; omega)
    have hgr := grown 0
    simp only [Nat.zero_add, List.nil_append, Array.empty_append] at hgr ⊢
    exact ⟨_, _, hr, Or.inr hgr⟩
  · by_cases hroom : n + m ≤ cap
    · obtain ⟨w', k1, k2, k3⟩ := run_append_fits (P := P) w base t ty e i i.size ht hi rfl g n cap xs hown a m c news hl hnews h1 hroom
      exact ⟨_, w', k1, Or.inl ⟨g, cap, rfl, rfl, k2, k3⟩⟩
    · have holds : ∀ j u, xs[j]? = some u → w.cell? ((⟨g, 0, none⟩ : Addr).add j) = some u := hown.cells (g := g) rfl
      have hr := run_append_grow (P := P) w t ty e i z ht hi hz ⟨g, 0, none⟩ n cap xs hown.1 holds a m c news hl hnews (by omega) (by omega) (growslice_fits (by omega) hbytes)
      exact ⟨_, _, hr, Or.inr (grown cap)⟩
theorem wpList_append_two {P : Program} (w : World) {ops : Array Oper} {rest : List Oper} {o : Oper} {a : Act} {Q : Exit → Act → World → Prop} (hgd : o.guard = none) (s x : Operand) (t : TypeId)
  (ho : o.op = .call { callee := .builtin .append, args := #[s, x], argTypes := #[t, t] })
  (base : Nat) (e : TypeId) (i : TypeInfo) (z : Value) (size bytes : Nat) (ht : P.underlying t = some (.slice e)) (hi : P.info? e = some i) (hz : i.zero = some z)
  (hsize : i.size = size) (hby : i.bytes = bytes) (hzs : z.cells.size = size)
  (v : Value) (n : Nat) (xs : List Value) (hs : a.eval s = v) (hown : w.ownsRow base e size v n xs)
  (ad : Addr) (m c : Nat) (news : List Value) (hx : a.eval x = .slice (some ad) m c) (hl : news.length = m * size) (hnews : ∀ j u, news[j]? = some u → w.cell? (ad.add j) = some u) (h1 : ∀ u ∈ news, u.oneCell' = true)
  (hm : 0 < m) (h63 : n + m ≤ maxLen) (hbytes : (n + m) * bytes ≤ 140737488355328)
  (h : ∀ v' w', ((∃ g cap, v = .slice (some ⟨g, 0, none⟩) n cap ∧ v' = .slice (some ⟨g, 0, none⟩) (n + m) cap ∧ w'.ownsRow base e size v' (n + m) (xs ++ news) ∧ w.grownBy w' (some g)) ∨ (w'.ownsRow w.heap.size e size v' (n + m) (xs ++ news) ∧ Below w.heap.size w w')) → wpList P ops Q rest (a.put o.dst v') w') :
  wpList P ops Q (o :: rest) a w := by
 refine wpList_plain hgd fun K hK => ?_
 obtain ⟨v', w', hr, h2⟩ := append_two (P := P) w base t o.type e i z size bytes ht hi hz hsize hby hzs v n xs hown ad m c news hl hnews h1 hm h63 hbytes
 unfold Oper.wp execOp
 simp only [ho, resolve, invoke, builtin, Sem.run_bind, Sem.run_pure, Result.andThen_ok, List.map_toArray, List.map_cons, List.map_nil, hs, hx, hr]
 exact hK _ _ (h v' w' h2)
theorem own_take {W : World} {B : Nat} {e : TypeId} {size g N n cap : Nat} {xs : List Value} (h : W.ownsRow B e size (.slice (some ⟨g, 0, none⟩) N cap) N xs) (hn : n ≤ N) : W.ownsRow B e size (.slice (some ⟨g, 0, none⟩) n cap) n (xs.take (n * size)) := by
 rcases h.2 with ⟨h', _⟩ | ⟨g', cap', cur, h', hb, hg, h3, h4, h5, h6⟩
 ·cases h'
 ·cases h'
  refine ⟨?_, Or.inr ⟨g, cap, cur, rfl, hb, hg, by omega, h4, h5, ?_⟩⟩
  ·rw [List.length_take, h.1]
   exact Nat.min_eq_left (Nat.mul_le_mul_right _ hn)
  ·rw [← h6, List.take_take]
   congr 1
   exact (Nat.min_eq_left (Nat.mul_le_mul_right _ hn)).symm
theorem own_apart {W : World} {B B' : Nat} {e e' : TypeId} {s s' : Nat} {v v' : Value} {n n' : Nat} {xs xs' : List Value} (h : W.ownsRow B e s v n xs) (h' : W.ownsRow B' e' s' v' n' xs') (hne : e ≠ e') : v.ownBlock = none ∨ v.ownBlock ≠ v'.ownBlock := by
 rcases h.2 with ⟨k, _⟩ | ⟨g1, c1, cur, k, _, hg, _⟩
 ·left; rw [k]; rfl
 right
 rcases h'.2 with ⟨k', _⟩ | ⟨g2, c2, cur', k', _, hg', _⟩
 ·rw [k, k']; simp [Value.ownBlock]
 ·rw [k, k']
  intro e1
  simp only [Value.ownBlock, Option.some.injEq] at e1
  subst e1
  rw [hg] at hg'
  cases hg'
  exact hne rfl
theorem grown_bel {a b : World} {row : Option Nat} (h : Below a.heap.size a b) : a.grownBy b row := ⟨h.os, h.tape, h.output, h.size, fun k hk _ => h.block k hk⟩
theorem own_atG {W : World} {B : Nat} {e : TypeId} {s n : Nat} {v : Value} {xs : List Value} (h : W.ownsRow B e s v n xs) : v.ownBlock = none ∨ ∃ g, v.ownBlock = some g ∧ B ≤ g ∧ g < W.heap.size := by
 rcases h.2 with ⟨q, _⟩ | ⟨g, cap, cur, q, hB, hg, _⟩
 ·left; rw [q]; rfl
 ·right; exact ⟨g, by rw [q]; rfl, hB, (Array.getElem?_eq_some_iff.1 hg).1⟩
theorem own_belG {W W' : World} {B : Nat} {e : TypeId} {s n : Nat} {v : Value} {xs : List Value} (h : W.ownsRow B e s v n xs) (hb : Below W.heap.size W W') : W'.ownsRow B e s v n xs := World.ownsRow.kept (row := none) h (grown_bel hb) (by cases e : v.ownBlock <;> simp)
theorem own_leG {W : World} {B B' : Nat} {e : TypeId} {s n : Nat} {v : Value} {xs : List Value} (h : W.ownsRow B e s v n xs) (hb : B' ≤ B) : W.ownsRow B' e s v n xs := by
 refine ⟨h.1, ?_⟩
 rcases h.2 with k | ⟨g, cap, cur, hv, hB, hrest⟩
 ·exact Or.inl k
 ·exact Or.inr ⟨g, cap, cur, hv, by omega, hrest⟩
theorem own_notype {W : World} {B p : Nat} {e t : TypeId} {s n : Nat} {v : Value} {xs : List Value} {cs : Array Value} {z : Nat × Nat} (h : W.ownsRow B e s v n xs) (hp : W.heap[p]? = some (.cells cs t z)) (hne : e ≠ t) : v.ownBlock ≠ some p := by
 rcases h.2 with ⟨k, _⟩ | ⟨g1, c1, cur, k, _, hg, _⟩
 ·rw [k]; simp [Value.ownBlock]
 ·rw [k]
  intro e1
  simp only [Value.ownBlock, Option.some.injEq] at e1
  subst e1
  rw [hg] at hp
  cases hp
  exact hne rfl
end Go.Proofs.YtlgfgeacphkhnaaGreatDoor.Me
/- THE PAGE: a text that grows; line. Own work of the verifier. -/
namespace Go.Proofs.YtlgfgeacphkhnaaGreatDoor
open Go.RowKit Me

structure Pg (u : World) (pb : Nat) (w0 : World) (p : Int) (T : List UInt8) (W : World) : Prop where
 at_ : ∃ ao cap, W.heap[pb]? = some (.cells #[.int .i64 p, .slice ao T.length cap] 55) ∧ W.ownsRow u.heap.size 5 1 (.slice ao T.length cap) T.length (Lib.byteCells T)
 lo : u.heap.size ≤ pb
 st : Below u.heap.size u W
 ok : Lib.OthersKept 5 (some pb) w0 W
theorem Pg.sz {u : World} {pb : Nat} {w0 W : World} {p : Int} {T : List UInt8} (h : Pg u pb w0 p T W) : u.heap.size ≤ W.heap.size := h.st.size
theorem own_slice8 {W : World} {B : Nat} {e : TypeId} {v : Value} {n : Nat} {xs : List Value} (h : W.ownsRow B e 1 v n xs) : ∃ ao cap, v = .slice ao n cap := by
 rcases h.2 with ⟨k, k2⟩ | ⟨g, cap, cur, k, _⟩
 ·exact ⟨none, 0, by rw [k, k2]⟩
 ·exact ⟨_, cap, k⟩
theorem own_kind8 {W : World} {B : Nat} {e : TypeId} {v : Value} {n : Nat} {xs : List Value} (h : W.ownsRow B e 1 v n xs) : ∀ g, v.ownBlock = some g → ∃ c fz, W.heap[g]? = some (.cells c e fz) := by
 intro g hg
 rcases h.2 with ⟨rfl, _⟩ | ⟨g', cap, cur, rfl, _, hgg, _⟩
 ·simp [Value.ownBlock] at hg
 ·simp [Value.ownBlock] at hg
  subst hg
  exact ⟨cur, _, hgg⟩
theorem Pg.re {u : World} {pb : Nat} {w0 W : World} {p : Int} {T : List UInt8} (h : Pg u pb w0 p T W) : Pg u pb W p T W := ⟨h.at_, h.lo, h.st, Lib.OthersKept.refl _ _ _⟩
theorem Pg.then {u : World} {pb : Nat} {w0 W W1 : World} {p : Int} {T T1 : List UInt8} (h : Pg u pb w0 p T W) (k : Pg u pb W p T1 W1) : Pg u pb w0 p T1 W1 := ⟨k.at_, h.lo, k.st, h.ok.trans k.ok⟩
theorem Pg.lt {u : World} {pb : Nat} {w0 W : World} {p : Int} {T : List UInt8} (h : Pg u pb w0 p T W) : pb < W.heap.size := by
 obtain ⟨ao, cap, h1, _⟩ := h.at_
 exact (Array.getElem?_eq_some_iff.1 h1).1
theorem Pg.below {u : World} {pb : Nat} {w0 W W1 : World} {p : Int} {T : List UInt8} (h : Pg u pb w0 p T W) (hb : Below W.heap.size W W1) : Pg u pb w0 p T W1 := by
 obtain ⟨ao, cap, h1, h2⟩ := h.at_
 exact ⟨⟨ao, cap, (hb.block pb h.lt).trans h1, own_belG h2 hb⟩, h.lo, bt h.st hb, h.ok.below hb⟩
theorem Pg.alloc {u : World} {pb : Nat} {w0 W : World} {p : Int} {T : List UInt8} (h : Pg u pb w0 p T W) (o : Obj) : Pg u pb w0 p T (W.alloc o) := h.below (bel1 W o)
theorem Pg.cell {u : World} {pb : Nat} {w0 W : World} {p : Int} {T : List UInt8} (h : Pg u pb w0 p T W) : ∃ ao cap, W.cell? ⟨pb, 0, none⟩ = some (.int .i64 p) ∧ W.cell? ⟨pb, 1, none⟩ = some (.slice ao T.length cap) ∧ W.frozen? ⟨pb, 1, none⟩ = false ∧ W.ownsRow u.heap.size 5 1 (.slice ao T.length cap) T.length (Lib.byteCells T) := by
 obtain ⟨ao, cap, h1, h2⟩ := h.at_
 exact ⟨ao, cap, by simp [World.cell?, h1], by simp [World.cell?, h1], by simp [World.frozen?, h1], h2⟩
theorem Pg.cells {u : World} {pb g : Nat} {W W1 : World} {p : Int} {T : List UInt8} {cs : Array Value} {t : TypeId} (h : Pg u pb W p T W1) (hg : W.heap[g]? = some (.cells cs t)) (hk : g ≠ pb) (ht : t ≠ 5) : W1.heap[g]? = some (.cells cs t) :=
 h.ok g _ hg (fun e => hk (Option.some.inj e)) (fun c fz e => ht (by injection e))
theorem Pg.put {u : World} {pb : Nat} {w0 W W1 : World} {p : Int} {T S : List UInt8} {ao : Option Addr} {cap : Nat} {v : Value} (h : Pg u pb w0 p T W) (hc : W.cell? ⟨pb, 1, none⟩ = some (.slice ao T.length cap)) (hown : W1.ownsRow u.heap.size 5 1 v (T ++ S).length (Lib.byteCells (T ++ S)))
  (hg : W.grownBy W1 (Value.slice ao T.length cap).ownBlock) : W1.cell? ⟨pb, 1, none⟩ = some (.slice ao T.length cap) ∧ W1.frozen? ⟨pb, 1, none⟩ = false ∧ Pg u pb w0 p (T ++ S) (W1.setCell ⟨pb, 1, none⟩ v) := by
 obtain ⟨ao', cap', h1, h2⟩ := h.at_
 have e : W.cell? ⟨pb, 1, none⟩ = some (.slice ao' T.length cap') := by simp [World.cell?, h1]
 rw [hc] at e
 obtain ⟨rfl, rfl⟩ : ao = ao' ∧ cap = cap' := by simpa using e
 have hne := own_notype h2 h1 (by decide)
 have hb := (hg.block pb h.lt (fun e => hne e.symm)).trans h1
 obtain ⟨a1, c1, rfl⟩ := own_slice8 hown
 have hne1 := own_notype hown hb (by decide)
 have hK := h.ok.grown hg (own_kind8 h2)
 refine ⟨by simp [World.cell?, hb], by simp [World.frozen?, hb], ⟨⟨a1, c1, ?_, ?_⟩, h.lo, ?_, hK.setCell _ rfl _⟩⟩
 ·have := Lib.heap_setCell_same (i := 1) hb (.slice a1 (T ++ S).length c1)
  simpa using this
 ·refine ⟨hown.1, ?_⟩
  rcases hown.2 with k | ⟨g, c2, cur, k1, k2, k3, k4⟩
  ·exact Or.inl k
  ·refine Or.inr ⟨g, c2, cur, k1, k2, ?_, k4⟩
   rw [Below.heap_setCell _ _ _ _ (fun e => hne1 (by rw [k1]; simp only [Value.ownBlock]; exact congrArg some e))]
   exact k3
 ·have hB1 : Below u.heap.size u W1 := ⟨hg.os.trans h.st.os, hg.tape.trans h.st.tape, hg.output.trans h.st.output, Nat.le_trans h.st.size hg.size, fun k hk => by
   rw [hg.block k (by have := h.sz; omega) ?_]
   ·exact h.st.block k hk
   ·intro e
    rcases own_atG h2 with q | ⟨g, q1, q2, _⟩
    ·rw [q] at e; cases e
    ·rw [q1] at e; cases e; omega⟩
  exact hB1.setCell (p := ⟨pb, 1, none⟩) h.lo _
def fitB (T : List UInt8) : Bool := decide ((T.length : Int) ≤ 4194304)
def lnT (S : List (List UInt8)) : List UInt8 := S.flatten ++ [10]
abbrev strV (l : List UInt8) : Value := .string ⟨l.toArray⟩
theorem info8 : (Tryz.prog.info? 5).map (fun i => (i.zero, i.size, i.bytes)) = some (some (.int .u8 0), 1, 1) := by kernel_rfl
theorem flat_step (T : List UInt8) (S : List (List UInt8)) (i : Nat) (h : i < S.length) : T ++ (S.take i).flatten ++ S[i] = T ++ (S.take (i + 1)).flatten ∧ (T ++ (S.take i).flatten).length + S[i].length ≤ T.length + S.flatten.length := by
 have e : (S.take (i + 1)).flatten = (S.take i).flatten ++ S[i] := by rw [List.take_succ_eq_append_getElem h, List.flatten_append]; simp only [List.flatten_cons, List.flatten_nil, List.append_nil]
 refine ⟨by rw [e]; simp, ?_⟩
 have e2 : S.flatten = (S.take (i + 1)).flatten ++ (S.drop (i + 1)).flatten := by rw [← List.flatten_append, List.take_append_drop]
 rw [e2, e]
 simp only [List.length_append]
 omega
set_option maxHeartbeats 4000000 in
set_option maxRecDepth 100000 in
theorem line_any (u : World) (pb sb cap : Nat) (p : Int) (S : List (List UInt8)) (T : List UInt8) (w : World) (h : Pg u pb w p T w) (hs : w.heap[sb]? = some (.cells (S.map strV).toArray 9)) (hl : S.length ≤ 100) (hT : T.length + (lnT S).length ≤ 140737488355328) :
  Calls Tryz.prog 28 #[.pointer (some ⟨pb, 0, none⟩), .slice (some ⟨sb, 0, none⟩) S.length cap] w fun e w' => e = .returned (.bool (fitB (T ++ lnT S))) ∧ Pg u pb w p (T ++ lnT S) w' := by
 obtain ⟨i0, hi0, hz0, hz1, hz2⟩ := info_parts info8
 have HK0 : Hid (Pg u pb w p (T ++ (S.take 0).flatten) w) := by rw [List.take_zero, List.flatten_nil, List.append_nil]; exact h
 have hsb : sb ≠ pb := by
  intro e
  obtain ⟨ao, cap, h1, _⟩ := h.at_
  rw [e, h1] at hs
  injection hs with hs
  injection hs with _ hs
  exact absurd hs (by decide)
 have HSb : Hid (∀ X W, Pg u pb w p X W → W.heap[sb]? = some (.cells (S.map strV).toArray 9)) := fun X W k => k.cells hs hsb (by decide)
 have hTl : T.length + S.flatten.length + 1 ≤ 140737488355328 := by simp [lnT] at hT; simp; omega
 have HTl := hid_of hTl
 obtain ⟨R, hR⟩ : ∃ R, R = T ++ lnT S := ⟨_, rfl⟩
 rw [← hR]
 have HR : Hid (R = T ++ S.flatten ++ [10]) := by show R = _; rw [hR, lnT, List.append_assoc]
 clear hT hTl hsb h hs hR
 go_enter Tryz.func28, Tryz.ntmps28
 go_wp2_with fail
 go_loopw [9] (fun a W => ∃ i : Nat, i ≤ S.length ∧ a = .int .i64 (i : Int) ∧ Hid (Pg u pb w p (T ++ (S.take i).flatten) W)) (fun a _ => S.length - (intOf a).toNat)
 case atStart => exact ⟨0, by omega, rfl, HK0⟩
 case round =>
  clear HK0
  obtain ⟨i, hi, rfl, HK⟩ := hrel
  obtain ⟨ao, c0, q0, q1, q2, q3⟩ := HK.out.cell
  by_cases hlt : i < S.length
  ·have hlt' : (i : Int) < (S.length : Int) := by omega
   have hc : wr.cell? ⟨sb, i, none⟩ = some (strV S[i]) := by
    have := HSb.out _ _ HK.out
    simp [World.cell?, this, hlt]
   obtain ⟨hadd, h63⟩ := flat_step T S i hlt
   have HAdd := hid_of hadd
   have h64 : (T ++ (S.take i).flatten).length + S[i].length ≤ 140737488355328 := by have := HTl.out; omega
   have HQ3 := hid_of q3
   have HPg := hid_of HK.out
   clear hadd h63 q3 HK
   generalize T ++ (S.take i).flatten = X at q1 HQ3 h64 HPg HAdd
   generalize S[i] = s at hc h64 HAdd
   have hsz : (ByteArray.mk s.toArray).size = s.length := by show s.toArray.size = _; simp
   go_wp2_with (at_builtin; refine Lib.wpList_append_own_string _ rfl _ _ 41 9 rfl u.heap.size 5 i0 Tryz.underlying41 Tryz.underlying9 hi0 hz0 hz1 hz2 _ _ _ rfl HQ3.out ⟨s.toArray⟩ rfl ?c1 ?c2 ?c3 ?_)
   case c1 => rw [hsz]; unfold maxLen; omega
   case c2 => rw [hsz]; exact h64
   case c3 => exact HPg.out.sz
   intro v1 w1 o1 g1 n1
   replace o1 : w1.ownsRow u.heap.size 5 1 v1 (X ++ s).length (Lib.byteCells (X ++ s)) := by
    rw [List.length_append, Lib.byteCells_append]
    exact o1
   obtain ⟨a1, c1, rfl⟩ := own_slice8 o1
   obtain ⟨f1, f2, HP⟩ := HPg.out.put (S := s) q1 o1 g1
   have HP1 := hid_of HP
   clear n1 o1 g1 HP
   go_wp2_with fail
   refine ⟨⟨i + 1, by omega, by go_num, ?_⟩, by simp [intOf]; omega⟩
   rw [← HAdd.out]
   have := HP1.out
   simp only [List.length_append] at this
   exact this
  ·have hlt' : ¬ (i : Int) < (S.length : Int) := by omega
   have hX : T ++ (S.take i).flatten = T ++ S.flatten := by rw [List.take_of_length_le (by omega)]
   have h64 : (T ++ S.flatten).length + 1 ≤ 140737488355328 := by have := HTl.out; simp only [List.length_append]; omega
   rw [hX] at q1 q3 HK
   have HPg := hid_of (HK.out.alloc (.cells #[.int .u8 10] 5))
   have HQ3 := hid_of (own_belG q3 (bel1 wr (.cells #[.int .u8 10] 5)))
   have hq1 : (wr.alloc (.cells #[.int .u8 10] 5)).cell? ⟨pb, 1, none⟩ = some (.slice ao (T ++ S.flatten).length c0) := by
    rw [(bel1 wr (.cells #[.int .u8 10] 5)).cell (p := ⟨pb, 1, none⟩) HK.out.lt]; exact q1
   clear HTl HSb hX q3 HK
   generalize T ++ S.flatten = X at *
   go_wp2_with (at_builtin; refine wpList_append_own _ rfl _ _ 41 rfl u.heap.size 5 i0 (.int .u8 0) 1 1 Tryz.underlying41 hi0 hz0 hz1 hz2 rfl (by decide) _ _ _ rfl HQ3.out ⟨wr.heap.size, 0, none⟩ 1 1 [.int .u8 10] rfl rfl ?c1 ?c2 ?c3 ?c4 ?c5 ?_)
   case c2 => rfl
   case c3 => unfold maxLen; omega
   case c5 => have := HPg.out.sz; simpa using this
   intro v1 w1 o1 g1 n1
   replace o1 : w1.ownsRow u.heap.size 5 1 v1 (X ++ [10]).length (Lib.byteCells (X ++ [10])) := by
    rw [List.length_append, Lib.byteCells_append]
    exact o1
   obtain ⟨a1, c1, rfl⟩ := own_slice8 o1
   obtain ⟨f1, f2, HP⟩ := HPg.out.put (S := [10]) hq1 o1 g1
   obtain ⟨a2, c2, d0, d1, _, _⟩ := HP.cell
   have HP1 := hid_of HP
   simp only [List.length_append, List.length_cons, List.length_nil] at d0 d1 f1 f2
   clear n1 o1 g1 HP
   go_wp2_with fail
   go_ret
   have hl : (R.length : Int) = (X.length : Int) + 1 := by rw [HR.out]; simp
   refine ⟨retB (by unfold fitB; rw [hl]), ?_⟩
   have := HP1.out
   simp only [List.length_append, List.length_cons, List.length_nil] at this
   rw [← HR.out] at this
   exact this
end Go.Proofs.YtlgfgeacphkhnaaGreatDoor
/- WHAT THE DOCUMENT'S CALLS TELL, in one place; whoever keeps to it. Own work of the verifier. -/
namespace Go.Proofs.YtlgfgeacphkhnaaGreatDoor
open Go.RowKit

theorem same_sn {w : World} {v v' : Value} {A C : List Cn} (h : SN w v A) (h' : SN w v' C) (hl : A.length ≤ 9223372036854775807) (hl' : C.length ≤ 9223372036854775807) : Calls Tryz.prog 34 #[v, v'] w fun e w' => e = .returned (.bool (decide (A = C))) ∧ Below w.heap.size w w' := by
 obtain ⟨ao, b, o, cap, rfl, hao, hr⟩ := h.sc
 obtain ⟨ao', b', o', cap', rfl, hao', hr'⟩ := h'.sc
 refine Calls.mono (same_any ao b o cap A hao ao' b' o' cap' C hao' hl hl' w hr hr') ?_
 rintro e w' ⟨rfl, n, rfl⟩
 exact ⟨rfl, below_drew w n⟩
end Go.Proofs.YtlgfgeacphkhnaaGreatDoor
/- FLOATS: how they stand, which are finite, the code's and the document's. Own work of the verifier. -/
namespace Go.Proofs.YtlgfgeacphkhnaaGreatDoor.Re
open Go.RowKit Go.Proofs.YtlgfgeacphkhnaaGreatDoor

def isN (x : Nat) : Bool := decide (9218868437227405312 < x % 9223372036854775808)
def ov (x : Nat) : Int := if x < 9223372036854775808 then (x : Int) else 9223372036854775808 - (x : Int)
theorem ov_sw (s : Bool) (a : Nat) (h : a < 9223372036854775808) : ov (sw s a) = sr s a := by
 unfold ov sw sr; cases s <;> simp <;> omega
theorem isN_sw (s : Bool) (a : Nat) (h : a < 9223372036854775808) : isN (sw s a) = decide (9218868437227405312 < a) := by
 unfold isN sw; congr 2; cases s <;> simp <;> omega
theorem ord_nan {x : Nat} (hx : x < 18446744073709551616) (h : isN x = true) (y : Nat) : FloatKind.f64.format.order x y = none ∧ FloatKind.f64.format.order y x = none := by
 obtain ⟨s, a, rfl, ha⟩ := sw_of x hx
 rw [isN_sw s a ha] at h
 have h := of_decide_eq_true h
 exact ⟨order_nan1 s a y h ha, order_nan2 s a y h ha⟩
theorem ord_num {x y : Nat} (hx : x < 18446744073709551616) (hy : y < 18446744073709551616) (h : isN x = false) (k : isN y = false) : FloatKind.f64.format.order x y = some (compare (ov x) (ov y)) := by
 obtain ⟨s, a, rfl, ha⟩ := sw_of x hx
 obtain ⟨t, b, rfl, hb⟩ := sw_of y hy
 rw [isN_sw s a ha] at h
 rw [isN_sw t b hb] at k
 have h := of_decide_eq_false h
 have k := of_decide_eq_false k
 rw [ov_sw s a ha, ov_sw t b hb]
 exact order_all s t a b (by omega) (by omega)
theorem ord_self {x : Nat} (hx : x < 18446744073709551616) : (FloatKind.f64.format.order x x != some .eq) = isN x := by
 cases h : isN x
 ·rw [ord_num hx hx h h]; simp
 ·rw [(ord_nan hx h x).1]; decide
theorem isnan_f (x : Nat) (hx : x < 18446744073709551616) (w : World) :
  Calls Tryz.prog 184 #[.float .f64 x] w fun e w' => e = .returned (.bool (isN x)) ∧ w' = w := by
 have o1 := ord_self hx
 go_enter Tryz.func184, Tryz.ntmps184
 go_wp2
 go_ret
 exact ⟨rfl, rfl⟩
def cmpF (x y : Nat) : Int := if isN x then (if isN y then 0 else -1) else if isN y then 1 else if ov x < ov y then -1 else if ov y < ov x then 1 else 0
set_option maxHeartbeats 400000 in
theorem cmpf_any (x y : Nat) (hx : x < 18446744073709551616) (hy : y < 18446744073709551616) (w : World) :
  Calls Tryz.prog 157 #[.float .f64 x, .float .f64 y] w fun e w' => e = .returned (.int .i64 (cmpF x y)) ∧ w' = w := by
 have HX : Hid _ := isnan_f x hx
 have HY : Hid _ := isnan_f y hy
 unfold cmpF
 cases hn : isN x
 ·cases hm : isN y
  ·have o := ord_num hx hy hn hm
   rw [hn] at HX; rw [hm] at HY
   rcases Int.lt_trichotomy (ov x) (ov y) with k | k | k
   ·rw [Int.compare_eq_lt.2 k] at o
    have o1 : (FloatKind.f64.format.order x y == some .lt) = true := by rw [o]; decide
    rw [if_neg (by decide), if_neg (by decide), if_pos k]
    clear o
    go_enter Tryz.func157, Tryz.ntmps157
    go_wp2_with (go_at_call 184; (first | (with_reducible refine (HX.out _).mono ?_) | (with_reducible refine (HY.out _).mono ?_)); rintro e w' ⟨rfl, rfl⟩)
    go_ret
    exact ⟨rfl, rfl⟩
   ·have o0 : compare (ov x) (ov y) = .eq := by rw [k]; simp
    rw [o0] at o
    have o1 : (FloatKind.f64.format.order x y == some .lt) = false := by rw [o]; decide
    have o2 : (FloatKind.f64.format.order x y == some .gt) = false := by rw [o]; decide
    rw [if_neg (by decide), if_neg (by decide), if_neg (by omega), if_neg (by omega)]
    clear o o0
    go_enter Tryz.func157, Tryz.ntmps157
    go_wp2_with (go_at_call 184; (first | (with_reducible refine (HX.out _).mono ?_) | (with_reducible refine (HY.out _).mono ?_)); rintro e w' ⟨rfl, rfl⟩)
    go_ret
    exact ⟨rfl, rfl⟩
   ·rw [Int.compare_eq_gt.2 k] at o
    have o1 : (FloatKind.f64.format.order x y == some .lt) = false := by rw [o]; decide
    have o2 : (FloatKind.f64.format.order x y == some .gt) = true := by rw [o]; decide
    rw [if_neg (by decide), if_neg (by decide), if_neg (by omega), if_pos k]
    clear o
    go_enter Tryz.func157, Tryz.ntmps157
    go_wp2_with (go_at_call 184; (first | (with_reducible refine (HX.out _).mono ?_) | (with_reducible refine (HY.out _).mono ?_)); rintro e w' ⟨rfl, rfl⟩)
    go_ret
    exact ⟨rfl, rfl⟩
  ·rw [hn] at HX; rw [hm] at HY
   go_enter Tryz.func157, Tryz.ntmps157
   go_wp2_with (go_at_call 184; (first | (with_reducible refine (HX.out _).mono ?_) | (with_reducible refine (HY.out _).mono ?_)); rintro e w' ⟨rfl, rfl⟩)
   go_ret
   exact ⟨rfl, rfl⟩
 ·rw [hn] at HX
  cases hm : isN y <;> rw [hm] at HY
  all_goals
   go_enter Tryz.func157, Tryz.ntmps157
   go_wp2_with (go_at_call 184; (first | (with_reducible refine (HX.out _).mono ?_) | (with_reducible refine (HY.out _).mono ?_)); rintro e w' ⟨rfl, rfl⟩)
   go_ret
   exact ⟨rfl, rfl⟩
theorem mf64bits (x : Nat) (w : World) : (callFunc 50 #[.float .f64 x]).run Tryz.prog w = .ok (.value (.int .u64 (x : Int))) w := by
 rw [run_callFunc_extern Tryz.func50 (by kernel_rfl) (by kernel_rfl) (by kernel_rfl) (e := Extern.MathFloatBits.float64bits) (by kernel_rfl)]
 rfl
theorem mf64from (x : Int) (w : World) : (callFunc 171 #[.int .u64 x]).run Tryz.prog w = .ok (.value (.float .f64 x.toNat)) w := by
 rw [run_callFunc_extern Tryz.func171 (by kernel_rfl) (by kernel_rfl) (by kernel_rfl) (e := Extern.MathFloatBits.float64frombits) (by kernel_rfl)]
 rfl
theorem clear_sign (x : Nat) (h : x < 18446744073709551616) : bits .andNot .u64 (x : Int) 9223372036854775808 = ((x % 9223372036854775808 : Nat) : Int) := by
 have := u64_andNot_nat x 9223372036854775808 (by omega) (by decide)
 rw [show ((9223372036854775808 : Nat) : Int) = 9223372036854775808 from rfl] at this
 rw [this, show 18446744073709551615 - 9223372036854775808 = 2 ^ 63 - 1 from by decide, Nat.and_two_pow_sub_one_eq_mod]
theorem abs_any (x : Nat) (h : x < 18446744073709551616) (w : World) : Calls Tryz.prog 130 #[.float .f64 x] w fun e w' => e = .returned (.float .f64 (x % 9223372036854775808)) ∧ w' = w := by
 have hc := clear_sign x h
 generalize x % 9223372036854775808 = y at *
 go_enter Tryz.func130, Tryz.ntmps130
 go_wp2_with (first | simp only [mf64bits] | simp only [mf64from])
 go_ret
 exact ⟨rfl, rfl⟩
theorem sign_bit (x : Nat) (h : x < 18446744073709551616) : bits .and .u64 (x : Int) 9223372036854775808 = ((x / 9223372036854775808 * 9223372036854775808 : Nat) : Int) := by
 have := u64_and_nat x 9223372036854775808 h (by decide)
 rw [show ((9223372036854775808 : Nat) : Int) = 9223372036854775808 from rfl] at this
 rw [this]
 congr 1
 apply Nat.eq_of_testBit_eq
 intro i
 rw [Nat.testBit_and, show (9223372036854775808 : Nat) = 2 ^ 63 from by decide, Nat.testBit_mul_two_pow, Nat.testBit_two_pow, Nat.testBit_div_two_pow]
 by_cases hi : 63 = i
 ·subst hi; simp
 ·rcases Nat.lt_or_ge i 63 with k | k
  ·simp [hi, show ¬ 63 ≤ i from by omega]
  ·have : x.testBit (i - 63 + 63) = false := Nat.testBit_lt_two_pow (Nat.lt_of_lt_of_le h (by rw [show (18446744073709551616 : Nat) = 2 ^ 64 from by decide]; exact Nat.pow_le_pow_right (by decide) (by omega)))
   simp [hi, this]
def oneS (x : Nat) : Nat := x / 9223372036854775808 * 9223372036854775808 + 4607182418800017408
theorem one_or (x : Nat) (h : x < 18446744073709551616) : bits .or .u64 4607182418800017408 ((x / 9223372036854775808 * 9223372036854775808 : Nat) : Int) = ((oneS x : Nat) : Int) := by
 have := u64_or_nat 4607182418800017408 (x / 9223372036854775808 * 9223372036854775808) (by decide) (by omega)
 rw [show ((4607182418800017408 : Nat) : Int) = 4607182418800017408 from rfl] at this
 rw [this]
 unfold oneS
 congr 1
 rw [Nat.or_comm, nat_join 63 _ _ (by rw [show (2 : Nat) ^ 63 = 9223372036854775808 from by decide]; omega) (by decide)]
theorem one_not : bits .andNot .u64 4607182418800017408 9223372036854775808 = 4607182418800017408 := by decide +kernel
set_option maxHeartbeats 400000 in
theorem copysign_any (x : Nat) (h : x < 18446744073709551616) (w : World) : Calls Tryz.prog 158 #[.float .f64 4607182418800017408, .float .f64 x] w fun e w' => e = .returned (.float .f64 (oneS x)) ∧ w' = w := by
 have h1 := sign_bit x h
 have h2 := one_or x h
 have h3 := one_not
 generalize x / 9223372036854775808 * 9223372036854775808 = y at *
 generalize oneS x = z at *
 go_enter Tryz.func158, Tryz.ntmps158
 go_wp2_with (first | simp only [mf64bits] | simp only [mf64from])
 go_ret
 exact ⟨rfl, rfl⟩
def rk (x : Nat) : Nat := if isN x then 0 else if 9223372036854775808 ≤ x then 18446744073709551615 - x else x + 9223372036854775808
def sg (a b : Nat) : Int := if a < b then -1 else if b < a then 1 else 0
theorem rk_nan {x : Nat} (h : isN x = true) : rk x = 0 := by unfold rk; rw [if_pos h]
theorem rk_num {x : Nat} (hx : x < 18446744073709551616) (h : isN x = false) : (rk x : Int) = if 9223372036854775808 ≤ x then 18446744073709551615 - (x : Int) else (x : Int) + 9223372036854775808 := by
 unfold rk; rw [if_neg (by rw [h]; decide)]; split <;> omega
theorem isN_oneS (x : Nat) (_hx : x < 18446744073709551616) : isN (oneS x) = false := by
 unfold isN oneS; apply decide_eq_false; omega
theorem oneS_lt (x : Nat) (hx : x < 18446744073709551616) : oneS x < 18446744073709551616 := by unfold oneS; omega
theorem nan_size {x : Nat} (h : isN x = false) : x % 9223372036854775808 ≤ 9218868437227405312 := by
 have := of_decide_eq_false h; omega
theorem cmp_rk_ne (x y : Nat) (hx : x < 18446744073709551616) (hy : y < 18446744073709551616) (h : isN x = true ∨ isN y = true ∨ ov x ≠ ov y) : cmpF x y = sg (rk x) (rk y) := by
  unfold cmpF sg
  cases hn : isN x <;> cases hm : isN y
  · have n1 := rk_num hx hn
    have n2 := rk_num hy hm
    have z1 := nan_size hn
    have z2 := nan_size hm
    have ho : ov x ≠ ov y := by rcases h with h | h | h; · rw [hn] at h; cases h
                                · rw [hm] at h; cases h
                                · exact h
    unfold ov at ho ⊢
    simp only [Bool.false_eq_true, if_false]
    generalize rk x = A at *
    generalize rk y = B at *
    split at n1 <;> split at n2 <;> split at ho <;> split at ho <;> split <;> split <;> (try split) <;> (try split) <;> omega
  · rw [rk_nan hm]
    have n1 := rk_num hx hn
    have z1 := nan_size hn
    simp only [Bool.false_eq_true, if_false, if_true]
    rw [if_neg (by omega), if_pos (by split at n1 <;> omega)]
  · rw [rk_nan hn]
    have n2 := rk_num hy hm
    have z2 := nan_size hm
    simp only [Bool.false_eq_true, if_false, if_true]
    rw [if_pos (by split at n2 <;> omega)]
  · rw [rk_nan hn, rk_nan hm]
    simp
theorem cmp_rk_eq (x y : Nat) (hx : x < 18446744073709551616) (hy : y < 18446744073709551616) (hn : isN x = false) (hm : isN y = false) (h : ov x = ov y) : cmpF (oneS x) (oneS y) = sg (rk x) (rk y) := by
 unfold cmpF sg
 rw [isN_oneS x hx, isN_oneS y hy]
 have n1 := rk_num hx hn
 have n2 := rk_num hy hm
 have z1 := nan_size hn
 have z2 := nan_size hm
 unfold ov oneS at *
 simp only [Bool.false_eq_true, if_false]
 generalize rk x = A at *
 generalize rk y = B at *
 split at n1 <;> split at n2 <;> split at h <;> split at h <;> split <;> split <;> (try split) <;> (try split) <;> (try split) <;> (try split) <;> omega
set_option maxHeartbeats 1000000 in
theorem compare_any (x y : Nat) (hx : x < 18446744073709551616) (hy : y < 18446744073709551616) (w : World) :
  Calls Tryz.prog 118 #[.float .f64 x, .float .f64 y] w fun e w' => e = .returned (.int .i64 (sg (rk x) (rk y))) ∧ w' = w := by
 by_cases h : isN x = true ∨ isN y = true ∨ ov x ≠ ov y
 ·rw [← cmp_rk_ne x y hx hy h]
  have o1 : (FloatKind.f64.format.order x y == some .eq) = false := by
   cases hn : isN x
   ·cases hm : isN y
    ·rw [ord_num hx hy hn hm]
     rcases h with h | h | h
     ·rw [hn] at h; cases h
     ·rw [hm] at h; cases h
     ·rcases Int.lt_trichotomy (ov x) (ov y) with k | k | k
      ·rw [Int.compare_eq_lt.2 k]; decide
      ·exact absurd k h
      ·rw [Int.compare_eq_gt.2 k]; decide
    ·rw [(ord_nan hy hm x).2]; decide
   ·rw [(ord_nan hx hn y).1]; decide
  clear h
  go_enter Tryz.func118, Tryz.ntmps118
  go_wp2_with fail
  refine (cmpf_any x y hx hy w).mono ?_
  rintro e w ⟨rfl, rfl⟩
  go_wp2
  go_ret
  exact ⟨rfl, rfl⟩
 ·have hn : isN x = false := by cases hh : isN x <;> simp_all
  have hm : isN y = false := by cases hh : isN y <;> simp_all
  have ho : ov x = ov y := Classical.byContradiction fun k => h (Or.inr (Or.inr k))
  rw [← cmp_rk_eq x y hx hy hn hm ho]
  have o1 : (FloatKind.f64.format.order x y == some .eq) = true := by rw [ord_num hx hy hn hm, ho]; simp
  clear h ho hn hm
  have HX : Hid _ := copysign_any x hx
  have HY : Hid _ := copysign_any y hy
  have HC : Hid _ := cmpf_any (oneS x) (oneS y) (oneS_lt x hx) (oneS_lt y hy)
  go_enter Tryz.func118, Tryz.ntmps118
  go_wp2_with (first
   | (go_at_call 158; (first | (with_reducible refine (HX.out _).mono ?_) | (with_reducible refine (HY.out _).mono ?_)); rintro e w ⟨rfl, rfl⟩)
   | (go_at_call 157; with_reducible refine (HC.out _).mono ?_; rintro e w ⟨rfl, rfl⟩)
   | fail)
  go_ret
  exact ⟨rfl, rfl⟩
set_option maxHeartbeats 400000 in
theorem same_any (x y : Nat) (hx : x < 18446744073709551616) (hy : y < 18446744073709551616) (w : World) :
  Calls Tryz.prog 150 #[.float .f64 x, .float .f64 y] w fun e w' => e = .returned (.bool (sg (rk x) (rk y) == 0)) ∧ w' = w := by
 go_enter Tryz.func150, Tryz.ntmps150
 go_wp2_with fail
 refine (compare_any x y hx hy w).mono ?_
 rintro e w ⟨rfl, rfl⟩
 go_wp2
 go_ret
 exact ⟨rfl, rfl⟩
theorem not_word (x : Nat) (h : x < 18446744073709551616) : bits .xor .u64 IntKind.u64.max (x : Int) = ((18446744073709551615 - x : Nat) : Int) := by
 have := u64_xor_nat 18446744073709551615 x (by decide) h
 rw [show (IntKind.u64.max : Int) = ((18446744073709551615 : Nat) : Int) from by decide, this]
 congr 1
 have k : (BitVec.allOnes 64 ^^^ BitVec.ofNat 64 x).toNat = 2 ^ 64 - 1 - (BitVec.ofNat 64 x).toNat := by rw [BitVec.allOnes_xor, BitVec.toNat_not]
 rw [BitVec.toNat_xor, BitVec.toNat_allOnes, BitVec.toNat_ofNat, Nat.mod_eq_of_lt (by rw [show (2 : Nat) ^ 64 = 18446744073709551616 from by decide]; exact h)] at k
 exact k
theorem or_sign (x : Nat) (h : x < 9223372036854775808) : bits .or .u64 (x : Int) 9223372036854775808 = ((x + 9223372036854775808 : Nat) : Int) := by
 have := u64_or_nat x 9223372036854775808 (by omega) (by decide)
 rw [show ((9223372036854775808 : Nat) : Int) = 9223372036854775808 from rfl] at this
 rw [this, Nat.or_comm, nat_join 63 _ _ (by decide) (by rw [show (2 : Nat) ^ 63 = 9223372036854775808 from by decide]; exact h), Nat.add_comm]
set_option maxHeartbeats 400000 in
theorem rank_any (x : Nat) (hx : x < 18446744073709551616) (w : World) : Calls Tryz.prog 65 #[.float .f64 x] w fun e w' => e = .returned (.int .u64 (rk x : Int)) ∧ w' = w := by
 have h1 := clear_sign x hx
 have h2 := sign_bit x hx
 cases hn : isN x
 ·have z := nan_size hn
  by_cases hs : 9223372036854775808 ≤ x
  ·have hk : rk x = 18446744073709551615 - x := by unfold rk; rw [if_neg (by rw [hn]; decide), if_pos hs]
   have h3 := not_word x hx
   rw [hk, ← h3]
   clear h3 hk
   go_enter Tryz.func65, Tryz.ntmps65
   go_wp2_with (first | simp only [mf64bits] | fail)
   go_ret
   exact ⟨rfl, rfl⟩
  ·have hk : rk x = x + 9223372036854775808 := by unfold rk; rw [if_neg (by rw [hn]; decide), if_neg hs]
   have h3 := or_sign x (by omega)
   rw [hk, ← h3]
   clear h3 hk
   go_enter Tryz.func65, Tryz.ntmps65
   go_wp2_with (first | simp only [mf64bits] | fail)
   go_ret
   exact ⟨rfl, rfl⟩
 ·have z := of_decide_eq_true hn
  rw [rk_nan hn]
  go_enter Tryz.func65, Tryz.ntmps65
  go_wp2_with (first | simp only [mf64bits] | fail)
  go_ret
  exact ⟨rfl, rfl⟩
set_option maxHeartbeats 400000 in
theorem refcmp_any (x y : Nat) (hx : x < 18446744073709551616) (hy : y < 18446744073709551616) (w : World) : Calls Tryz.prog 45 #[.float .f64 x, .float .f64 y] w fun e w' => e = .returned (.int .i64 (sg (rk x) (rk y))) ∧ w' = w := by
 have HX : Hid _ := rank_any x hx
 have HY : Hid _ := rank_any y hy
 unfold sg
 generalize rk x = A at *
 generalize rk y = B at *
 rcases Nat.lt_trichotomy A B with k | k | k
 ·rw [if_pos k]
  go_enter Tryz.func45, Tryz.ntmps45
  go_wp2_with (first
   | (go_at_call 65; (first | (with_reducible refine (HX.out _).mono ?_) | (with_reducible refine (HY.out _).mono ?_)); rintro e w ⟨rfl, rfl⟩)
   | fail)
  go_ret
  exact ⟨rfl, rfl⟩
 ·rw [if_neg (by omega), if_neg (by omega)]
  go_enter Tryz.func45, Tryz.ntmps45
  go_wp2_with (first
   | (go_at_call 65; (first | (with_reducible refine (HX.out _).mono ?_) | (with_reducible refine (HY.out _).mono ?_)); rintro e w ⟨rfl, rfl⟩)
   | fail)
  go_ret
  exact ⟨rfl, rfl⟩
 ·rw [if_neg (by omega), if_pos k]
  go_enter Tryz.func45, Tryz.ntmps45
  go_wp2_with (first
   | (go_at_call 65; (first | (with_reducible refine (HX.out _).mono ?_) | (with_reducible refine (HY.out _).mono ?_)); rintro e w ⟨rfl, rfl⟩)
   | fail)
  go_ret
  exact ⟨rfl, rfl⟩
def finF (x : Nat) : Bool := decide (x % 9223372036854775808 < 9218868437227405312)
theorem fin_ord (x : Nat) (h : x < 9223372036854775808) : (FloatKind.f64.format.order x 9218868437227405311 == some .lt || FloatKind.f64.format.order x 9218868437227405311 == some .eq) = decide (x < 9218868437227405312) := by
 cases hn : isN x
 ·have z := nan_size hn
  rw [ord_num (by omega) (by decide) hn (by decide +kernel)]
  have e1 : ov x = (x : Int) := by unfold ov; rw [if_pos h]
  have e2 : ov 9218868437227405311 = 9218868437227405311 := by decide +kernel
  rw [e1, e2]
  rcases Nat.lt_trichotomy x 9218868437227405311 with k | k | k
  ·rw [Int.compare_eq_lt.2 (by omega), decide_eq_true (by omega)]; decide
  ·subst k; decide +kernel
  ·rw [Int.compare_eq_gt.2 (by omega), decide_eq_false (by omega)]; decide
 ·rw [(ord_nan (by omega) hn _).1]
  have := of_decide_eq_true hn
  rw [decide_eq_false (by omega)]; decide
set_option maxHeartbeats 400000 in
theorem cfin_any (x : Nat) (hx : x < 18446744073709551616) (w : World) :
  Calls Tryz.prog 117 #[.float .f64 x] w fun e w' => e = .returned (.bool (finF x)) ∧ w' = w := by
 have h1 := fin_ord (x % 9223372036854775808) (by omega)
 have HA : Hid _ := abs_any x hx
 unfold finF
 generalize decide (x % 9223372036854775808 < 9218868437227405312) = b at *
 generalize x % 9223372036854775808 = y at *
 go_enter Tryz.func117, Tryz.ntmps117
 go_wp2_with (go_at_call 130; with_reducible refine (HA.out _).mono ?_; rintro e w ⟨rfl, rfl⟩)
 go_ret
 exact ⟨rfl, rfl⟩
set_option maxHeartbeats 400000 in
theorem dfin_any (x : Nat) (hx : x < 18446744073709551616) (w : World) :
  Calls Tryz.prog 44 #[.float .f64 x] w fun e w' => e = .returned (.bool (finF x)) ∧ w' = w := by
 have h1 := clear_sign x hx
 have h2 : decide (((x % 9223372036854775808 : Nat) : Int) < 9218868437227405312) = finF x := by unfold finF; apply decide_eq_decide.2; omega
 generalize x % 9223372036854775808 = y at *
 go_enter Tryz.func44, Tryz.ntmps44
 go_wp2_with (first | simp only [mf64bits] | fail)
 go_ret
 exact ⟨rfl, rfl⟩
set_option maxHeartbeats 400000 in
theorem refsame_any (x y : Nat) (hx : x < 18446744073709551616) (hy : y < 18446744073709551616) (w : World) : Calls Tryz.prog 35 #[.float .f64 x, .float .f64 y] w fun e w' => e = .returned (.bool (sg (rk x) (rk y) == 0)) ∧ w' = w := by
 have HX : Hid _ := rank_any x hx
 have HY : Hid _ := rank_any y hy
 have h2 : ((rk x : Int) == (rk y : Int)) = (sg (rk x) (rk y) == 0) := by
  unfold sg
  rcases Nat.lt_trichotomy (rk x) (rk y) with k | k | k
  ·rw [if_pos k, beq_eq_false_iff_ne.2 (by omega)]; rfl
  ·rw [if_neg (by omega), if_neg (by omega), beq_iff_eq.2 (by omega)]; rfl
  ·rw [if_neg (by omega), if_pos k, beq_eq_false_iff_ne.2 (by omega)]; rfl
 generalize rk x = A at *
 generalize rk y = B at *
 go_enter Tryz.func35, Tryz.ntmps35
 go_wp2_with (first
   | (go_at_call 65; (first | (with_reducible refine (HX.out _).mono ?_) | (with_reducible refine (HY.out _).mono ?_)); rintro e w ⟨rfl, rfl⟩)
   | fail)
 go_ret
 exact ⟨rfl, rfl⟩
def sF (x y : Nat) : Bool := sg (rk x) (rk y) == 0
theorem sF_eq (x y : Nat) : sF x y = decide (rk x = rk y) := by
 unfold sF sg
 rcases Nat.lt_trichotomy (rk x) (rk y) with k | k | k
 ·rw [if_pos k, decide_eq_false (by omega)]; rfl
 ·rw [if_neg (by omega), if_neg (by omega), decide_eq_true k]; rfl
 ·rw [if_neg (by omega), if_pos k, decide_eq_false (by omega)]; rfl
theorem zero_rk (x : Nat) (hx : x < 18446744073709551616) : sF x 0 = decide (x = 0) := by
 rw [sF_eq]
 apply decide_eq_decide.2
 have e0 : rk 0 = 9223372036854775808 := by decide +kernel
 rw [e0]
 unfold rk
 constructor
 ·intro h
  split at h
  ·omega
  ·split at h <;> omega
 ·rintro rfl
  decide +kernel
end Go.Proofs.YtlgfgeacphkhnaaGreatDoor.Re
