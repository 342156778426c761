/- TEXTS THAT GROW; Help and Unhelp, the document's. Own work of the verifier. -/
import Derived.Test.YtckdkcnnfjbdmaaGreatZL1
import Derived.Maps.AppendAt
import Derived.Deep.AppendLies
import Derived.Laws.IdiomStrings
import Derived.OwnWalk
namespace Go.Proofs.YtckdkcnnfjbdmaaGreat.La
open Go.RowKit

theorem bel1 (w : World) (o1 : Obj) : Below w.heap.size w (w.alloc o1) := (Below.refl _ _).alloc (Nat.le_refl _) _
/-- A row of the call's own (at B or behind it) that grows. -/
structure GB (B : Nat) (e : TypeId) (f : Nat → Value) (W0 : World) (v : Value) (xs : List Nat) (w : World) : Prop where
  own : w.ownsRow B e 1 v xs.length (xs.map f)
  nz : v ≠ .slice none 0 0
  below : Below B W0 w
  size : B ≤ w.heap.size
theorem own_ofG {w : World} {B : Nat} {e : TypeId} {v : Value} {n : Nat} {xs : List Value} (h : w.ownsRow B e 1 v n xs) (hn : v ≠ .slice none 0 0) : ∃ g cap cur, v = .slice (some ⟨g, 0, none⟩) n cap ∧ B ≤ g ∧ w.heap[g]? = some (.cells cur e) ∧ n ≤ cap ∧ cap ≤ maxLen ∧ cur.size = cap ∧ cur.toList.take n = xs := by
  rcases h.2 with h2 | ⟨g, cap, cur, hv, hg, hh, h3, h4, h5, h6⟩
  · exact absurd h2.1 hn
  · exact ⟨g, cap, cur, hv, hg, hh, h3, h4, by simpa using h5, by simpa using h6⟩
theorem GB.push {B : Nat} {e : TypeId} {f : Nat → Value} {W0 w w' : World} {v v' : Value} {xs : List Nat} {x : Nat} {y : Value} (h : GB B e f W0 v xs w) (ob : Obj) (hy : y = f x)
    (hown : w'.ownsRow B e 1 v' (xs.length + 1) (xs.map f ++ [y])) (hg : (w.alloc ob).grownBy w' v.ownBlock) (hnil : v' = .slice none 0 0 ↔ v = .slice none 0 0 ∧ 1 = 0) : GB B e f W0 v' (xs ++ [x]) w' := by
  obtain ⟨gv, cap, cur, rfl, hB, hcur, _⟩ := own_ofG h.own h.nz
  have hw := World.grownBy_alloc w ob none
  have hg' : (w.alloc ob).grownBy w' (some gv) := hg
  have s1 := hw.size
  have s2 := hg'.size
  refine ⟨?_, fun e => h.nz (hnil.1 e).1, ?_, by have := h.size; omega⟩
  · rw [List.length_append, List.map_append]; subst hy; exact hown
  · exact (h.below.grown hw h.size (fun k e => by cases e)).grown hg' (by have := h.size; omega) (fun k e => by cases e; exact hB)
theorem GB.push2 {B : Nat} {e : TypeId} {f : Nat → Value} {W0 w w' : World} {v v' : Value} {xs : List Nat} {x y : Nat} {p q : Value} (h : GB B e f W0 v xs w) (ob : Obj) (hp : p = f x) (hq : q = f y)
    (hown : w'.ownsRow B e 1 v' (xs.length + 2) (xs.map f ++ [p, q])) (hg : (w.alloc ob).grownBy w' v.ownBlock) (hnil : v' = .slice none 0 0 ↔ v = .slice none 0 0 ∧ 2 = 0) : GB B e f W0 v' (xs ++ [x, y]) w' := by
  obtain ⟨gv, cap, cur, rfl, hB, hcur, _⟩ := own_ofG h.own h.nz
  have hw := World.grownBy_alloc w ob none
  have hg' : (w.alloc ob).grownBy w' (some gv) := hg
  have s1 := hw.size
  have s2 := hg'.size
  refine ⟨?_, fun e => h.nz (hnil.1 e).1, ?_, by have := h.size; omega⟩
  · rw [List.length_append, List.map_append]; subst hp hq; exact hown
  · exact (h.below.grown hw h.size (fun k e => by cases e)).grown hg' (by have := h.size; omega) (fun k e => by cases e; exact hB)
theorem GB.new {e : TypeId} {f : Nat → Value} (w : World) : GB w.heap.size e f w (.slice (some ⟨w.heap.size, 0, none⟩) 0 0) [] (w.alloc (.cells #[] e)) := by
  refine ⟨⟨rfl, .inr ⟨w.heap.size, 0, #[], rfl, Nat.le_refl _, ?_, Nat.le_refl _, by unfold maxLen; omega, rfl, rfl⟩⟩, (fun h => by cases h), bel1 w _, by simp⟩
  show (w.heap.push _)[w.heap.size]? = _
  simp
def bV (n : Nat) : Value := .int .u8 (n : Int)
/-- The text in a row of bytes. -/
def txs (xs : List Nat) : List UInt8 := xs.map UInt8.ofNat
end Go.Proofs.YtckdkcnnfjbdmaaGreat.La
/- escaped, Help, Unhelp, the document's. Own work of the verifier. -/
namespace Go.Proofs.YtckdkcnnfjbdmaaGreat.La
open Go.RowKit

theorem infoByte : (Tryz.prog.info? 5).map (fun i => (i.zero, i.size, i.bytes)) = some (some (.int .u8 0), 1, 1) := by kernel_rfl
theorem cell_two_new (w : World) (x y : Value) (t : TypeId) : ∀ j u, [x, y][j]? = some u → (w.alloc (.cells #[x, y] t)).cell? ((⟨w.heap.size, 0, none⟩ : Addr).add j) = some u := by
  intro j u hj
  match j, hj with
  | 0, hj => simp at hj; subst hj; simp [go_sem]
  | 1, hj => simp at hj; subst hj; simp [go_sem]
  | k + 2, hj => simp at hj
/-- A text in which some bytes are written by two. -/
def esc1 (q : Bool) (b : UInt8) : List UInt8 := if b.toNat = 92 ∨ q = true ∧ b.toNat = 34 then [92, b] else if b.toNat = 10 then [92, 110] else [b]
def escL (q : Bool) : List UInt8 → List UInt8
  | [] => []
  | b :: r => esc1 q b ++ escL q r
theorem escL_drop (q : Bool) (l : List UInt8) (i : Nat) (h : i < l.length) : escL q (l.drop i) = esc1 q l[i] ++ escL q (l.drop (i + 1)) := by
  rw [List.drop_eq_getElem_cons h, escL]
theorem txs_app (a b : List Nat) : txs (a ++ b) = txs a ++ txs b := by unfold txs; rw [List.map_append]
theorem byte_nat (b : UInt8) : UInt8.ofNat b.toNat = b := by simp
/-- How far the loop has come: xs stands for what is written already. -/
def EscI (q : Bool) (l : List UInt8) (i : Nat) (xs : List Nat) : Prop := escL q l = txs xs ++ escL q (l.drop i) ∧ (∀ x ∈ xs, x < 256)
theorem EscI.step {q : Bool} {l : List UInt8} {i : Nat} {xs ys : List Nat} (h : EscI q l i xs) (hi : i < l.length) (hy : txs ys = esc1 q l[i]) (hb : ∀ y ∈ ys, y < 256) : EscI q l (i + 1) (xs ++ ys) := by
  obtain ⟨h1, h2⟩ := h
  refine ⟨?_, fun x hx => ?_⟩
  · rw [h1, escL_drop q l i hi, txs_app, hy, List.append_assoc]
  · rcases List.mem_append.1 hx with g | g
    · exact h2 x g
    · exact hb x g
/-- And back. -/
def unL : List UInt8 → Option (List UInt8)
  | [] => some []
  | b :: r => if b.toNat = 10 then none else if b.toNat = 92 then
      match r with
      | [] => none
      | c :: r' => if c.toNat = 92 then (unL r').map (92 :: ·) else if c.toNat = 110 then (unL r').map (10 :: ·) else none
    else (unL r).map (b :: ·)
end Go.Proofs.YtckdkcnnfjbdmaaGreat.La
/- Unhelp, the document's. Own work of the verifier. -/
namespace Go.Proofs.YtckdkcnnfjbdmaaGreat.La
open Go.RowKit

/-- How far the loop has come. -/
def UnI (l : List UInt8) (i : Nat) (xs : List Nat) : Prop := unL l = (unL (l.drop i)).map (txs xs ++ ·) ∧ (∀ x ∈ xs, x < 256)
theorem UnI.step {l : List UInt8} {i j : Nat} {xs : List Nat} {x : Nat} {b : UInt8} (h : UnI l i xs) (hx : x < 256) (hb : UInt8.ofNat x = b) (hd : unL (l.drop i) = (unL (l.drop j)).map (b :: ·)) : UnI l j (xs ++ [x]) := by
  obtain ⟨h1, h2⟩ := h
  refine ⟨?_, fun y hy => ?_⟩
  · rw [h1, hd, Option.map_map]
    congr 1
    funext z
    show txs xs ++ b :: z = txs (xs ++ [x]) ++ z
    rw [txs_app, ← hb, List.append_assoc]
    rfl
  · rcases List.mem_append.1 hy with g | g
    · exact h2 y g
    · rw [List.mem_singleton.1 g]; exact hx
theorem UnI.none {l : List UInt8} {i : Nat} {xs : List Nat} (h : UnI l i xs) (hd : unL (l.drop i) = none) : unL l = none := by
  rw [h.1, hd]; rfl
theorem un_low (l : List UInt8) (i : Nat) (h : i < l.length) (h1 : l[i].toNat ≠ 10) (h2 : l[i].toNat ≠ 92) : unL (l.drop i) = (unL (l.drop (i + 1))).map (l[i] :: ·) := by
  rw [List.drop_eq_getElem_cons h, unL.eq_def]
  simp only
  rw [if_neg h1, if_neg h2]
theorem un_ten (l : List UInt8) (i : Nat) (h : i < l.length) (h1 : l[i].toNat = 10) : unL (l.drop i) = none := by
  rw [List.drop_eq_getElem_cons h, unL.eq_def]
  simp only
  rw [if_pos h1]
theorem un_end (l : List UInt8) (i : Nat) (h : i < l.length) (h1 : l[i].toNat = 92) (h2 : ¬ i + 1 < l.length) : unL (l.drop i) = none := by
  rw [List.drop_eq_getElem_cons h, unL.eq_def]
  simp only
  rw [if_neg (by omega), if_pos h1, List.drop_eq_nil_of_le (by omega)]
theorem un_two (l : List UInt8) (i : Nat) (h : i + 1 < l.length) (h1 : l[i].toNat = 92) : unL (l.drop i) = if l[i + 1].toNat = 92 then (unL (l.drop (i + 2))).map (92 :: ·) else if l[i + 1].toNat = 110 then (unL (l.drop (i + 2))).map (10 :: ·) else none := by
  rw [List.drop_eq_getElem_cons (by omega : i < l.length), unL.eq_def]
  simp only
  rw [if_neg (by omega), if_pos h1, List.drop_eq_getElem_cons h]
def TellsU (l : List UInt8) (e : Ending) : Prop := (∃ t, unL l = some t ∧ e = .returned (.tuple #[.string ⟨t.toArray⟩, .bool true])) ∨ (unL l = none ∧ e = .returned (.tuple #[.string ⟨#[]⟩, .bool false]))
end Go.Proofs.YtckdkcnnfjbdmaaGreat.La
/- LISTS OF LABELS in memory; SameLabels, the document's. Own work of the verifier. -/
namespace Go.Proofs.YtckdkcnnfjbdmaaGreat.La
open Go.RowKit

abbrev Lb : Type := List UInt8 × List UInt8
theorem lt_of_cell {w : World} {a : Addr} {v : Value} (h : w.cell? a = some v) : a.block < w.heap.size := by
  unfold World.cell? at h
  split at h
  · rename_i h1
    rcases Nat.lt_or_ge a.block w.heap.size with k | k
    · exact k
    · rw [Array.getElem?_eq_none k] at h1; cases h1
  · cases h
/-- Labels, one behind the other. -/
def RowL (W : World) (b o : Nat) (L : List Lb) : Prop := ∀ i (h : i < L.length), W.cell? ⟨b, o + i * 2, none⟩ = some (.string ⟨L[i].1.toArray⟩) ∧ W.cell? ⟨b, o + i * 2 + 1, none⟩ = some (.string ⟨L[i].2.toArray⟩)
theorem RowL.below {W W1 : World} {b o : Nat} {L : List Lb} (h : RowL W b o L) (hb : Below W.heap.size W W1) : RowL W1 b o L := fun i hi => by
  obtain ⟨h1, h2⟩ := h i hi
  rw [hb.cell (p := ⟨b, o + i * 2, none⟩) (lt_of_cell h1), hb.cell (p := ⟨b, o + i * 2 + 1, none⟩) (lt_of_cell h2)]
  exact ⟨h1, h2⟩
theorem below_drewN (w : World) (n : Nat) : Below w.heap.size w (w.drewN n) := by
  induction n with
  | zero => exact Below.refl _ _
  | succ n ih => exact ⟨ih.os, ih.tape, ih.output, ih.size, ih.block⟩
theorem RowL.drew {W : World} {b o : Nat} {L : List Lb} (h : RowL W b o L) (n : Nat) : RowL (W.drewN n) b o L := h.below (below_drewN W n)
theorem retB {A B : Bool} (h : A = B) : Ending.returned (Value.bool A) = .returned (.bool B) := by rw [h]
theorem retI {k : IntKind} {A B : Int} (h : A = B) : Ending.returned (Value.int k A) = .returned (.int k B) := by rw [h]
set_option maxHeartbeats 2000000 in
set_option maxRecDepth 100000 in
theorem samel_any (ao : Option Addr) (b o cap : Nat) (A : List Lb) (hao : A ≠ [] → ao = some ⟨b, o, none⟩) (ao' : Option Addr) (b' o' cap' : Nat) (C : List Lb) (hao' : C ≠ [] → ao' = some ⟨b', o', none⟩) (hl : A.length ≤ 9223372036854775807) (w : World) (hA : RowL w b o A) (hC : RowL w b' o' C) :
    Calls Tryz.prog 37 #[.slice ao A.length cap, .slice ao' C.length cap'] w fun e w' => e = .returned (.bool (decide (A = C))) ∧ ∃ n, w' = w.drewN n := by
  by_cases hlen : A.length = C.length
  · have ht : ((A.length : Int) != (C.length : Int)) = false := by rw [bne_eq_false_iff_eq]; omega
    have HL : Hid _ := hlen
    have HA : Hid _ := hA
    have HC : Hid _ := hC
    clear hlen hA hC
    go_enter Tryz.func37, Tryz.ntmps37
    go_wp2_with fail
    go_loopw [5] (fun c wr => ∃ i n : Nat, i ≤ A.length ∧ c = .int .i64 (i : Int) ∧ wr = w.drewN n ∧ Hid (A.take i = C.take i)) (fun c _ => A.length - (intOf c).toNat)
    case atStart => exact ⟨0, 0, by omega, rfl, rfl, by simp [Hid]⟩
    case round =>
      obtain ⟨i, n, hi, rfl, rfl, hE⟩ := hrel
      by_cases hlt : i < A.length
      · have hlt2 : i < C.length := by have := HL.out; omega
        obtain rfl := hao (by intro e; rw [e] at hlt; simp at hlt)
        obtain rfl := hao' (by intro e; rw [e] at hlt2; simp at hlt2)
        have hlt' : (i : Int) < (A.length : Int) := by omega
        have hlt2' : (i : Int) < (C.length : Int) := by omega
        obtain ⟨q1, q2⟩ := HA.out i hlt
        obtain ⟨q3, q4⟩ := HC.out i hlt2
        have HT1 : Hid (A.take (i + 1) = A.take i ++ [A[i]]) := List.take_succ_eq_append_getElem hlt
        have HT2 : Hid (C.take (i + 1) = C.take i ++ [C[i]]) := List.take_succ_eq_append_getElem hlt2
        have HN : Hid (A[i] ≠ C[i] → A ≠ C) := fun h e => h (by subst e; rfl)
        obtain ⟨x, y, hxy⟩ : ∃ x y, A[i] = (x, y) := ⟨_, _, rfl⟩
        obtain ⟨u, v, huv⟩ : ∃ u v, C[i] = (u, v) := ⟨_, _, rfl⟩
        rw [hxy] at q1 q2 HT1 HN
        rw [huv] at q3 q4 HT2 HN
        clear hxy huv
        by_cases he : x = u ∧ y = v
        · obtain ⟨rfl, rfl⟩ := he
          clear HN
          as_aux_lemma =>
            go_wp2_with fail
            go_region
            go_wp2_with fail
            exact ⟨⟨i + 1, n + 1, by omega, by go_num, rfl, by unfold Hid; rw [HT1.out, HT2.out, hE.out]⟩, by simp [intOf]; omega⟩
        · have hne : decide (A = C) = false := decide_eq_false (HN.out (fun e => he ⟨(Prod.mk.inj e).1, (Prod.mk.inj e).2⟩))
          have HNE : Hid _ := hne
          have hor : (x == u) = false ∨ (x = u ∧ (y == v) = false) := by
            by_cases h1 : x = u
            · right
              exact ⟨h1, by simpa using fun h2 => he ⟨h1, h2⟩⟩
            · left
              simpa using h1
          clear he hne HN HT1 HT2 hE
          rcases hor with h1 | ⟨rfl, h1⟩
          · as_aux_lemma =>
              go_wp2_with fail
              go_region
              go_wp2_with fail
              go_ret
              exact ⟨retB HNE.out.symm, n + 1, rfl⟩
          · as_aux_lemma =>
              go_wp2_with fail
              go_region
              go_wp2_with fail
              go_ret
              exact ⟨retB HNE.out.symm, n + 1, rfl⟩
      · obtain rfl : i = A.length := by omega
        have hlt' : ¬ (A.length : Int) < (A.length : Int) := by omega
        have he : decide (A = C) = true := by
          have := hE.out
          rw [List.take_length, HL.out, List.take_length] at this
          exact decide_eq_true this
        have HE : Hid _ := he
        clear he
        as_aux_lemma =>
          go_wp2_with fail
          go_ret
          exact ⟨retB HE.out.symm, n, rfl⟩
  · have ht : ((A.length : Int) != (C.length : Int)) = true := by rw [bne_iff_ne]; omega
    have he : decide (A = C) = false := decide_eq_false (fun e => hlen (by rw [e]))
    rw [he]
    clear he hlen hA hC
    as_aux_lemma =>
      go_enter Tryz.func37, Tryz.ntmps37
      go_wp2_with fail
      go_ret
      exact ⟨rfl, 0, rfl⟩
end Go.Proofs.YtckdkcnnfjbdmaaGreat.La
/- Same, Compare, the document's. Own work of the verifier. -/
namespace Go.Proofs.YtckdkcnnfjbdmaaGreat.La
open Go.RowKit

/-- A description. -/
structure Ds where
  kind : Int
  name : List UInt8
  help : List UInt8
  labels : List Lb
  deriving DecidableEq
/-- A description as it is handed in. -/
structure DsAt (W : World) (d : Ds) (v : Value) : Prop where
  ex : ∃ (ao : Option Addr) (b o cap : Nat), v = .agg #[.int .i64 d.kind, .string ⟨d.name.toArray⟩, .string ⟨d.help.toArray⟩, .slice ao d.labels.length cap] ∧ (d.labels ≠ [] → ao = some ⟨b, o, none⟩) ∧ d.labels.length ≤ 9223372036854775807 ∧ RowL W b o d.labels
theorem DsAt.below {W W1 : World} {d : Ds} {v : Value} (h : DsAt W d v) (hb : Below W.heap.size W W1) : DsAt W1 d v := by
  obtain ⟨ao, b, o, cap, e, h1, h2, h3⟩ := h.ex
  exact ⟨ao, b, o, cap, e, h1, h2, h3.below hb⟩
theorem bel2 (w : World) (o1 o2 : Obj) : Below w.heap.size w ((w.alloc o1).alloc o2) :=
  ((Below.refl _ _).alloc (Nat.le_refl _) _).alloc (by simp) _
set_option maxHeartbeats 2000000 in
set_option maxRecDepth 100000 in
theorem dsame_any (d e : Ds) (v u : Value) (w : World) (hd : DsAt w d v) (he : DsAt w e u) :
    Calls Tryz.prog 40 #[v, u] w fun r w' => r = .returned (.bool (decide (d = e))) ∧ Below w.heap.size w w' := by
  obtain ⟨ao, b, o, cap, rfl, h1, h2, h3⟩ := hd.ex
  obtain ⟨ao', b', o', cap', rfl, k1, k2, k3⟩ := he.ex
  obtain ⟨kd, n, h, L⟩ := d
  obtain ⟨kd', n', h', L'⟩ := e
  have HSL : Hid (∀ W, Below w.heap.size w W → Calls Tryz.prog 37 #[.slice ao L.length cap, .slice ao' L'.length cap'] W fun e w' => e = .returned (.bool (decide (L = L'))) ∧ ∃ n, w' = W.drewN n) := fun W hb => samel_any ao b o cap L h1 ao' b' o' cap' L' k1 h2 W (h3.below hb) (k3.below hb)
  clear h1 h2 h3 k1 k2 k3 hd he
  by_cases g1 : kd = kd'
  · subst g1
    by_cases g2 : n = n'
    · subst g2
      by_cases g3 : h = h'
      · subst g3
        have hE : decide ((⟨kd, n, h, L⟩ : Ds) = ⟨kd, n, h, L'⟩) = decide (L = L') := decide_eq_decide.2 ⟨fun e => (Ds.mk.inj e).2.2.2, fun e => by rw [e]⟩
        have HE : Hid _ := hE
        clear hE
        as_aux_lemma =>
          go_enter Tryz.func40, Tryz.ntmps40
          go_wp2_with fail
          refine (HSL.out _ (bel2 w _ _)).mono ?_
          rintro r w1 ⟨rfl, m, rfl⟩
          go_wp2_with fail
          go_ret
          exact ⟨retB HE.out.symm, (bel2 w _ _).trans ((below_drewN _ m).mono (bel2 w _ _).size)⟩
      · have g3' : (h == h') = false := by simpa using g3
        rw [show decide ((⟨kd, n, h, L⟩ : Ds) = ⟨kd, n, h', L'⟩) = false from decide_eq_false (fun e => g3 (Ds.mk.inj e).2.2.1)]
        clear g3
        as_aux_lemma =>
          go_enter Tryz.func40, Tryz.ntmps40
          go_wp2_with fail
          go_ret
          exact ⟨rfl, bel2 w _ _⟩
    · have g2' : (n == n') = false := by simpa using g2
      rw [show decide ((⟨kd, n, h, L⟩ : Ds) = ⟨kd, n', h', L'⟩) = false from decide_eq_false (fun e => g2 (Ds.mk.inj e).2.1)]
      clear g2
      as_aux_lemma =>
        go_enter Tryz.func40, Tryz.ntmps40
        go_wp2_with fail
        go_ret
        exact ⟨rfl, bel2 w _ _⟩
  · have g1' : (kd == kd') = false := by simpa using g1
    rw [show decide ((⟨kd, n, h, L⟩ : Ds) = ⟨kd', n', h', L'⟩) = false from decide_eq_false (fun e => g1 (Ds.mk.inj e).1)]
    clear g1
    as_aux_lemma =>
      go_enter Tryz.func40, Tryz.ntmps40
      go_wp2_with fail
      go_ret
      exact ⟨rfl, bel2 w _ _⟩
/-- How two lists of labels stand. -/
def ordL : List Lb → List Lb → Int
  | [], [] => 0
  | [], _ :: _ => -1
  | _ :: _, [] => 1
  | a :: A, b :: B => if ordE a.1 b.1 ≠ 0 then ordE a.1 b.1 else if ordE a.2 b.2 ≠ 0 then ordE a.2 b.2 else ordL A B
/-- How two series stand. -/
def ordD (d e : Ds) : Int := if ordE d.name e.name ≠ 0 then ordE d.name e.name else ordL d.labels e.labels
theorem ordL_drop (A B : List Lb) (i : Nat) (h1 : i < A.length) (h2 : i < B.length) : ordL (A.drop i) (B.drop i) = if ordE A[i].1 B[i].1 ≠ 0 then ordE A[i].1 B[i].1 else if ordE A[i].2 B[i].2 ≠ 0 then ordE A[i].2 B[i].2 else ordL (A.drop (i + 1)) (B.drop (i + 1)) := by
  rw [List.drop_eq_getElem_cons h1, List.drop_eq_getElem_cons h2, ordL]
theorem ordL_end (A B : List Lb) (i : Nat) (h : ¬ (i < A.length ∧ i < B.length)) (h1 : i ≤ A.length) (h2 : i ≤ B.length) : ordL (A.drop i) (B.drop i) = if A.length < B.length then -1 else if B.length < A.length then 1 else 0 := by
  rcases Nat.lt_or_ge i A.length with g | g
  · have g2 : B.length = i := by omega
    rw [List.drop_eq_getElem_cons g, List.drop_eq_nil_of_le (by omega : B.length ≤ i), ordL, if_neg (by omega), if_pos (by omega)]
  · rw [List.drop_eq_nil_of_le g]
    rcases Nat.lt_or_ge i B.length with k | k
    · rw [List.drop_eq_getElem_cons k, ordL, if_pos (by omega)]
    · rw [List.drop_eq_nil_of_le k, ordL, if_neg (by omega), if_neg (by omega)]
end Go.Proofs.YtckdkcnnfjbdmaaGreat.La
