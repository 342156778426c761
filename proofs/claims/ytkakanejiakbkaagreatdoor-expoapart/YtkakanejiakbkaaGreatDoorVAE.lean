/- LISTS OF LABELS in memory; SameLabels, the document's. Own work of the verifier. -/
import Derived.Test.YtkakanejiakbkaaGreatDoorVAD
namespace Go.Proofs.YtkakanejiakbkaaGreatDoor.La
open Go.RowKit

abbrev Lb : Type := List UInt8 × List UInt8
theorem lt_of_cell {w : World} {a : Addr} {v : Value} (h : w.cell? a = some v) : a.block < w.heap.size := by
  unfold World.cell? at h
  split at h
  · rename_i h1
    rcases Nat.lt_or_ge a.block w.heap.size with k | k
    · exact k
    · rw [Array.getElem?_eq_none k] at h1; cases h1
  · cases h
/-- Labels, one behind the other. -/
def RowL (W : World) (b o : Nat) (L : List Lb) : Prop := ∀ i (h : i < L.length), W.cell? ⟨b, o + i * 2, none⟩ = some (.string ⟨L[i].1.toArray⟩) ∧ W.cell? ⟨b, o + i * 2 + 1, none⟩ = some (.string ⟨L[i].2.toArray⟩)
theorem RowL.below {W W1 : World} {b o : Nat} {L : List Lb} (h : RowL W b o L) (hb : Below W.heap.size W W1) : RowL W1 b o L := fun i hi => by
  obtain ⟨h1, h2⟩ := h i hi
  rw [hb.cell (p := ⟨b, o + i * 2, none⟩) (lt_of_cell h1), hb.cell (p := ⟨b, o + i * 2 + 1, none⟩) (lt_of_cell h2)]
  exact ⟨h1, h2⟩
theorem below_drewN (w : World) (n : Nat) : Below w.heap.size w (w.drewN n) := by
  induction n with
  | zero => exact Below.refl _ _
  | succ n ih => exact ⟨ih.os, ih.tape, ih.output, ih.size, ih.block⟩
theorem RowL.drew {W : World} {b o : Nat} {L : List Lb} (h : RowL W b o L) (n : Nat) : RowL (W.drewN n) b o L := h.below (below_drewN W n)
theorem retB {A B : Bool} (h : A = B) : Ending.returned (Value.bool A) = .returned (.bool B) := by rw [h]
theorem retI {k : IntKind} {A B : Int} (h : A = B) : Ending.returned (Value.int k A) = .returned (.int k B) := by rw [h]
set_option maxHeartbeats 2000000 in
set_option maxRecDepth 100000 in
theorem samel_any (ao : Option Addr) (b o cap : Nat) (A : List Lb) (hao : A ≠ [] → ao = some ⟨b, o, none⟩) (ao' : Option Addr) (b' o' cap' : Nat) (C : List Lb) (hao' : C ≠ [] → ao' = some ⟨b', o', none⟩) (hl : A.length ≤ 9223372036854775807) (w : World) (hA : RowL w b o A) (hC : RowL w b' o' C) :
    Calls Tryz.prog 30 #[.slice ao A.length cap, .slice ao' C.length cap'] w fun e w' => e = .returned (.bool (decide (A = C))) ∧ ∃ n, w' = w.drewN n := by
  by_cases hlen : A.length = C.length
  · have ht : ((A.length : Int) != (C.length : Int)) = false := by rw [bne_eq_false_iff_eq]; omega
    have HL : Hid _ := hlen
    have HA : Hid _ := hA
    have HC : Hid _ := hC
    clear hlen hA hC
    go_enter Tryz.func30, Tryz.ntmps30
    go_wp2_with fail
    go_loopw [5] (fun c wr => ∃ i n : Nat, i ≤ A.length ∧ c = .int .i64 (i : Int) ∧ wr = w.drewN n ∧ Hid (A.take i = C.take i)) (fun c _ => A.length - (intOf c).toNat)
    case atStart => exact ⟨0, 0, by omega, rfl, rfl, by simp [Hid]⟩
    case round =>
      obtain ⟨i, n, hi, rfl, rfl, hE⟩ := hrel
      by_cases hlt : i < A.length
      · have hlt2 : i < C.length := by have := HL.out; omega
        obtain rfl := hao (by intro e; rw [e] at hlt; simp at hlt)
        obtain rfl := hao' (by intro e; rw [e] at hlt2; simp at hlt2)
        have hlt' : (i : Int) < (A.length : Int) := by omega
        have hlt2' : (i : Int) < (C.length : Int) := by omega
        obtain ⟨q1, q2⟩ := HA.out i hlt
        obtain ⟨q3, q4⟩ := HC.out i hlt2
        have HT1 : Hid (A.take (i + 1) = A.take i ++ [A[i]]) := List.take_succ_eq_append_getElem hlt
        have HT2 : Hid (C.take (i + 1) = C.take i ++ [C[i]]) := List.take_succ_eq_append_getElem hlt2
        have HN : Hid (A[i] ≠ C[i] → A ≠ C) := fun h e => h (by subst e; rfl)
        obtain ⟨x, y, hxy⟩ : ∃ x y, A[i] = (x, y) := ⟨_, _, rfl⟩
        obtain ⟨u, v, huv⟩ : ∃ u v, C[i] = (u, v) := ⟨_, _, rfl⟩
        rw [hxy] at q1 q2 HT1 HN
        rw [huv] at q3 q4 HT2 HN
        clear hxy huv
        by_cases he : x = u ∧ y = v
        · obtain ⟨rfl, rfl⟩ := he
          clear HN
          as_aux_lemma =>
            go_wp2_with fail
            go_region
            go_wp2_with fail
            exact ⟨⟨i + 1, n + 1, by omega, by go_num, rfl, by unfold Hid; rw [HT1.out, HT2.out, hE.out]⟩, by simp [intOf]; omega⟩
        · have hne : decide (A = C) = false := decide_eq_false (HN.out (fun e => he ⟨(Prod.mk.inj e).1, (Prod.mk.inj e).2⟩))
          have HNE : Hid _ := hne
          have hor : (x == u) = false ∨ (x = u ∧ (y == v) = false) := by
            by_cases h1 : x = u
            · right
              exact ⟨h1, by simpa using fun h2 => he ⟨h1, h2⟩⟩
            · left
              simpa using h1
          clear he hne HN HT1 HT2 hE
          rcases hor with h1 | ⟨rfl, h1⟩
          · as_aux_lemma =>
              go_wp2_with fail
              go_region
              go_wp2_with fail
              go_ret
              exact ⟨retB HNE.out.symm, n + 1, rfl⟩
          · as_aux_lemma =>
              go_wp2_with fail
              go_region
              go_wp2_with fail
              go_ret
              exact ⟨retB HNE.out.symm, n + 1, rfl⟩
      · obtain rfl : i = A.length := by omega
        have hlt' : ¬ (A.length : Int) < (A.length : Int) := by omega
        have he : decide (A = C) = true := by
          have := hE.out
          rw [List.take_length, HL.out, List.take_length] at this
          exact decide_eq_true this
        have HE : Hid _ := he
        clear he
        as_aux_lemma =>
          go_wp2_with fail
          go_ret
          exact ⟨retB HE.out.symm, n, rfl⟩
  · have ht : ((A.length : Int) != (C.length : Int)) = true := by rw [bne_iff_ne]; omega
    have he : decide (A = C) = false := decide_eq_false (fun e => hlen (by rw [e]))
    rw [he]
    clear he hlen hA hC
    as_aux_lemma =>
      go_enter Tryz.func30, Tryz.ntmps30
      go_wp2_with fail
      go_ret
      exact ⟨rfl, 0, rfl⟩
end Go.Proofs.YtkakanejiakbkaaGreatDoor.La
/- Same, Compare, the document's. Own work of the verifier. -/
namespace Go.Proofs.YtkakanejiakbkaaGreatDoor.La
open Go.RowKit

/-- A description. -/
structure Ds where
  kind : Int
  name : List UInt8
  help : List UInt8
  labels : List Lb
  deriving DecidableEq
/-- A description as it is handed in. -/
structure DsAt (W : World) (d : Ds) (v : Value) : Prop where
  ex : ∃ (ao : Option Addr) (b o cap : Nat), v = .agg #[.int .i64 d.kind, .string ⟨d.name.toArray⟩, .string ⟨d.help.toArray⟩, .slice ao d.labels.length cap] ∧ (d.labels ≠ [] → ao = some ⟨b, o, none⟩) ∧ d.labels.length ≤ 9223372036854775807 ∧ RowL W b o d.labels
theorem DsAt.below {W W1 : World} {d : Ds} {v : Value} (h : DsAt W d v) (hb : Below W.heap.size W W1) : DsAt W1 d v := by
  obtain ⟨ao, b, o, cap, e, h1, h2, h3⟩ := h.ex
  exact ⟨ao, b, o, cap, e, h1, h2, h3.below hb⟩
theorem bel2 (w : World) (o1 o2 : Obj) : Below w.heap.size w ((w.alloc o1).alloc o2) :=
  ((Below.refl _ _).alloc (Nat.le_refl _) _).alloc (by simp) _
set_option maxHeartbeats 2000000 in
set_option maxRecDepth 100000 in
theorem dsame_any (d e : Ds) (v u : Value) (w : World) (hd : DsAt w d v) (he : DsAt w e u) :
    Calls Tryz.prog 17 #[v, u] w fun r w' => r = .returned (.bool (decide (d = e))) ∧ Below w.heap.size w w' := by
  obtain ⟨ao, b, o, cap, rfl, h1, h2, h3⟩ := hd.ex
  obtain ⟨ao', b', o', cap', rfl, k1, k2, k3⟩ := he.ex
  obtain ⟨kd, n, h, L⟩ := d
  obtain ⟨kd', n', h', L'⟩ := e
  have HSL : Hid (∀ W, Below w.heap.size w W → Calls Tryz.prog 30 #[.slice ao L.length cap, .slice ao' L'.length cap'] W fun e w' => e = .returned (.bool (decide (L = L'))) ∧ ∃ n, w' = W.drewN n) := fun W hb => samel_any ao b o cap L h1 ao' b' o' cap' L' k1 h2 W (h3.below hb) (k3.below hb)
  clear h1 h2 h3 k1 k2 k3 hd he
  by_cases g1 : kd = kd'
  · subst g1
    by_cases g2 : n = n'
    · subst g2
      by_cases g3 : h = h'
      · subst g3
        have hE : decide ((⟨kd, n, h, L⟩ : Ds) = ⟨kd, n, h, L'⟩) = decide (L = L') := decide_eq_decide.2 ⟨fun e => (Ds.mk.inj e).2.2.2, fun e => by rw [e]⟩
        have HE : Hid _ := hE
        clear hE
        as_aux_lemma =>
          go_enter Tryz.func17, Tryz.ntmps17
          go_wp2_with fail
          refine (HSL.out _ (bel2 w _ _)).mono ?_
          rintro r w1 ⟨rfl, m, rfl⟩
          go_wp2_with fail
          go_ret
          exact ⟨retB HE.out.symm, (bel2 w _ _).trans ((below_drewN _ m).mono (bel2 w _ _).size)⟩
      · have g3' : (h == h') = false := by simpa using g3
        rw [show decide ((⟨kd, n, h, L⟩ : Ds) = ⟨kd, n, h', L'⟩) = false from decide_eq_false (fun e => g3 (Ds.mk.inj e).2.2.1)]
        clear g3
        as_aux_lemma =>
          go_enter Tryz.func17, Tryz.ntmps17
          go_wp2_with fail
          go_ret
          exact ⟨rfl, bel2 w _ _⟩
    · have g2' : (n == n') = false := by simpa using g2
      rw [show decide ((⟨kd, n, h, L⟩ : Ds) = ⟨kd, n', h', L'⟩) = false from decide_eq_false (fun e => g2 (Ds.mk.inj e).2.1)]
      clear g2
      as_aux_lemma =>
        go_enter Tryz.func17, Tryz.ntmps17
        go_wp2_with fail
        go_ret
        exact ⟨rfl, bel2 w _ _⟩
  · have g1' : (kd == kd') = false := by simpa using g1
    rw [show decide ((⟨kd, n, h, L⟩ : Ds) = ⟨kd', n', h', L'⟩) = false from decide_eq_false (fun e => g1 (Ds.mk.inj e).1)]
    clear g1
    as_aux_lemma =>
      go_enter Tryz.func17, Tryz.ntmps17
      go_wp2_with fail
      go_ret
      exact ⟨rfl, bel2 w _ _⟩
/-- How two lists of labels stand. -/
def ordL : List Lb → List Lb → Int
  | [], [] => 0
  | [], _ :: _ => -1
  | _ :: _, [] => 1
  | a :: A, b :: B => if ordE a.1 b.1 ≠ 0 then ordE a.1 b.1 else if ordE a.2 b.2 ≠ 0 then ordE a.2 b.2 else ordL A B
/-- How two series stand. -/
def ordD (d e : Ds) : Int := if ordE d.name e.name ≠ 0 then ordE d.name e.name else ordL d.labels e.labels
end Go.Proofs.YtkakanejiakbkaaGreatDoor.La
/- Compare, the document's: THE WALK. Own work of the verifier. -/
namespace Go.Proofs.YtkakanejiakbkaaGreatDoor.La
open Go.RowKit

/-- What the loop finds in memory. -/
structure KC (w : World) (ao ao' : Option Addr) (b o cap b' o' cap' : Nat) (A B : List Lb) (W : World) : Prop where
  f1 : W.cell? ⟨w.heap.size, 3, none⟩ = some (.slice ao A.length cap)
  f2 : W.cell? ⟨w.heap.size + 1, 3, none⟩ = some (.slice ao' B.length cap')
  r1 : RowL W b o A
  r2 : RowL W b' o' B
  bl : Below w.heap.size w W
theorem KC.drew {w W : World} {ao ao' : Option Addr} {b o cap b' o' cap' : Nat} {A B : List Lb} (h : KC w ao ao' b o cap b' o' cap' A B W) (n : Nat) : KC w ao ao' b o cap b' o' cap' A B (W.drewN n) := by
  have hb := below_drewN W n
  exact ⟨by rw [hb.cell (p := ⟨w.heap.size, 3, none⟩) (lt_of_cell h.f1)]; exact h.f1, by rw [hb.cell (p := ⟨w.heap.size + 1, 3, none⟩) (lt_of_cell h.f2)]; exact h.f2, h.r1.below hb, h.r2.below hb, h.bl.trans (hb.mono h.bl.size)⟩
end Go.Proofs.YtkakanejiakbkaaGreatDoor.La
/- Check, the document's. Own work of the verifier. -/
namespace Go.Proofs.YtkakanejiakbkaaGreatDoor.La
open Go.RowKit

/-- What is wrong with labels, behind one of that name. -/
def chkL : List Lb → Option (List UInt8) → Int
  | [], _ => 0
  | a :: r, p => if lnameB a.1 = false then 9 else if txE a.2 ≠ 0 then txE a.2 else
    match p with
    | none => chkL r (some a.1)
    | some q => if bhE q a.1 ≠ 0 then bhE q a.1 else chkL r (some a.1)
def chkD (d : Ds) : Int := if d.kind < 1 ∨ 3 < d.kind then 7 else if nameB d.name = false then 9 else if txE d.help ≠ 0 then txE d.help else if 16 < d.labels.length then 3 else chkL d.labels none
def prv (A : List Lb) (i : Nat) : Option (List UInt8) := if i = 0 then none else (A[i - 1]?).map (·.1)
theorem prv_succ (A : List Lb) (i : Nat) (h : i < A.length) : prv A (i + 1) = some A[i].1 := by
  unfold prv
  rw [if_neg (by omega), Nat.add_sub_cancel, List.getElem?_eq_getElem h]
  rfl
theorem chkL_drop (A : List Lb) (i : Nat) (p : Option (List UInt8)) (h : i < A.length) : chkL (A.drop i) p = if lnameB A[i].1 = false then 9 else if txE A[i].2 ≠ 0 then txE A[i].2 else
    match p with
    | none => chkL (A.drop (i + 1)) (some A[i].1)
    | some q => if bhE q A[i].1 ≠ 0 then bhE q A[i].1 else chkL (A.drop (i + 1)) (some A[i].1) := by
  rw [List.drop_eq_getElem_cons h]
  cases p <;> simp only [chkL]
/-- No text of a description is longer than memory is. -/
def DsS (d : Ds) : Prop := d.name.length ≤ 4611686018427387904 ∧ d.help.length ≤ 4611686018427387904 ∧ ∀ a ∈ d.labels, a.1.length ≤ 4611686018427387904 ∧ a.2.length ≤ 4611686018427387904
theorem bel_drewN {B : Nat} {a w : World} (h : Below B a w) (n : Nat) : Below B a (w.drewN n) := by
  induction n with
  | zero => exact h
  | succ n ih => exact ⟨ih.os, ih.tape, ih.output, ih.size, ih.block⟩
structure KH (w : World) (ao : Option Addr) (b o cap : Nat) (A : List Lb) (W : World) : Prop where
  f : W.cell? ⟨w.heap.size, 3, none⟩ = some (.slice ao A.length cap)
  r : RowL W b o A
  bl : Below w.heap.size w W
theorem KH.below {w W W1 : World} {ao : Option Addr} {b o cap : Nat} {A : List Lb} (h : KH w ao b o cap A W) (hb : Below W.heap.size W W1) : KH w ao b o cap A W1 :=
  ⟨by rw [hb.cell (p := ⟨w.heap.size, 3, none⟩) (lt_of_cell h.f)]; exact h.f, h.r.below hb, h.bl.trans (hb.mono h.bl.size)⟩
theorem bel_drew {B : Nat} {a w : World} (h : Below B a w) : Below B a w.drew := ⟨h.os, h.tape, h.output, h.size, h.block⟩
theorem sizeL (W : World) : (sizeOf 75).run Tryz.prog W = .ok 2 W := by simp [sizeOf]; rfl
theorem index_lab (b o len cap j : Nat) (z : Int) (hz : z = (j : Int)) (hj : j < len) (W : World) :
    (Instr.indexAt 32 (.slice (some ⟨b, o, none⟩) len cap) (.int .i64 z)).run Tryz.prog W = .ok (.pointer (some ⟨b, o + j * 2, none⟩)) W := by
  subst hz
  have he : Tryz.prog.elem 32 = 75 := by simp [Program.elem, Tryz.underlying32]
  rw [run_indexAt_slice W 32 ⟨b, o, none⟩ len cap .i64 (j : Int) (by rw [he]; exact Tryz.underlying32), if_pos (by omega), he, sizeL]
  simp [Addr.add]
end Go.Proofs.YtkakanejiakbkaaGreatDoor.La
