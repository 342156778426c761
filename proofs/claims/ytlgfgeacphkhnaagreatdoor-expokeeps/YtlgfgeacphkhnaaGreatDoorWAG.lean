/- LISTS OF LABELS in memory; SameLabels, the document's. Own work of the verifier. -/
import Derived.Test.YtlgfgeacphkhnaaGreatDoorWAF
namespace Go.Proofs.YtlgfgeacphkhnaaGreatDoor.La
open Go.RowKit

abbrev Lb : Type := List UInt8 × List UInt8
theorem lt_of_cell {w : World} {a : Addr} {v : Value} (h : w.cell? a = some v) : a.block < w.heap.size := by
 unfold World.cell? at h
 split at h
 ·rename_i h1
  rcases Nat.lt_or_ge a.block w.heap.size with k | k
  ·exact k
  ·rw [Array.getElem?_eq_none k] at h1; cases h1
 ·cases h
def RowL (W : World) (b o : Nat) (L : List Lb) : Prop := ∀ i (h : i < L.length), W.cell? ⟨b, o + i * 2, none⟩ = some (.string ⟨L[i].1.toArray⟩) ∧ W.cell? ⟨b, o + i * 2 + 1, none⟩ = some (.string ⟨L[i].2.toArray⟩)
theorem RowL.below {W W1 : World} {b o : Nat} {L : List Lb} (h : RowL W b o L) (hb : Below W.heap.size W W1) : RowL W1 b o L := fun i hi => by
 obtain ⟨h1, h2⟩ := h i hi
 rw [hb.cell (p := ⟨b, o + i * 2, none⟩) (lt_of_cell h1), hb.cell (p := ⟨b, o + i * 2 + 1, none⟩) (lt_of_cell h2)]
 exact ⟨h1, h2⟩
theorem below_drewN (w : World) (n : Nat) : Below w.heap.size w (w.drewN n) := by
 induction n with
 | zero => exact Below.refl _ _
 | succ n ih => exact ⟨ih.os, ih.tape, ih.output, ih.size, ih.block⟩
theorem retB {A B : Bool} (h : A = B) : Ending.returned (Value.bool A) = .returned (.bool B) := by rw [h]
theorem retI {k : IntKind} {A B : Int} (h : A = B) : Ending.returned (Value.int k A) = .returned (.int k B) := by rw [h]
set_option maxHeartbeats 2000000 in
set_option maxRecDepth 100000 in
theorem samel_any (ao : Option Addr) (b o cap : Nat) (A : List Lb) (hao : A ≠ [] → ao = some ⟨b, o, none⟩) (ao' : Option Addr) (b' o' cap' : Nat) (C : List Lb) (hao' : C ≠ [] → ao' = some ⟨b', o', none⟩) (hl : A.length ≤ 9223372036854775807) (w : World) (hA : RowL w b o A) (hC : RowL w b' o' C) :
  Calls Tryz.prog 64 #[.slice ao A.length cap, .slice ao' C.length cap'] w fun e w' => e = .returned (.bool (decide (A = C))) ∧ ∃ n, w' = w.drewN n := by
 by_cases hlen : A.length = C.length
 ·have ht : ((A.length : Int) != (C.length : Int)) = false := by rw [bne_eq_false_iff_eq]; omega
  have HL : Hid _ := hlen
  have HA : Hid _ := hA
  have HC : Hid _ := hC
  clear hlen hA hC
  go_enter Tryz.func64, Tryz.ntmps64
  go_wp2_with fail
  go_loopw [5] (fun c wr => ∃ i n : Nat, i ≤ A.length ∧ c = .int .i64 (i : Int) ∧ wr = w.drewN n ∧ Hid (A.take i = C.take i)) (fun c _ => A.length - (intOf c).toNat)
  case atStart => exact ⟨0, 0, by omega, rfl, rfl, by simp [Hid]⟩
  case round =>
   obtain ⟨i, n, hi, rfl, rfl, hE⟩ := hrel
   by_cases hlt : i < A.length
   ·have hlt2 : i < C.length := by have := HL.out; omega
    obtain rfl := hao (by intro e; rw [e] at hlt; simp at hlt)
    obtain rfl := hao' (by intro e; rw [e] at hlt2; simp at hlt2)
    have hlt' : (i : Int) < (A.length : Int) := by omega
    have hlt2' : (i : Int) < (C.length : Int) := by omega
    obtain ⟨q1, q2⟩ := HA.out i hlt
    obtain ⟨q3, q4⟩ := HC.out i hlt2
    have HT1 : Hid (A.take (i + 1) = A.take i ++ [A[i]]) := List.take_succ_eq_append_getElem hlt
    have HT2 : Hid (C.take (i + 1) = C.take i ++ [C[i]]) := List.take_succ_eq_append_getElem hlt2
    have HN : Hid (A[i] ≠ C[i] → A ≠ C) := fun h e => h (by subst e; rfl)
    obtain ⟨x, y, hxy⟩ : ∃ x y, A[i] = (x, y) := ⟨_, _, rfl⟩
    obtain ⟨u, v, huv⟩ : ∃ u v, C[i] = (u, v) := ⟨_, _, rfl⟩
    rw [hxy] at q1 q2 HT1 HN
    rw [huv] at q3 q4 HT2 HN
    clear hxy huv
    by_cases he : x = u ∧ y = v
    ·obtain ⟨rfl, rfl⟩ := he
     clear HN
     as_aux_lemma =>
      go_wp2_with fail
      go_region
      go_wp2_with fail
      exact ⟨⟨i + 1, n + 1, by omega, by go_num, rfl, by unfold Hid; rw [HT1.out, HT2.out, hE.out]⟩, by simp [intOf]; omega⟩
    ·have hne : decide (A = C) = false := decide_eq_false (HN.out (fun e => he ⟨(Prod.mk.inj e).1, (Prod.mk.inj e).2⟩))
     have HNE : Hid _ := hne
     have hor : (x == u) = false ∨ (x = u ∧ (y == v) = false) := by
      by_cases h1 : x = u
      ·right
       exact ⟨h1, by simpa using fun h2 => he ⟨h1, h2⟩⟩
      ·left
       simpa using h1
     clear he hne HN HT1 HT2 hE
     rcases hor with h1 | ⟨rfl, h1⟩
     ·as_aux_lemma =>
       go_wp2_with fail
       go_region
       go_wp2_with fail
       go_ret
       exact ⟨retB HNE.out.symm, n + 1, rfl⟩
     ·as_aux_lemma =>
       go_wp2_with fail
       go_region
       go_wp2_with fail
       go_ret
       exact ⟨retB HNE.out.symm, n + 1, rfl⟩
   ·obtain rfl : i = A.length := by omega
    have hlt' : ¬ (A.length : Int) < (A.length : Int) := by omega
    have he : decide (A = C) = true := by
     have := hE.out
     rw [List.take_length, HL.out, List.take_length] at this
     exact decide_eq_true this
    have HE : Hid _ := he
    clear he
    as_aux_lemma =>
     go_wp2_with fail
     go_ret
     exact ⟨retB HE.out.symm, n, rfl⟩
 ·have ht : ((A.length : Int) != (C.length : Int)) = true := by rw [bne_iff_ne]; omega
  have he : decide (A = C) = false := decide_eq_false (fun e => hlen (by rw [e]))
  rw [he]
  clear he hlen hA hC
  as_aux_lemma =>
   go_enter Tryz.func64, Tryz.ntmps64
   go_wp2_with fail
   go_ret
   exact ⟨rfl, 0, rfl⟩
end Go.Proofs.YtlgfgeacphkhnaaGreatDoor.La
/- Same, Compare, the document's. Own work of the verifier. -/
namespace Go.Proofs.YtlgfgeacphkhnaaGreatDoor.La
open Go.RowKit

structure Ds where
 kind : Int
 name : List UInt8
 help : List UInt8
 labels : List Lb
 deriving DecidableEq
structure DsAt (W : World) (d : Ds) (v : Value) : Prop where
 ex : ∃ (ao : Option Addr) (b o cap : Nat), v = .agg #[.int .i64 d.kind, .string ⟨d.name.toArray⟩, .string ⟨d.help.toArray⟩, .slice ao d.labels.length cap] ∧ (d.labels ≠ [] → ao = some ⟨b, o, none⟩) ∧ d.labels.length ≤ 9223372036854775807 ∧ RowL W b o d.labels
theorem bel2 (w : World) (o1 o2 : Obj) : Below w.heap.size w ((w.alloc o1).alloc o2) :=
 ((Below.refl _ _).alloc (Nat.le_refl _) _).alloc (by simp) _
set_option maxHeartbeats 2000000 in
set_option maxRecDepth 100000 in
theorem dsame_any (d e : Ds) (v u : Value) (w : World) (hd : DsAt w d v) (he : DsAt w e u) :
  Calls Tryz.prog 33 #[v, u] w fun r w' => r = .returned (.bool (decide (d = e))) ∧ Below w.heap.size w w' := by
 obtain ⟨ao, b, o, cap, rfl, h1, h2, h3⟩ := hd.ex
 obtain ⟨ao', b', o', cap', rfl, k1, k2, k3⟩ := he.ex
 obtain ⟨kd, n, h, L⟩ := d
 obtain ⟨kd', n', h', L'⟩ := e
 have HSL : Hid (∀ W, Below w.heap.size w W → Calls Tryz.prog 64 #[.slice ao L.length cap, .slice ao' L'.length cap'] W fun e w' => e = .returned (.bool (decide (L = L'))) ∧ ∃ n, w' = W.drewN n) := fun W hb => samel_any ao b o cap L h1 ao' b' o' cap' L' k1 h2 W (h3.below hb) (k3.below hb)
 clear h1 h2 h3 k1 k2 k3 hd he
 by_cases g1 : kd = kd'
 ·subst g1
  by_cases g2 : n = n'
  ·subst g2
   by_cases g3 : h = h'
   ·subst g3
    have hE : decide ((⟨kd, n, h, L⟩ : Ds) = ⟨kd, n, h, L'⟩) = decide (L = L') := decide_eq_decide.2 ⟨fun e => (Ds.mk.inj e).2.2.2, fun e => by rw [e]⟩
    have HE : Hid _ := hE
    clear hE
    as_aux_lemma =>
     go_enter Tryz.func33, Tryz.ntmps33
     go_wp2_with fail
     refine (HSL.out _ (bel2 w _ _)).mono ?_
     rintro r w1 ⟨rfl, m, rfl⟩
     go_wp2_with fail
     go_ret
     exact ⟨retB HE.out.symm, (bel2 w _ _).trans ((below_drewN _ m).mono (bel2 w _ _).size)⟩
   ·have g3' : (h == h') = false := by simpa using g3
    rw [show decide ((⟨kd, n, h, L⟩ : Ds) = ⟨kd, n, h', L'⟩) = false from decide_eq_false (fun e => g3 (Ds.mk.inj e).2.2.1)]
    clear g3
    as_aux_lemma =>
     go_enter Tryz.func33, Tryz.ntmps33
     go_wp2_with fail
     go_ret
     exact ⟨rfl, bel2 w _ _⟩
  ·have g2' : (n == n') = false := by simpa using g2
   rw [show decide ((⟨kd, n, h, L⟩ : Ds) = ⟨kd, n', h', L'⟩) = false from decide_eq_false (fun e => g2 (Ds.mk.inj e).2.1)]
   clear g2
   as_aux_lemma =>
    go_enter Tryz.func33, Tryz.ntmps33
    go_wp2_with fail
    go_ret
    exact ⟨rfl, bel2 w _ _⟩
 ·have g1' : (kd == kd') = false := by simpa using g1
  rw [show decide ((⟨kd, n, h, L⟩ : Ds) = ⟨kd', n', h', L'⟩) = false from decide_eq_false (fun e => g1 (Ds.mk.inj e).1)]
  clear g1
  as_aux_lemma =>
   go_enter Tryz.func33, Tryz.ntmps33
   go_wp2_with fail
   go_ret
   exact ⟨rfl, bel2 w _ _⟩
def ordL : List Lb → List Lb → Int
 | [], [] => 0
 | [], _ :: _ => -1
 | _ :: _, [] => 1
 | a :: A, b :: B => if ordE a.1 b.1 ≠ 0 then ordE a.1 b.1 else if ordE a.2 b.2 ≠ 0 then ordE a.2 b.2 else ordL A B
def ordD (d e : Ds) : Int := if ordE d.name e.name ≠ 0 then ordE d.name e.name else ordL d.labels e.labels
theorem ordL_drop (A B : List Lb) (i : Nat) (h1 : i < A.length) (h2 : i < B.length) : ordL (A.drop i) (B.drop i) = if ordE A[i].1 B[i].1 ≠ 0 then ordE A[i].1 B[i].1 else if ordE A[i].2 B[i].2 ≠ 0 then ordE A[i].2 B[i].2 else ordL (A.drop (i + 1)) (B.drop (i + 1)) := by
 rw [List.drop_eq_getElem_cons h1, List.drop_eq_getElem_cons h2, ordL]
theorem ordL_end (A B : List Lb) (i : Nat) (h : ¬ (i < A.length ∧ i < B.length)) (h1 : i ≤ A.length) (h2 : i ≤ B.length) : ordL (A.drop i) (B.drop i) = if A.length < B.length then -1 else if B.length < A.length then 1 else 0 := by
 rcases Nat.lt_or_ge i A.length with g | g
 ·have g2 : B.length = i := by omega
  rw [List.drop_eq_getElem_cons g, List.drop_eq_nil_of_le (by omega : B.length ≤ i), ordL, if_neg (by omega), if_pos (by omega)]
 ·rw [List.drop_eq_nil_of_le g]
  rcases Nat.lt_or_ge i B.length with k | k
  ·rw [List.drop_eq_getElem_cons k, ordL, if_pos (by omega)]
  ·rw [List.drop_eq_nil_of_le k, ordL, if_neg (by omega), if_neg (by omega)]
end Go.Proofs.YtlgfgeacphkhnaaGreatDoor.La
/- Compare, the document's: THE WALK. Own work of the verifier. -/
namespace Go.Proofs.YtlgfgeacphkhnaaGreatDoor.La
open Go.RowKit

theorem ordE_cases (a b : List UInt8) : ordE a b = -1 ∨ ordE a b = 0 ∨ ordE a b = 1 := by
 unfold ordE
 split
 ·exact Or.inl rfl
 ·split
  ·exact Or.inr (Or.inr rfl)
  ·exact Or.inr (Or.inl rfl)
structure KC (w : World) (ao ao' : Option Addr) (b o cap b' o' cap' : Nat) (A B : List Lb) (W : World) : Prop where
 f1 : W.cell? ⟨w.heap.size, 3, none⟩ = some (.slice ao A.length cap)
 f2 : W.cell? ⟨w.heap.size + 1, 3, none⟩ = some (.slice ao' B.length cap')
 r1 : RowL W b o A
 r2 : RowL W b' o' B
 bl : Below w.heap.size w W
theorem KC.drew {w W : World} {ao ao' : Option Addr} {b o cap b' o' cap' : Nat} {A B : List Lb} (h : KC w ao ao' b o cap b' o' cap' A B W) (n : Nat) : KC w ao ao' b o cap b' o' cap' A B (W.drewN n) := by
 have hb := below_drewN W n
 exact ⟨by rw [hb.cell (p := ⟨w.heap.size, 3, none⟩) (lt_of_cell h.f1)]; exact h.f1, by rw [hb.cell (p := ⟨w.heap.size + 1, 3, none⟩) (lt_of_cell h.f2)]; exact h.f2, h.r1.below hb, h.r2.below hb, h.bl.trans (hb.mono h.bl.size)⟩
theorem box_cells (w : World) (t t' : TypeId) (x0 x1 x2 x3 y0 y1 y2 y3 : Value) :
  ((w.alloc (.cells #[x0, x1, x2, x3] t)).alloc (.cells #[y0, y1, y2, y3] t')).cell? ⟨w.heap.size, 3, none⟩ = some x3 ∧ ((w.alloc (.cells #[x0, x1, x2, x3] t)).alloc (.cells #[y0, y1, y2, y3] t')).cell? ⟨w.heap.size + 1, 3, none⟩ = some y3 := by
 constructor <;> simp [go_sem]
set_option maxHeartbeats 4000000 in
set_option maxRecDepth 100000 in
theorem dcompare_any (d e : Ds) (v u : Value) (w : World) (hd : DsAt w d v) (he : DsAt w e u) :
  Calls Tryz.prog 20 #[v, u] w fun r w' => r = .returned (.int .i64 (ordD d e)) ∧ Below w.heap.size w w' := by
 obtain ⟨ao, b, o, cap, rfl, h1, h2, h3⟩ := hd.ex
 obtain ⟨ao', b', o', cap', rfl, k1, k2, k3⟩ := he.ex
 obtain ⟨kd, n, h, A⟩ := d
 obtain ⟨kd', n', h', B⟩ := e
 have HO : Hid (∀ (a b : List UInt8) W, Calls Tryz.prog 46 #[.string ⟨a.toArray⟩, .string ⟨b.toArray⟩] W fun r w' => r = .returned (.int .i64 (ordE a b)) ∧ w' = W) := fun a b W => order_any a b W
 have HKs : Hid (∀ t t', KC w ao ao' b o cap b' o' cap' A B ((w.alloc (.cells #[.int .i64 kd, .string ⟨n.toArray⟩, .string ⟨h.toArray⟩, .slice ao A.length cap] t)).alloc (.cells #[.int .i64 kd', .string ⟨n'.toArray⟩, .string ⟨h'.toArray⟩, .slice ao' B.length cap'] t'))) := fun t t' =>
  ⟨(box_cells w t t' _ _ _ _ _ _ _ _).1, (box_cells w t t' _ _ _ _ _ _ _ _).2, h3.below (bel2 w _ _), k3.below (bel2 w _ _), bel2 w _ _⟩
 have hD : ordD ⟨kd, n, h, A⟩ ⟨kd', n', h', B⟩ = if ordE n n' ≠ 0 then ordE n n' else ordL A B := rfl
 rw [hD]
 clear hD hd he h3 k3
 have HO1 : Hid _ := HO.out n n'
 have hc := ordE_cases n n'
 generalize ordE n n' = z at *
 by_cases hz : z = 0
 ·subst hz
  rw [if_neg (by decide)]
  obtain ⟨R, hR⟩ : ∃ R, R = ordL A B := ⟨_, rfl⟩
  rw [← hR]
  have HR0 : Hid (R = ordL (A.drop 0) (B.drop 0)) := hR
  clear hR hc
  go_enter Tryz.func20, Tryz.ntmps20
  go_wp2_with fail
  refine (HO1.out _).mono ?_
  rintro r w1 ⟨rfl, rfl⟩
  clear HO1
  go_wp2_with fail
  go_loopw [6] (fun a W => ∃ i : Nat, i ≤ A.length ∧ i ≤ B.length ∧ a = .int .i64 (i : Int) ∧ Hid (R = ordL (A.drop i) (B.drop i)) ∧ Hid (KC w ao ao' b o cap b' o' cap' A B W)) (fun a _ => A.length - (intOf a).toNat)
  case atStart => exact ⟨0, by omega, by omega, rfl, HR0, HKs.out _ _⟩
  case round =>
   clear HKs HR0
   obtain ⟨i, i1, i2, rfl, HR, HK⟩ := hrel
   have f1 := HK.out.f1
   have f2 := HK.out.f2
   by_cases hlt : i < A.length ∧ i < B.length
   ·obtain ⟨l1, l2⟩ := hlt
    have l1' : (i : Int) < (A.length : Int) := by omega
    have l2' : (i : Int) < (B.length : Int) := by omega
    obtain rfl := h1 (by intro k; change A = [] at k; rw [k] at l1; simp at l1)
    obtain rfl := k1 (by intro k; change B = [] at k; rw [k] at l2; simp at l2)
    obtain ⟨q1, q2⟩ := HK.out.r1 i l1
    obtain ⟨q3, q4⟩ := HK.out.r2 i l2
    have HK1 : Hid (KC w (some ⟨b, o, none⟩) (some ⟨b', o', none⟩) b o cap b' o' cap' A B wr.drew) := HK.out.drew 1
    have HK2 : Hid (KC w (some ⟨b, o, none⟩) (some ⟨b', o', none⟩) b o cap b' o' cap' A B wr.drew.drew) := HK1.out.drew 1
    have Q2 : Hid _ := (HK1.out.r1 i l1).2
    have Q4 : Hid _ := (HK1.out.r2 i l2).2
    have hS := HR.out
    rw [ordL_drop A B i l1 l2] at hS
    have HO1 : Hid _ := HO.out A[i].1 B[i].1
    have HO2 : Hid _ := HO.out A[i].2 B[i].2
    have z1c := ordE_cases A[i].1 B[i].1
    have z2c := ordE_cases A[i].2 B[i].2
    generalize ordE A[i].1 B[i].1 = z1 at *
    generalize ordE A[i].2 B[i].2 = z2 at *
    generalize A[i].1 = x1 at *
    generalize A[i].2 = x2 at *
    generalize B[i].1 = y1 at *
    generalize B[i].2 = y2 at *
    clear HR HO
    clear HK
    as_aux_lemma =>
    go_upto_region 7 with fail
    go_cut [7] from 31 to 43 (fun v W => v = .int .i64 z1 ∧ W = wr.drew)
    case first =>
     clear HK1 HK2 hS HO2 z1c z2c Q2 Q4
     as_aux_lemma =>
      go_region_with (go_at_call 46; with_reducible refine (HO1.out _).mono ?_; rintro r w1 ⟨rfl, rfl⟩)
      all_goals
       go_wp2_with fail
       go_meet
       exact ⟨rfl, rfl⟩
    case rest =>
    obtain ⟨rfl, rfl⟩ := hcut
    clear HO1 f1 f2 q1 q2 q3 q4
    by_cases e1 : z1 = 0
    ·have e1' : (z1 != 0) = false := by simpa using e1
     rw [if_neg (by simpa using e1)] at hS
     have f1 := HK1.out.f1
     have f2 := HK1.out.f2
     have q2 := Q2.out
     have q4 := Q4.out
     clear Q2 Q4
     clear z1c e1
     as_aux_lemma =>
     go_upto_region 10 with fail
     go_cut [8] from 47 to 59 (fun v W => v = .int .i64 z2 ∧ W = wr.drew.drew)
     case first =>
      clear HK1 HK2 hS z2c
      as_aux_lemma =>
       go_region_with (go_at_call 46; with_reducible refine (HO2.out _).mono ?_; rintro r w1 ⟨rfl, rfl⟩)
       all_goals
        go_wp2_with fail
        go_meet
        exact ⟨rfl, rfl⟩
     case rest =>
     obtain ⟨rfl, rfl⟩ := hcut
     clear HO2 f1 f2 q2 q4 HK1
     by_cases e2 : z2 = 0
     ·have e2' : (z2 != 0) = false := by simpa using e2
      rw [if_neg (by simpa using e2)] at hS
      have HF : Hid _ := hS
      clear hS z2c e2
      as_aux_lemma =>
       go_wp2_with fail
       exact ⟨⟨i + 1, by omega, by omega, by go_num, HF, HK2⟩, by simp [intOf]; omega⟩
     ·have e2' : (z2 != 0) = true := by simpa using e2
      rw [if_pos e2] at hS
      have hbl := HK2.out.bl
      have HF : Hid _ := hS
      clear hS HK2 z2c e2
      as_aux_lemma =>
       go_wp2_with fail
       go_ret
       exact ⟨retI HF.out.symm, hbl⟩
    ·have e1' : (z1 != 0) = true := by simpa using e1
     rw [if_pos e1] at hS
     have hbl := HK1.out.bl
     have HF : Hid _ := hS
     clear hS HK1 HK2 z1c z2c e1 HO2 Q2 Q4
     as_aux_lemma =>
      go_wp2_with fail
      go_ret
      exact ⟨retI HF.out.symm, hbl⟩
   ·have hS := HR.out
    rw [ordL_end A B i hlt i1 i2] at hS
    have hbl := HK.out.bl
    clear HR HK HO h1 k1
    by_cases a1 : i < A.length
    ·have a1' : (i : Int) < (A.length : Int) := by omega
     have a2' : ¬ (i : Int) < (B.length : Int) := by omega
     have a3' : ¬ (A.length : Int) < (B.length : Int) := by omega
     have a4' : (B.length : Int) < (A.length : Int) := by omega
     rw [if_neg (by omega), if_pos (by omega)] at hS
     have HF : Hid _ := hS
     clear hS hlt
     as_aux_lemma =>
      go_wp2_with fail
      go_ret
      exact ⟨retI HF.out.symm, hbl⟩
    ·have a1' : ¬ (i : Int) < (A.length : Int) := by omega
     by_cases a2 : i < B.length
     ·have a3' : (A.length : Int) < (B.length : Int) := by omega
      rw [if_pos (by omega)] at hS
      have HF : Hid _ := hS
      clear hS hlt
      as_aux_lemma =>
       go_wp2_with fail
       go_ret
       exact ⟨retI HF.out.symm, hbl⟩
     ·have a3' : ¬ (A.length : Int) < (B.length : Int) := by omega
      have a4' : ¬ (B.length : Int) < (A.length : Int) := by omega
      rw [if_neg (by omega), if_neg (by omega)] at hS
      have HF : Hid _ := hS
      clear hS hlt
      as_aux_lemma =>
       go_wp2_with fail
       go_ret
       exact ⟨retI HF.out.symm, hbl⟩
 ·rw [if_pos hz]
  have hz' : (z != 0) = true := by simpa using hz
  clear hc HKs
  as_aux_lemma =>
   go_enter Tryz.func20, Tryz.ntmps20
   go_wp2_with fail
   refine (HO1.out _).mono ?_
   rintro r w1 ⟨rfl, rfl⟩
   go_wp2_with fail
   go_ret
   exact ⟨rfl, bel2 w _ _⟩
end Go.Proofs.YtlgfgeacphkhnaaGreatDoor.La
/- Check, the document's. Own work of the verifier. -/
namespace Go.Proofs.YtlgfgeacphkhnaaGreatDoor.La
open Go.RowKit

def chkL : List Lb → Option (List UInt8) → Int
 | [], _ => 0
 | a :: r, p => if lnameB a.1 = false then 9 else if txE a.2 ≠ 0 then txE a.2 else
  match p with
  | none => chkL r (some a.1)
  | some q => if bhE q a.1 ≠ 0 then bhE q a.1 else chkL r (some a.1)
def chkD (d : Ds) : Int := if d.kind < 1 ∨ 3 < d.kind then 7 else if nameB d.name = false then 9 else if txE d.help ≠ 0 then txE d.help else if 16 < d.labels.length then 3 else chkL d.labels none
def prv (A : List Lb) (i : Nat) : Option (List UInt8) := if i = 0 then none else (A[i - 1]?).map (·.1)
theorem prv_succ (A : List Lb) (i : Nat) (h : i < A.length) : prv A (i + 1) = some A[i].1 := by
 unfold prv
 rw [if_neg (by omega), Nat.add_sub_cancel, List.getElem?_eq_getElem h]
 rfl
theorem chkL_drop (A : List Lb) (i : Nat) (p : Option (List UInt8)) (h : i < A.length) : chkL (A.drop i) p = if lnameB A[i].1 = false then 9 else if txE A[i].2 ≠ 0 then txE A[i].2 else
  match p with
  | none => chkL (A.drop (i + 1)) (some A[i].1)
  | some q => if bhE q A[i].1 ≠ 0 then bhE q A[i].1 else chkL (A.drop (i + 1)) (some A[i].1) := by
 rw [List.drop_eq_getElem_cons h]
 cases p <;> simp only [chkL]
def DsS (d : Ds) : Prop := d.name.length ≤ 4611686018427387904 ∧ d.help.length ≤ 4611686018427387904 ∧ ∀ a ∈ d.labels, a.1.length ≤ 4611686018427387904 ∧ a.2.length ≤ 4611686018427387904
theorem bel_drewN {B : Nat} {a w : World} (h : Below B a w) (n : Nat) : Below B a (w.drewN n) := by
 induction n with
 | zero => exact h
 | succ n ih => exact ⟨ih.os, ih.tape, ih.output, ih.size, ih.block⟩
structure KH (w : World) (ao : Option Addr) (b o cap : Nat) (A : List Lb) (W : World) : Prop where
 f : W.cell? ⟨w.heap.size, 3, none⟩ = some (.slice ao A.length cap)
 r : RowL W b o A
 bl : Below w.heap.size w W
theorem KH.below {w W W1 : World} {ao : Option Addr} {b o cap : Nat} {A : List Lb} (h : KH w ao b o cap A W) (hb : Below W.heap.size W W1) : KH w ao b o cap A W1 :=
 ⟨by rw [hb.cell (p := ⟨w.heap.size, 3, none⟩) (lt_of_cell h.f)]; exact h.f, h.r.below hb, h.bl.trans (hb.mono h.bl.size)⟩
theorem bel_drew {B : Nat} {a w : World} (h : Below B a w) : Below B a w.drew := ⟨h.os, h.tape, h.output, h.size, h.block⟩
theorem sizeL (W : World) : (sizeOf 46).run Tryz.prog W = .ok 2 W := by simp [sizeOf]; rfl
theorem index_lab (b o len cap j : Nat) (z : Int) (hz : z = (j : Int)) (hj : j < len) (W : World) :
  (Instr.indexAt 28 (.slice (some ⟨b, o, none⟩) len cap) (.int .i64 z)).run Tryz.prog W = .ok (.pointer (some ⟨b, o + j * 2, none⟩)) W := by
 subst hz
 have he : Tryz.prog.elem 28 = 46 := by simp [Program.elem, Tryz.underlying28]
 rw [run_indexAt_slice W 28 ⟨b, o, none⟩ len cap .i64 (j : Int) (by rw [he]; exact Tryz.underlying28), if_pos (by omega), he, sizeL]
 simp [Addr.add]
set_option maxHeartbeats 4000000 in
set_option maxRecDepth 100000 in
theorem dcheck_any (d : Ds) (v : Value) (w : World) (hd : DsAt w d v) (hs : DsS d) :
  Calls Tryz.prog 18 #[v] w fun r w' => r = .returned (.int .i64 (chkD d)) ∧ Below w.heap.size w w' := by
 obtain ⟨ao, b, o, cap, rfl, h1, h2, h3⟩ := hd.ex
 obtain ⟨kd, n, h, A⟩ := d
 obtain ⟨s1, s2, s3⟩ := hs
 have HN : Hid _ := fun W => name_any n s1 W
 have HH : Hid _ := fun W => ltext_any h s2 W
 have HLn : Hid (∀ l : List UInt8, l.length ≤ 4611686018427387904 → ∀ W, Calls Tryz.prog 38 #[.string ⟨l.toArray⟩] W fun r w' => r = .returned (.bool (lnameB l)) ∧ w' = W) := fun l hl W => lname_any l hl W
 have HTx : Hid (∀ l : List UInt8, l.length ≤ 4611686018427387904 → ∀ W, Calls Tryz.prog 37 #[.string ⟨l.toArray⟩] W fun r w' => r = .returned (.int .i64 (txE l)) ∧ w' = W) := fun l hl W => ltext_any l hl W
 have HBh : Hid (∀ (a b : List UInt8) W, Calls Tryz.prog 39 #[.string ⟨a.toArray⟩, .string ⟨b.toArray⟩] W fun r w' => r = .returned (.int .i64 (bhE a b)) ∧ w' = W) := fun a b W => behind_any a b W
 have HS3 : Hid (∀ a ∈ A, a.1.length ≤ 4611686018427387904 ∧ a.2.length ≤ 4611686018427387904) := s3
 have HK0 : Hid (∀ t, KH w ao b o cap A (w.alloc (.cells #[.int .i64 kd, .string ⟨n.toArray⟩, .string ⟨h.toArray⟩, .slice ao A.length cap] t))) := fun t => ⟨by simp [go_sem], h3.below (bel1 w _), bel1 w _⟩
 have hD : chkD ⟨kd, n, h, A⟩ = if kd < 1 ∨ 3 < kd then 7 else if nameB n = false then 9 else if txE h ≠ 0 then txE h else if 16 < A.length then 3 else chkL A none := rfl
 rw [hD]
 clear hD hd h3 s1 s2 s3
 by_cases g1 : kd < 1
 ·rw [if_pos (Or.inl g1)]
  clear HN HH HLn HTx HBh HS3 HK0
  as_aux_lemma =>
   go_enter Tryz.func18, Tryz.ntmps18
   go_wp2_with fail
   go_ret
   exact ⟨rfl, bel1 w _⟩
 by_cases g2 : 3 < kd
 ·rw [if_pos (Or.inr g2)]
  clear HN HH HLn HTx HBh HS3 HK0
  as_aux_lemma =>
   go_enter Tryz.func18, Tryz.ntmps18
   go_wp2_with fail
   go_ret
   exact ⟨rfl, bel1 w _⟩
 rw [if_neg (by omega)]
 generalize nameB n = nb at *
 cases nb
 ·rw [if_pos rfl]
  clear HH HLn HTx HBh HS3 HK0
  as_aux_lemma =>
   go_enter Tryz.func18, Tryz.ntmps18
   go_wp2_with fail
   refine (HN.out _).mono ?_
   rintro r w1 ⟨rfl, rfl⟩
   go_wp2_with fail
   go_ret
   exact ⟨rfl, bel1 w _⟩
 rw [if_neg (by decide)]
 generalize txE h = z at *
 by_cases g3 : z = 0
 ·subst g3
  rw [if_neg (by decide)]
  by_cases g4 : 16 < A.length
  ·have g4' : (16 : Int) < (A.length : Int) := by omega
   rw [if_pos g4]
   clear HLn HTx HBh HS3 HK0
   as_aux_lemma =>
    go_enter Tryz.func18, Tryz.ntmps18
    go_wp2_with fail
    refine (HN.out _).mono ?_
    rintro r w1 ⟨rfl, rfl⟩
    go_wp2_with fail
    refine (HH.out _).mono ?_
    rintro r w1 ⟨rfl, rfl⟩
    go_wp2_with fail
    go_ret
    exact ⟨rfl, bel1 w _⟩
  have g4' : ¬ (16 : Int) < (A.length : Int) := by omega
  rw [if_neg g4]
  obtain ⟨R, hR⟩ : ∃ R, R = chkL A none := ⟨_, rfl⟩
  rw [← hR]
  have HR0 : Hid (R = chkL (A.drop 0) (prv A 0)) := hR
  clear hR
  go_enter Tryz.func18, Tryz.ntmps18
  go_wp2_with fail
  refine (HN.out _).mono ?_
  rintro r w1 ⟨rfl, rfl⟩
  go_wp2_with fail
  refine (HH.out _).mono ?_
  rintro r w1 ⟨rfl, rfl⟩
  clear HN HH
  go_wp2_with fail
  go_loopw [4] (fun a W => ∃ i : Nat, i ≤ A.length ∧ a = .int .i64 (i : Int) ∧ Hid (R = chkL (A.drop i) (prv A i)) ∧ Hid (KH w ao b o cap A W)) (fun a _ => A.length - (intOf a).toNat)
  case atStart => exact ⟨0, by omega, rfl, HR0, HK0.out _⟩
  case round =>
   clear HK0 HR0
   obtain ⟨i, hi, rfl, HR, HK⟩ := hrel
   have f1 := HK.out.f
   by_cases hlt : i < A.length
   ·have hlt' : (i : Int) < (A.length : Int) := by omega
    obtain rfl := h1 (by intro k; change A = [] at k; rw [k] at hlt; simp at hlt)
    obtain ⟨q1, q2⟩ := HK.out.r i hlt
    obtain ⟨m1, m2⟩ := HS3.out A[i] (List.getElem_mem hlt)
    have hS := HR.out
    rw [chkL_drop A i _ hlt] at hS
    have HL1 : Hid _ := HLn.out A[i].1 m1
    have HT1 : Hid _ := HTx.out A[i].2 m2
    have HB1 : Hid (∀ p, Hid (∀ W, Calls Tryz.prog 39 #[.string ⟨p.toArray⟩, .string ⟨A[i].1.toArray⟩] W fun r w' => r = .returned (.int .i64 (bhE p A[i].1)) ∧ w' = W)) := fun p => HBh.out p A[i].1
    have HPr : Hid (prv A (i + 1) = some A[i].1) := prv_succ A i hlt
    have HKn : Hid (∀ t, KH w (some ⟨b, o, none⟩) b o cap A (wr.alloc (.cells #[.string ⟨A[i].1.toArray⟩, .string ⟨A[i].2.toArray⟩] t))) := fun t => HK.out.below (bel1 wr _)
    have hBl := HK.out.bl
    generalize lnameB A[i].1 = lb at *
    generalize txE A[i].2 = tz at *
    generalize hx1 : A[i].1 = x1 at *
    generalize A[i].2 = x2 at *
    clear HR HLn HTx HBh m1 m2 hx1
    cases lb
    ·rw [if_pos rfl] at hS
     have HF : Hid _ := hS
     clear hS HK HT1 HB1 HPr HKn HS3
     as_aux_lemma =>
      go_wp2_with fail
      refine (HL1.out _).mono ?_
      rintro r w1 ⟨rfl, rfl⟩
      go_wp2_with fail
      go_ret
      exact ⟨retI HF.out.symm, hBl.trans ((bel1 wr _).mono hBl.size)⟩
    rw [if_neg (by decide)] at hS
    by_cases e1 : tz = 0
    ·subst e1
     rw [if_neg (by decide)] at hS
     by_cases i0 : i = 0
     ·have i0' : ((i : Int) == 0) = true := by rw [beq_iff_eq]; omega
      have HF : Hid (R = chkL (A.drop (i + 1)) (prv A (i + 1))) := by
       show R = _
       rw [HPr.out]
       have hp : prv A i = none := by unfold prv; rw [if_pos i0]
       rw [hp] at hS
       exact hS
      clear hS HK HB1 HPr HS3 i0
      as_aux_lemma =>
       go_wp2_with fail
       refine (HL1.out _).mono ?_
       rintro r w1 ⟨rfl, rfl⟩
       go_wp2_with fail
       refine (HT1.out _).mono ?_
       rintro r w1 ⟨rfl, rfl⟩
       go_wp2_with fail
       exact ⟨⟨i + 1, by omega, by go_num, HF, HKn.out _⟩, by simp [intOf]; omega⟩
     ·obtain ⟨j, hj⟩ : ∃ j, i = j + 1 := ⟨i - 1, by omega⟩
      have jlt : j < A.length := by omega
      have i0' : ((i : Int) == 0) = false := by rw [beq_eq_false_iff_ne]; omega
      have hj' : (i : Int) - 1 = (j : Int) := by omega
      have jlt' : (j : Int) < (A.length : Int) := by omega
      have hix := index_lab b o A.length cap j ((i : Int) - 1) hj' jlt
      have hwr : IntKind.i64.wrap ((i : Int) - 1) = (j : Int) := by rw [IntKind.wrap_i64]; omega
      have hp : prv A i = some A[j].1 := by rw [hj]; exact prv_succ A j jlt
      rw [hp] at hS
      have HB2 : Hid _ := (HB1.out A[j].1).out
      have q5 := ((HKn.out 46).r j jlt).1
      have f5 := (HKn.out 46).f
      have HKm : Hid _ := HKn.out 46
      have c5 : (wr.alloc (.cells #[.string ⟨x1.toArray⟩, .string ⟨x2.toArray⟩] 46)).cell? ⟨wr.heap.size, 0, none⟩ = some (.string ⟨x1.toArray⟩) := by simp [go_sem]
      have HC5 : Hid _ := c5
      have HF5 : Hid _ := f5
      have HQ5 : Hid _ := q5
      clear c5 f5 q5 HKn
      have hS' : R = if bhE A[j].1 x1 ≠ 0 then bhE A[j].1 x1 else chkL (A.drop (i + 1)) (some x1) := hS
      clear hS
      generalize bhE A[j].1 x1 = bz at *
      generalize A[j].1 = pq at *
      clear hp HB1 HS3 HK hj i0
      as_aux_lemma =>
      go_wp2_with fail
      refine (HL1.out _).mono ?_
      rintro r w1 ⟨rfl, rfl⟩
      go_wp2_with fail
      refine (HT1.out _).mono ?_
      rintro r w1 ⟨rfl, rfl⟩
      clear HL1 HT1
      generalize wr.alloc (.cells #[.string ⟨x1.toArray⟩, .string ⟨x2.toArray⟩] 46) = W5 at *
      have c5 := HC5.out
      have f5 := HF5.out
      have q5 := HQ5.out
      clear HC5 HF5 HQ5
      go_upto_region 20 with fail
      go_cut [7] from 54 to 63 (fun v W => v = .int .i64 bz ∧ Hid (KH w (some ⟨b, o, none⟩) b o cap A W))
      case first =>
       clear hS'
       as_aux_lemma =>
        go_quiet (first | (go_at_call 39; exact Calls.quiet_of_same (HB2.out _)))
        go_wp2_with fail
        go_meet
        exact ⟨rfl, HKm.out.below (bel_drewN (Below.refl _ _) _)⟩
      case rest =>
      obtain ⟨rfl, HK5⟩ := hcut
      clear HB2 q5 f5 c5 HKm
      by_cases e2 : bz = 0
      ·subst e2
       rw [if_neg (by decide)] at hS'
       have HF : Hid (R = chkL (A.drop (i + 1)) (prv A (i + 1))) := by
        show R = _
        rw [HPr.out]
        exact hS'
       clear hS' HPr
       as_aux_lemma =>
        go_wp2_with fail
        exact ⟨⟨i + 1, by omega, by go_num, HF, HK5⟩, by simp [intOf]; omega⟩
      ·have e2' : (bz != 0) = true := by simpa using e2
       rw [if_pos e2] at hS'
       have HF : Hid _ := hS'
       have hbl := HK5.out.bl
       clear hS' HPr e2 HK5
       as_aux_lemma =>
        go_wp2_with fail
        go_ret
        exact ⟨retI HF.out.symm, hbl⟩
    ·rw [if_pos e1] at hS
     have e1' : (tz != 0) = true := by simpa using e1
     have HF : Hid _ := hS
     clear hS HK HB1 HPr HKn HS3 e1
     as_aux_lemma =>
      go_wp2_with fail
      refine (HL1.out _).mono ?_
      rintro r w1 ⟨rfl, rfl⟩
      go_wp2_with fail
      refine (HT1.out _).mono ?_
      rintro r w1 ⟨rfl, rfl⟩
      go_wp2_with fail
      go_ret
      exact ⟨retI HF.out.symm, hBl.trans ((bel1 wr _).mono hBl.size)⟩
   ·have hlt' : ¬ (i : Int) < (A.length : Int) := by omega
    have hS := HR.out
    rw [List.drop_eq_nil_of_le (by omega), chkL] at hS
    have HF : Hid _ := hS
    have hbl := HK.out.bl
    clear HR HK hS HLn HTx HBh HS3
    as_aux_lemma =>
     go_wp2_with fail
     go_ret
     exact ⟨retI HF.out.symm, hbl⟩
 ·rw [if_pos g3]
  have g3' : (z != 0) = true := by simpa using g3
  clear HLn HTx HBh HS3 HK0 g3
  as_aux_lemma =>
   go_enter Tryz.func18, Tryz.ntmps18
   go_wp2_with fail
   refine (HN.out _).mono ?_
   rintro r w1 ⟨rfl, rfl⟩
   go_wp2_with fail
   refine (HH.out _).mono ?_
   rintro r w1 ⟨rfl, rfl⟩
   go_wp2_with fail
   go_ret
   exact ⟨rfl, bel1 w _⟩
end Go.Proofs.YtlgfgeacphkhnaaGreatDoor.La
/- Print, the document's. Own work of the verifier. -/
namespace Go.Proofs.YtlgfgeacphkhnaaGreatDoor.La
open Go.RowKit

def lbT (a : Lb) : List UInt8 := a.1 ++ [61, 34] ++ escL true a.2 ++ [34]
def prB : Bool → List Lb → List UInt8
 | _, [] => []
 | f, a :: r => (if f then 123 else 44) :: (lbT a ++ prB false r)
def printT (n : List UInt8) (L : List Lb) : List UInt8 := n ++ prB true L ++ (if L.length = 0 then [] else [125])
theorem prB_drop (f : Bool) (L : List Lb) (i : Nat) (h : i < L.length) : prB f (L.drop i) = (if f then 123 else 44) :: (lbT L[i] ++ prB false (L.drop (i + 1))) := by
 rw [List.drop_eq_getElem_cons h, prB]
theorem sadd (a b : List UInt8) (h : a.length + b.length ≤ 9223372036854775807) (W : World) : (Op.stringOp .add ⟨a.toArray⟩ ⟨b.toArray⟩).run Tryz.prog W = .ok (.string ⟨(a ++ b).toArray⟩) W := by
 rw [run_string_add_sum W _ _ (by simp [ByteArray.size]; omega), ByteArray.mk_append_mk]
structure KQ (w : World) (b o : Nat) (A : List Lb) (W : World) : Prop where
 r : RowL W b o A
 bl : Below w.heap.size w W
theorem KQ.below {w W W1 : World} {b o : Nat} {A : List Lb} (h : KQ w b o A W) (hb : Below W.heap.size W W1) : KQ w b o A W1 := ⟨h.r.below hb, h.bl.trans (hb.mono h.bl.size)⟩
theorem keepQ {w W W1 : World} {b o i : Nat} {A : List Lb} {x y : Value} (hb : Below W.heap.size W W1)
  (h : W.cell? ⟨b, o + i * 2, none⟩ = some x ∧ W.cell? ⟨b, o + i * 2 + 1, none⟩ = some y ∧ KQ w b o A W) :
  W1.cell? ⟨b, o + i * 2, none⟩ = some x ∧ W1.cell? ⟨b, o + i * 2 + 1, none⟩ = some y ∧ KQ w b o A W1 := by
 obtain ⟨h1, h2, h3⟩ := h
 exact ⟨by rw [hb.cell (p := ⟨b, o + i * 2, none⟩) (lt_of_cell h1)]; exact h1, by rw [hb.cell (p := ⟨b, o + i * 2 + 1, none⟩) (lt_of_cell h2)]; exact h2, h3.below hb⟩
set_option maxHeartbeats 4000000 in
set_option maxRecDepth 100000 in
theorem dprint_any (n : List UInt8) (ao : Option Addr) (b o cap : Nat) (A : List Lb) (hao : A ≠ [] → ao = some ⟨b, o, none⟩) (hl : A.length ≤ 9223372036854775807) (hv : ∀ a ∈ A, a.2.length ≤ 35184372088832) (hT : (printT n A).length ≤ 4611686018427387904) (w : World) (hR : RowL w b o A) :
  Calls Tryz.prog 49 #[.string ⟨n.toArray⟩, .slice ao A.length cap] w fun r w' => r = .returned (.string ⟨(printT n A).toArray⟩) ∧ Below w.heap.size w w' := by
 have HE : Hid (∀ l : List UInt8, l.length ≤ 35184372088832 → ∀ W, Calls Tryz.prog 23 #[.string ⟨l.toArray⟩, .bool true] W fun r w' => r = .returned (.string ⟨(escL true l).toArray⟩) ∧ Below W.heap.size W w') := fun l h W => escaped_any l true h W
 have hP : printT n A = n ++ prB true A ++ (if A.length = 0 then [] else [125]) := rfl
 obtain ⟨R, hR0⟩ : ∃ R, R = n ++ prB true A := ⟨_, rfl⟩
 rw [← hR0] at hP
 rw [hP] at hT
 obtain ⟨T, hTT⟩ : ∃ T, T = printT n A := ⟨_, rfl⟩
 rw [← hTT]
 have HTT : Hid (T = R ++ (if A.length = 0 then [] else [125])) := by show T = _; rw [hTT, hP]
 clear hTT
 have HR0 : Hid (R = n ++ prB (decide (0 = 0)) (A.drop 0)) := hR0
 have hRl : R.length ≤ 4611686018427387904 := by rw [List.length_append] at hT; omega
 have HK0 : Hid (KQ w b o A w) := ⟨hR, Below.refl _ _⟩
 have HV : Hid _ := hv
 clear hR hP hR0 hv
 go_enter Tryz.func49, Tryz.ntmps49
 go_wp2_with fail
 go_loopw [5, 6] (fun v a W => ∃ (i : Nat) (s : List UInt8), i ≤ A.length ∧ a = .int .i64 (i : Int) ∧ v = .string ⟨s.toArray⟩ ∧ Hid (R = s ++ prB (decide (i = 0)) (A.drop i)) ∧ Hid (KQ w b o A W)) (fun _ a _ => A.length - (intOf a).toNat)
 case atStart => exact ⟨0, n, by omega, rfl, rfl, HR0, HK0⟩
 case round =>
  clear HR0 HK0
  obtain ⟨i, s, hi, rfl, rfl, HR, HK⟩ := hrel
  by_cases hlt : i < A.length
  ·have hlt' : (i : Int) < (A.length : Int) := by omega
   obtain rfl := hao (by intro k; rw [k] at hlt; simp at hlt)
   obtain ⟨q1, q2⟩ := HK.out.r i hlt
   have m2 := HV.out A[i] (List.getElem_mem hlt)
   have hS := HR.out
   rw [prB_drop _ A i hlt] at hS
   have HE1 : Hid _ := HE.out A[i].2 m2
   have hlb : lbT A[i] = A[i].1 ++ [61, 34] ++ escL true A[i].2 ++ [34] := rfl
   rw [hlb] at hS
   have hlen := congrArg List.length hS
   simp only [List.length_append, List.length_cons, List.length_nil] at hlen
   generalize escL true A[i].2 = e2 at *
   generalize A[i].1 = x1 at *
   generalize A[i].2 = x2 at *
   clear HR HE hlb m2 HV
   have b1 : s.length ≤ 4611686018427387904 := by omega
   have b2 : x1.length ≤ 4611686018427387904 := by omega
   have b3 : e2.length ≤ 4611686018427387904 := by omega
   have b4 : s.length + x1.length + e2.length ≤ 4611686018427387904 := by omega
   clear hlen
   by_cases i0 : i = 0
   ·have i0' : ((i : Int) == 0) = true := by rw [beq_iff_eq]; omega
    rw [decide_eq_true i0, if_pos rfl] at hS
    obtain ⟨s1, hs1⟩ : ∃ s1, s1 = s ++ [123] := ⟨_, rfl⟩
    obtain ⟨y1, hy1⟩ : ∃ y1, y1 = x1 ++ [61, 34] := ⟨_, rfl⟩
    obtain ⟨y2, hy2⟩ : ∃ y2, y2 = y1 ++ e2 := ⟨_, rfl⟩
    obtain ⟨y3, hy3⟩ : ∃ y3, y3 = y2 ++ [34] := ⟨_, rfl⟩
    obtain ⟨s2, hs2⟩ : ∃ s2, s2 = s1 ++ y3 := ⟨_, rfl⟩
    have HF : Hid (R = s2 ++ prB (decide (i + 1 = 0)) (A.drop (i + 1))) := by
     show R = _
     rw [hS, decide_eq_false (by omega), hs2, hs1, hy3, hy2, hy1]
     simp
    have a0 : ∀ W, (Op.stringOp .add ⟨s.toArray⟩ ⟨#[123]⟩).run Tryz.prog W = .ok (.string ⟨s1.toArray⟩) W := fun W => by rw [hs1]; exact sadd s [123] (by simp; omega) W
    have a1 : ∀ W, (Op.stringOp .add ⟨x1.toArray⟩ ⟨#[61, 34]⟩).run Tryz.prog W = .ok (.string ⟨y1.toArray⟩) W := fun W => by rw [hy1]; exact sadd x1 [61, 34] (by simp; omega) W
    have a2 : ∀ W, (Op.stringOp .add ⟨y1.toArray⟩ ⟨e2.toArray⟩).run Tryz.prog W = .ok (.string ⟨y2.toArray⟩) W := fun W => by rw [hy2]; exact sadd y1 e2 (by rw [hy1]; simp; omega) W
    have a3 : ∀ W, (Op.stringOp .add ⟨y2.toArray⟩ ⟨#[34]⟩).run Tryz.prog W = .ok (.string ⟨y3.toArray⟩) W := fun W => by rw [hy3]; exact sadd y2 [34] (by rw [hy2, hy1]; simp; omega) W
    have a4 : ∀ W, (Op.stringOp .add ⟨s1.toArray⟩ ⟨y3.toArray⟩).run Tryz.prog W = .ok (.string ⟨s2.toArray⟩) W := fun W => by rw [hs2]; exact sadd s1 y3 (by rw [hs1, hy3, hy2, hy1]; simp; omega) W
    clear hS i0 hs1 hy1 hy2 hy3 hs2
    as_aux_lemma =>
    go_wp2_with fail
    have hG0 : wr.cell? ⟨b, o + i * 2, none⟩ = some (.string ⟨x1.toArray⟩) ∧ wr.cell? ⟨b, o + i * 2 + 1, none⟩ = some (.string ⟨x2.toArray⟩) ∧ KQ w b o A wr := ⟨q1, q2, HK.out⟩
    go_region_held3 (fun W => W.cell? ⟨b, o + i * 2, none⟩ = some (.string ⟨x1.toArray⟩) ∧ W.cell? ⟨b, o + i * 2 + 1, none⟩ = some (.string ⟨x2.toArray⟩) ∧ KQ w b o A W)
     (first | assumption | exact keepQ (by assumption) (by assumption) | exact keepQ (bel_drew (Below.refl _ _)) hG0 | exact keepQ (bel_drewN (Below.refl _ _) _) hG0)
     (first | (go_at_call 23; with_reducible refine (HE1.out _).mono ?_; rintro r w1 ⟨rfl, hb1⟩))
    rename_i hG1
    go_wp2_with fail
    exact ⟨⟨i + 1, s2, by omega, by go_num, rfl, HF, hG1.2.2⟩, by simp [intOf]; omega⟩
   ·have i0' : ((i : Int) == 0) = false := by rw [beq_eq_false_iff_ne]; omega
    rw [decide_eq_false i0, if_neg (by decide)] at hS
    obtain ⟨s1, hs1⟩ : ∃ s1, s1 = s ++ [44] := ⟨_, rfl⟩
    obtain ⟨y1, hy1⟩ : ∃ y1, y1 = x1 ++ [61, 34] := ⟨_, rfl⟩
    obtain ⟨y2, hy2⟩ : ∃ y2, y2 = y1 ++ e2 := ⟨_, rfl⟩
    obtain ⟨y3, hy3⟩ : ∃ y3, y3 = y2 ++ [34] := ⟨_, rfl⟩
    obtain ⟨s2, hs2⟩ : ∃ s2, s2 = s1 ++ y3 := ⟨_, rfl⟩
    have HF : Hid (R = s2 ++ prB (decide (i + 1 = 0)) (A.drop (i + 1))) := by
     show R = _
     rw [hS, decide_eq_false (by omega), hs2, hs1, hy3, hy2, hy1]
     simp
    have a0 : ∀ W, (Op.stringOp .add ⟨s.toArray⟩ ⟨#[44]⟩).run Tryz.prog W = .ok (.string ⟨s1.toArray⟩) W := fun W => by rw [hs1]; exact sadd s [44] (by simp; omega) W
    have a1 : ∀ W, (Op.stringOp .add ⟨x1.toArray⟩ ⟨#[61, 34]⟩).run Tryz.prog W = .ok (.string ⟨y1.toArray⟩) W := fun W => by rw [hy1]; exact sadd x1 [61, 34] (by simp; omega) W
    have a2 : ∀ W, (Op.stringOp .add ⟨y1.toArray⟩ ⟨e2.toArray⟩).run Tryz.prog W = .ok (.string ⟨y2.toArray⟩) W := fun W => by rw [hy2]; exact sadd y1 e2 (by rw [hy1]; simp; omega) W
    have a3 : ∀ W, (Op.stringOp .add ⟨y2.toArray⟩ ⟨#[34]⟩).run Tryz.prog W = .ok (.string ⟨y3.toArray⟩) W := fun W => by rw [hy3]; exact sadd y2 [34] (by rw [hy2, hy1]; simp; omega) W
    have a4 : ∀ W, (Op.stringOp .add ⟨s1.toArray⟩ ⟨y3.toArray⟩).run Tryz.prog W = .ok (.string ⟨s2.toArray⟩) W := fun W => by rw [hs2]; exact sadd s1 y3 (by rw [hs1, hy3, hy2, hy1]; simp; omega) W
    clear hS i0 hs1 hy1 hy2 hy3 hs2
    as_aux_lemma =>
    go_wp2_with fail
    have hG0 : wr.cell? ⟨b, o + i * 2, none⟩ = some (.string ⟨x1.toArray⟩) ∧ wr.cell? ⟨b, o + i * 2 + 1, none⟩ = some (.string ⟨x2.toArray⟩) ∧ KQ w b o A wr := ⟨q1, q2, HK.out⟩
    go_region_held3 (fun W => W.cell? ⟨b, o + i * 2, none⟩ = some (.string ⟨x1.toArray⟩) ∧ W.cell? ⟨b, o + i * 2 + 1, none⟩ = some (.string ⟨x2.toArray⟩) ∧ KQ w b o A W)
     (first | assumption | exact keepQ (by assumption) (by assumption) | exact keepQ (bel_drew (Below.refl _ _)) hG0 | exact keepQ (bel_drewN (Below.refl _ _) _) hG0)
     (first | (go_at_call 23; with_reducible refine (HE1.out _).mono ?_; rintro r w1 ⟨rfl, hb1⟩))
    rename_i hG1
    go_wp2_with fail
    exact ⟨⟨i + 1, s2, by omega, by go_num, rfl, HF, hG1.2.2⟩, by simp [intOf]; omega⟩
  ·have hlt' : ¬ (i : Int) < (A.length : Int) := by omega
   have hS := HR.out
   rw [List.drop_eq_nil_of_le (by omega), prB, List.append_nil] at hS
   have hbl := HK.out.bl
   have HF : Hid (R = s) := hS
   have hsl : s.length ≤ 4611686018427387904 := by rw [← hS]; exact hRl
   clear HR HK HE HV hS hT hRl
   by_cases z : A.length = 0
   ·have z' : ¬ (0 : Int) < (A.length : Int) := by omega
    have HE2 : Hid (T = s) := by
     show T = s
     rw [HTT.out, if_pos z, List.append_nil]; exact HF.out
    clear z HTT HF
    as_aux_lemma =>
     go_wp2_with fail
     go_ret
     exact ⟨congrArg (fun z : List UInt8 => Ending.returned (Value.string ⟨z.toArray⟩)) HE2.out.symm, hbl⟩
   ·have z' : (0 : Int) < (A.length : Int) := by omega
    have a0 : ∀ W, (Op.stringOp .add ⟨s.toArray⟩ ⟨#[125]⟩).run Tryz.prog W = .ok (.string ⟨T.toArray⟩) W := fun W => by rw [HTT.out, if_neg z, HF.out]; exact sadd s [125] (by simp; omega) W
    clear z HTT HF
    as_aux_lemma =>
     go_wp2_with fail
     go_ret
     exact ⟨rfl, hbl⟩
end Go.Proofs.YtlgfgeacphkhnaaGreatDoor.La
