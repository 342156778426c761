/- escaped, Help, Unhelp, the document's. Own work of the verifier. -/
import Derived.Test.YtblkempemdlalaaGreatDoorWAF
import Derived.OwnWalk
namespace Go.Proofs.YtblkempemdlalaaGreatDoor.La
open Go.RowKit

theorem infoByte : (Tryz.prog.info? 5).map (fun i => (i.zero, i.size, i.bytes)) = some (some (.int .u8 0), 1, 1) := by kernel_rfl
theorem cell_two_new (w : World) (x y : Value) (t : TypeId) : ∀ j u, [x, y][j]? = some u → (w.alloc (.cells #[x, y] t)).cell? ((⟨w.heap.size, 0, none⟩ : Addr).add j) = some u := by
 intro j u hj
 match j, hj with
 | 0, hj => simp at hj; subst hj; simp [go_sem]
 | 1, hj => simp at hj; subst hj; simp [go_sem]
 | k + 2, hj => simp at hj
theorem GB.text {B : Nat} {W0 w : World} {v : Value} {xs : List Nat} (h : GB B 5 bV W0 v xs w) (hx : ∀ x ∈ xs, x < 256) : (convert 27 9 v).run Tryz.prog w = .ok (.string ⟨(txs xs).toArray⟩) w := by
 obtain ⟨g, cap, cur, rfl, hB, hcur, _, _, h5, h6⟩ := own_ofG h.own h.nz
 have hl : (txs xs).length = xs.length := by unfold txs; rw [List.length_map]
 have hc := run_convert_bytes_back (P := Tryz.prog) w 27 9 5 ⟨g, 0, none⟩ cap (txs xs) Tryz.underlying27 Tryz.underlying5 Tryz.underlying9 (fun k hk => by
  have hk' : k < xs.length := by omega
  have e1 : cur[k]? = some (bV xs[k]) := by
   have : (cur.toList.take xs.length)[k]? = some (bV xs[k]) := by
    rw [h6, List.getElem?_map, List.getElem?_eq_getElem hk']
    rfl
   rw [List.getElem?_take, if_pos hk'] at this
   rw [← Array.getElem?_toList]
   exact this
  have a2 : (⟨g, 0, none⟩ : Addr).add k = ⟨g, k, none⟩ := by
   unfold Addr.add
   by_cases h0 : k = 0
   ·subst h0; rfl
   ·rw [if_neg h0]; simp
  have a3 : (txs xs)[k] = UInt8.ofNat xs[k] := by simp only [txs, List.getElem_map]
  have a4 : xs[k] < 256 := hx _ (List.getElem_mem hk')
  rw [a2, a3, UInt8.toNat_ofNat', Nat.mod_eq_of_lt a4]
  simp [World.cell?, hcur, e1]
  rfl)
 rw [hl] at hc
 exact hc
def esc1 (q : Bool) (b : UInt8) : List UInt8 := if b.toNat = 92 ∨ q = true ∧ b.toNat = 34 then [92, b] else if b.toNat = 10 then [92, 110] else [b]
def escL (q : Bool) : List UInt8 → List UInt8
 | [] => []
 | b :: r => esc1 q b ++ escL q r
theorem escL_drop (q : Bool) (l : List UInt8) (i : Nat) (h : i < l.length) : escL q (l.drop i) = esc1 q l[i] ++ escL q (l.drop (i + 1)) := by
 rw [List.drop_eq_getElem_cons h, escL]
theorem txs_app (a b : List Nat) : txs (a ++ b) = txs a ++ txs b := by unfold txs; rw [List.map_append]
theorem byte_nat (b : UInt8) : UInt8.ofNat b.toNat = b := by simp
def EscI (q : Bool) (l : List UInt8) (i : Nat) (xs : List Nat) : Prop := escL q l = txs xs ++ escL q (l.drop i) ∧ (∀ x ∈ xs, x < 256)
theorem EscI.step {q : Bool} {l : List UInt8} {i : Nat} {xs ys : List Nat} (h : EscI q l i xs) (hi : i < l.length) (hy : txs ys = esc1 q l[i]) (hb : ∀ y ∈ ys, y < 256) : EscI q l (i + 1) (xs ++ ys) := by
 obtain ⟨h1, h2⟩ := h
 refine ⟨?_, fun x hx => ?_⟩
 ·rw [h1, escL_drop q l i hi, txs_app, hy, List.append_assoc]
 ·rcases List.mem_append.1 hx with g | g
  ·exact h2 x g
  ·exact hb x g
set_option maxHeartbeats 4000000 in
set_option maxRecDepth 100000 in
theorem escaped_any (l : List UInt8) (q : Bool) (hl : l.length ≤ 35184372088832) (w : World) :
  Calls Tryz.prog 30 #[.string ⟨l.toArray⟩, .bool q] w fun r w' => r = .returned (.string ⟨(escL q l).toArray⟩) ∧ Below w.heap.size w w' := by
 obtain ⟨i0, hi0, hz0, hz1, hz2⟩ := info_parts infoByte
 have HS : Hid (EscI q l 0 []) := ⟨rfl, fun x hx => by cases hx⟩
 go_enter Tryz.func30, Tryz.ntmps30
 go_wp2_with fail
 go_loopw [5, 6] (fun v a W => ∃ (i : Nat) (xs : List Nat), i ≤ l.length ∧ a = .int .i64 (i : Int) ∧ xs.length ≤ 2 * i ∧ Hid (EscI q l i xs) ∧ GB w.heap.size 5 bV w v xs W) (fun _ a _ => l.length - (intOf a).toNat)
 case atStart => exact ⟨0, [], by omega, rfl, by simp, HS, GB.new w⟩
 case round =>
  clear HS
  obtain ⟨i, xs, hi, rfl, hxl, HI, hG⟩ := hrel
  by_cases hlt : i < l.length
  ·have hlt' : (i : Int) < (l.length : Int) := by omega
   have hB : i < (ByteArray.mk l.toArray).size := by show i < l.toArray.size; simpa using hlt
   have hbe : ((ByteArray.mk l.toArray)[i]'hB).toNat = l[i].toNat := rfl
   have h256 : ((ByteArray.mk l.toArray)[i]'hB).toNat < 256 := UInt8.toNat_lt _
   have two : ∀ (x y : Nat), x < 256 → y < 256 → ∀ z ∈ [x, y], z < 256 := fun x y hx hy z hz => by
    simp at hz; rcases hz with rfl | rfl
    ·exact hx
    ·exact hy
   by_cases g1 : l[i].toNat = 92
   ·have t1 : ((((ByteArray.mk l.toArray)[i]'hB).toNat : Int) == 92) = true := by rw [beq_iff_eq, hbe]; omega
    have HI' : Hid (EscI q l (i + 1) (xs ++ [92, ((ByteArray.mk l.toArray)[i]'hB).toNat])) := HI.out.step hlt (by unfold esc1; rw [if_pos (Or.inl g1)]; show [UInt8.ofNat 92, UInt8.ofNat l[i].toNat] = _; rw [byte_nat]; rfl) (two _ _ (by decide) h256)
    clear HI g1 hbe two
    as_aux_lemma =>
     go_wp2_with (first | (at_builtin; refine wpList_append_own _ rfl _ _ 27 rfl w.heap.size 5 i0 (.int .u8 0) 1 1 Tryz.underlying27 hi0 hz0 hz1 hz2 rfl (by decide) _ _ _ rfl (hG.own.alloc _) ⟨_, 0, none⟩ 2 2 [_, _] rfl rfl (cell_two_new _ _ _ _) (by intro u hu; simp at hu; rcases hu with rfl | rfl <;> rfl) (by unfold maxLen; omega) (by omega) (by have := hG.size; simp; omega) ?_; intro v' w7 hown hgrow hnil; have hG7 := hG.push2 (x := 92) (y := ((ByteArray.mk l.toArray)[i]'hB).toNat) _ rfl rfl hown hgrow hnil; clear hown hgrow hnil))
     exact ⟨⟨i + 1, _, by omega, by go_num, by simp; omega, HI', hG7⟩, by simp [intOf]; omega⟩
   have t1 : ((((ByteArray.mk l.toArray)[i]'hB).toNat : Int) == 92) = false := by rw [beq_eq_false_iff_ne, hbe]; omega
   cases q
   ·have g2 : ¬ (false = true) := by decide
    by_cases g3 : l[i].toNat = 10
    ·have t3 : ((((ByteArray.mk l.toArray)[i]'hB).toNat : Int) == 10) = true := by rw [beq_iff_eq, hbe]; omega
     have HI' : Hid (EscI false l (i + 1) (xs ++ [92, 110])) := HI.out.step hlt (by unfold esc1; rw [if_neg (fun k => Or.elim k g1 (fun k => g2 k.1)), if_pos g3]; rfl) (two _ _ (by decide) (by decide))
     clear HI g1 g2 g3 hbe two
     as_aux_lemma =>
      go_wp2_with (first | (at_builtin; refine wpList_append_own _ rfl _ _ 27 rfl w.heap.size 5 i0 (.int .u8 0) 1 1 Tryz.underlying27 hi0 hz0 hz1 hz2 rfl (by decide) _ _ _ rfl (hG.own.alloc _) ⟨_, 0, none⟩ 2 2 [_, _] rfl rfl (cell_two_new _ _ _ _) (by intro u hu; simp at hu; rcases hu with rfl | rfl <;> rfl) (by unfold maxLen; omega) (by omega) (by have := hG.size; simp; omega) ?_; intro v' w7 hown hgrow hnil; have hG7 := hG.push2 (x := 92) (y := 110) _ rfl rfl hown hgrow hnil; clear hown hgrow hnil))
      exact ⟨⟨i + 1, _, by omega, by go_num, by simp; omega, HI', hG7⟩, by simp [intOf]; omega⟩
    ·have t3 : ((((ByteArray.mk l.toArray)[i]'hB).toNat : Int) == 10) = false := by rw [beq_eq_false_iff_ne, hbe]; omega
     have HI' : Hid (EscI false l (i + 1) (xs ++ [((ByteArray.mk l.toArray)[i]'hB).toNat])) := HI.out.step hlt (by unfold esc1; rw [if_neg (fun k => Or.elim k g1 (fun k => g2 k.1)), if_neg g3]; show [UInt8.ofNat l[i].toNat] = _; rw [byte_nat]) (fun z hz => by rw [List.mem_singleton.1 hz]; exact h256)
     clear HI g1 g2 g3 hbe two
     as_aux_lemma =>
      go_wp2_with (first | (at_builtin; refine wpList_append_own _ rfl _ _ 27 rfl w.heap.size 5 i0 (.int .u8 0) 1 1 Tryz.underlying27 hi0 hz0 hz1 hz2 rfl (by decide) _ _ _ rfl (hG.own.alloc _) ⟨_, 0, none⟩ 1 1 [_] rfl rfl (cell_one_new _ _ _) (by intro u hu; simp at hu; subst hu; rfl) (by unfold maxLen; omega) (by omega) (by have := hG.size; simp; omega) ?_; intro v' w7 hown hgrow hnil; have hG7 := hG.push (x := ((ByteArray.mk l.toArray)[i]'hB).toNat) _ rfl hown hgrow hnil; clear hown hgrow hnil))
      exact ⟨⟨i + 1, _, by omega, by go_num, by simp; omega, HI', hG7⟩, by simp [intOf]; omega⟩
   ·by_cases g2 : l[i].toNat = 34
    ·have t2 : ((((ByteArray.mk l.toArray)[i]'hB).toNat : Int) == 34) = true := by rw [beq_iff_eq, hbe]; omega
     have HI' : Hid (EscI true l (i + 1) (xs ++ [92, ((ByteArray.mk l.toArray)[i]'hB).toNat])) := HI.out.step hlt (by unfold esc1; rw [if_pos (Or.inr ⟨rfl, g2⟩)]; show [UInt8.ofNat 92, UInt8.ofNat l[i].toNat] = _; rw [byte_nat]; rfl) (two _ _ (by decide) h256)
     clear HI g1 g2 hbe two
     as_aux_lemma =>
      go_wp2_with (first | (at_builtin; refine wpList_append_own _ rfl _ _ 27 rfl w.heap.size 5 i0 (.int .u8 0) 1 1 Tryz.underlying27 hi0 hz0 hz1 hz2 rfl (by decide) _ _ _ rfl (hG.own.alloc _) ⟨_, 0, none⟩ 2 2 [_, _] rfl rfl (cell_two_new _ _ _ _) (by intro u hu; simp at hu; rcases hu with rfl | rfl <;> rfl) (by unfold maxLen; omega) (by omega) (by have := hG.size; simp; omega) ?_; intro v' w7 hown hgrow hnil; have hG7 := hG.push2 (x := 92) (y := ((ByteArray.mk l.toArray)[i]'hB).toNat) _ rfl rfl hown hgrow hnil; clear hown hgrow hnil))
      exact ⟨⟨i + 1, _, by omega, by go_num, by simp; omega, HI', hG7⟩, by simp [intOf]; omega⟩
    ·have t2 : ((((ByteArray.mk l.toArray)[i]'hB).toNat : Int) == 34) = false := by rw [beq_eq_false_iff_ne, hbe]; omega
     by_cases g3 : l[i].toNat = 10
     ·have t3 : ((((ByteArray.mk l.toArray)[i]'hB).toNat : Int) == 10) = true := by rw [beq_iff_eq, hbe]; omega
      have HI' : Hid (EscI true l (i + 1) (xs ++ [92, 110])) := HI.out.step hlt (by unfold esc1; rw [if_neg (fun k => Or.elim k g1 (fun k => g2 k.2)), if_pos g3]; rfl) (two _ _ (by decide) (by decide))
      clear HI g1 g2 g3 hbe two
      as_aux_lemma =>
       go_wp2_with (first | (at_builtin; refine wpList_append_own _ rfl _ _ 27 rfl w.heap.size 5 i0 (.int .u8 0) 1 1 Tryz.underlying27 hi0 hz0 hz1 hz2 rfl (by decide) _ _ _ rfl (hG.own.alloc _) ⟨_, 0, none⟩ 2 2 [_, _] rfl rfl (cell_two_new _ _ _ _) (by intro u hu; simp at hu; rcases hu with rfl | rfl <;> rfl) (by unfold maxLen; omega) (by omega) (by have := hG.size; simp; omega) ?_; intro v' w7 hown hgrow hnil; have hG7 := hG.push2 (x := 92) (y := 110) _ rfl rfl hown hgrow hnil; clear hown hgrow hnil))
       exact ⟨⟨i + 1, _, by omega, by go_num, by simp; omega, HI', hG7⟩, by simp [intOf]; omega⟩
     ·have t3 : ((((ByteArray.mk l.toArray)[i]'hB).toNat : Int) == 10) = false := by rw [beq_eq_false_iff_ne, hbe]; omega
      have HI' : Hid (EscI true l (i + 1) (xs ++ [((ByteArray.mk l.toArray)[i]'hB).toNat])) := HI.out.step hlt (by unfold esc1; rw [if_neg (fun k => Or.elim k g1 (fun k => g2 k.2)), if_neg g3]; show [UInt8.ofNat l[i].toNat] = _; rw [byte_nat]) (fun z hz => by rw [List.mem_singleton.1 hz]; exact h256)
      clear HI g1 g2 g3 hbe two
      as_aux_lemma =>
       go_wp2_with (first | (at_builtin; refine wpList_append_own _ rfl _ _ 27 rfl w.heap.size 5 i0 (.int .u8 0) 1 1 Tryz.underlying27 hi0 hz0 hz1 hz2 rfl (by decide) _ _ _ rfl (hG.own.alloc _) ⟨_, 0, none⟩ 1 1 [_] rfl rfl (cell_one_new _ _ _) (by intro u hu; simp at hu; subst hu; rfl) (by unfold maxLen; omega) (by omega) (by have := hG.size; simp; omega) ?_; intro v' w7 hown hgrow hnil; have hG7 := hG.push (x := ((ByteArray.mk l.toArray)[i]'hB).toNat) _ rfl hown hgrow hnil; clear hown hgrow hnil))
       exact ⟨⟨i + 1, _, by omega, by go_num, by simp; omega, HI', hG7⟩, by simp [intOf]; omega⟩
  ·have hlt' : ¬ (i : Int) < (l.length : Int) := by omega
   have hcv := hG.text HI.out.2
   have HE : Hid (escL q l = txs xs) := by
    have := HI.out.1
    rw [List.drop_eq_nil_of_le (by omega), escL, List.append_nil] at this
    exact this
   have hbl := hG.below
   clear HI
   as_aux_lemma =>
    go_wp2_with fail
    go_ret
    exact ⟨congrArg (fun z : List UInt8 => Ending.returned (Value.string ⟨z.toArray⟩)) HE.out.symm, hbl⟩
set_option maxHeartbeats 1000000 in
theorem help_any (l : List UInt8) (hl : l.length ≤ 35184372088832) (w : World) :
  Calls Tryz.prog 15 #[.string ⟨l.toArray⟩] w fun r w' => r = .returned (.string ⟨(escL false l).toArray⟩) ∧ Below w.heap.size w w' := by
 have HE : Hid _ := fun W => escaped_any l false hl W
 go_enter Tryz.func15, Tryz.ntmps15
 go_wp2_with fail
 refine (HE.out _).mono ?_
 rintro e w1 ⟨rfl, hb⟩
 go_wp2_with fail
 go_ret
 exact ⟨rfl, hb⟩
end Go.Proofs.YtblkempemdlalaaGreatDoor.La
/- LISTS OF LABELS in memory; SameLabels, the document's. Own work of the verifier. -/
namespace Go.Proofs.YtblkempemdlalaaGreatDoor.La
open Go.RowKit

abbrev Lb : Type := List UInt8 × List UInt8
theorem lt_of_cell {w : World} {a : Addr} {v : Value} (h : w.cell? a = some v) : a.block < w.heap.size := by
 unfold World.cell? at h
 split at h
 ·rename_i h1
  rcases Nat.lt_or_ge a.block w.heap.size with k | k
  ·exact k
  ·rw [Array.getElem?_eq_none k] at h1; cases h1
 ·cases h
def RowL (W : World) (b o : Nat) (L : List Lb) : Prop := ∀ i (h : i < L.length), W.cell? ⟨b, o + i * 2, none⟩ = some (.string ⟨L[i].1.toArray⟩) ∧ W.cell? ⟨b, o + i * 2 + 1, none⟩ = some (.string ⟨L[i].2.toArray⟩)
theorem RowL.below {W W1 : World} {b o : Nat} {L : List Lb} (h : RowL W b o L) (hb : Below W.heap.size W W1) : RowL W1 b o L := fun i hi => by
 obtain ⟨h1, h2⟩ := h i hi
 rw [hb.cell (p := ⟨b, o + i * 2, none⟩) (lt_of_cell h1), hb.cell (p := ⟨b, o + i * 2 + 1, none⟩) (lt_of_cell h2)]
 exact ⟨h1, h2⟩
theorem below_drewN (w : World) (n : Nat) : Below w.heap.size w (w.drewN n) := by
 induction n with
 | zero => exact Below.refl _ _
 | succ n ih => exact ⟨ih.os, ih.tape, ih.output, ih.size, ih.block⟩
theorem retI {k : IntKind} {A B : Int} (h : A = B) : Ending.returned (Value.int k A) = .returned (.int k B) := by rw [h]
end Go.Proofs.YtblkempemdlalaaGreatDoor.La
/- Same, Compare, the document's. Own work of the verifier. -/
namespace Go.Proofs.YtblkempemdlalaaGreatDoor.La
open Go.RowKit

structure Ds where
 kind : Int
 name : List UInt8
 help : List UInt8
 labels : List Lb
 deriving DecidableEq
structure DsAt (W : World) (d : Ds) (v : Value) : Prop where
 ex : ∃ (ao : Option Addr) (b o cap : Nat), v = .agg #[.int .i64 d.kind, .string ⟨d.name.toArray⟩, .string ⟨d.help.toArray⟩, .slice ao d.labels.length cap] ∧ (d.labels ≠ [] → ao = some ⟨b, o, none⟩) ∧ d.labels.length ≤ 9223372036854775807 ∧ RowL W b o d.labels
theorem bel2 (w : World) (o1 o2 : Obj) : Below w.heap.size w ((w.alloc o1).alloc o2) :=
 ((Below.refl _ _).alloc (Nat.le_refl _) _).alloc (by simp) _
def ordL : List Lb → List Lb → Int
 | [], [] => 0
 | [], _ :: _ => -1
 | _ :: _, [] => 1
 | a :: A, b :: B => if ordE a.1 b.1 ≠ 0 then ordE a.1 b.1 else if ordE a.2 b.2 ≠ 0 then ordE a.2 b.2 else ordL A B
def ordD (d e : Ds) : Int := if ordE d.name e.name ≠ 0 then ordE d.name e.name else ordL d.labels e.labels
theorem ordL_drop (A B : List Lb) (i : Nat) (h1 : i < A.length) (h2 : i < B.length) : ordL (A.drop i) (B.drop i) = if ordE A[i].1 B[i].1 ≠ 0 then ordE A[i].1 B[i].1 else if ordE A[i].2 B[i].2 ≠ 0 then ordE A[i].2 B[i].2 else ordL (A.drop (i + 1)) (B.drop (i + 1)) := by
 rw [List.drop_eq_getElem_cons h1, List.drop_eq_getElem_cons h2, ordL]
theorem ordL_end (A B : List Lb) (i : Nat) (h : ¬ (i < A.length ∧ i < B.length)) (h1 : i ≤ A.length) (h2 : i ≤ B.length) : ordL (A.drop i) (B.drop i) = if A.length < B.length then -1 else if B.length < A.length then 1 else 0 := by
 rcases Nat.lt_or_ge i A.length with g | g
 ·have g2 : B.length = i := by omega
  rw [List.drop_eq_getElem_cons g, List.drop_eq_nil_of_le (by omega : B.length ≤ i), ordL, if_neg (by omega), if_pos (by omega)]
 ·rw [List.drop_eq_nil_of_le g]
  rcases Nat.lt_or_ge i B.length with k | k
  ·rw [List.drop_eq_getElem_cons k, ordL, if_pos (by omega)]
  ·rw [List.drop_eq_nil_of_le k, ordL, if_neg (by omega), if_neg (by omega)]
end Go.Proofs.YtblkempemdlalaaGreatDoor.La
/- Compare, the document's: THE WALK. Own work of the verifier. -/
namespace Go.Proofs.YtblkempemdlalaaGreatDoor.La
open Go.RowKit

theorem ordE_cases (a b : List UInt8) : ordE a b = -1 ∨ ordE a b = 0 ∨ ordE a b = 1 := by
 unfold ordE
 split
 ·exact Or.inl rfl
 ·split
  ·exact Or.inr (Or.inr rfl)
  ·exact Or.inr (Or.inl rfl)
structure KC (w : World) (ao ao' : Option Addr) (b o cap b' o' cap' : Nat) (A B : List Lb) (W : World) : Prop where
 f1 : W.cell? ⟨w.heap.size, 3, none⟩ = some (.slice ao A.length cap)
 f2 : W.cell? ⟨w.heap.size + 1, 3, none⟩ = some (.slice ao' B.length cap')
 r1 : RowL W b o A
 r2 : RowL W b' o' B
 bl : Below w.heap.size w W
theorem KC.drew {w W : World} {ao ao' : Option Addr} {b o cap b' o' cap' : Nat} {A B : List Lb} (h : KC w ao ao' b o cap b' o' cap' A B W) (n : Nat) : KC w ao ao' b o cap b' o' cap' A B (W.drewN n) := by
 have hb := below_drewN W n
 exact ⟨by rw [hb.cell (p := ⟨w.heap.size, 3, none⟩) (lt_of_cell h.f1)]; exact h.f1, by rw [hb.cell (p := ⟨w.heap.size + 1, 3, none⟩) (lt_of_cell h.f2)]; exact h.f2, h.r1.below hb, h.r2.below hb, h.bl.trans (hb.mono h.bl.size)⟩
theorem box_cells (w : World) (t t' : TypeId) (x0 x1 x2 x3 y0 y1 y2 y3 : Value) :
  ((w.alloc (.cells #[x0, x1, x2, x3] t)).alloc (.cells #[y0, y1, y2, y3] t')).cell? ⟨w.heap.size, 3, none⟩ = some x3 ∧ ((w.alloc (.cells #[x0, x1, x2, x3] t)).alloc (.cells #[y0, y1, y2, y3] t')).cell? ⟨w.heap.size + 1, 3, none⟩ = some y3 := by
 constructor <;> simp [go_sem]
set_option maxHeartbeats 4000000 in
set_option maxRecDepth 100000 in
theorem dcompare_any (d e : Ds) (v u : Value) (w : World) (hd : DsAt w d v) (he : DsAt w e u) :
  Calls Tryz.prog 27 #[v, u] w fun r w' => r = .returned (.int .i64 (ordD d e)) ∧ Below w.heap.size w w' := by
 obtain ⟨ao, b, o, cap, rfl, h1, h2, h3⟩ := hd.ex
 obtain ⟨ao', b', o', cap', rfl, k1, k2, k3⟩ := he.ex
 obtain ⟨kd, n, h, A⟩ := d
 obtain ⟨kd', n', h', B⟩ := e
 have HO : Hid (∀ (a b : List UInt8) W, Calls Tryz.prog 57 #[.string ⟨a.toArray⟩, .string ⟨b.toArray⟩] W fun r w' => r = .returned (.int .i64 (ordE a b)) ∧ w' = W) := fun a b W => order_any a b W
 have HKs : Hid (∀ t t', KC w ao ao' b o cap b' o' cap' A B ((w.alloc (.cells #[.int .i64 kd, .string ⟨n.toArray⟩, .string ⟨h.toArray⟩, .slice ao A.length cap] t)).alloc (.cells #[.int .i64 kd', .string ⟨n'.toArray⟩, .string ⟨h'.toArray⟩, .slice ao' B.length cap'] t'))) := fun t t' =>
  ⟨(box_cells w t t' _ _ _ _ _ _ _ _).1, (box_cells w t t' _ _ _ _ _ _ _ _).2, h3.below (bel2 w _ _), k3.below (bel2 w _ _), bel2 w _ _⟩
 have hD : ordD ⟨kd, n, h, A⟩ ⟨kd', n', h', B⟩ = if ordE n n' ≠ 0 then ordE n n' else ordL A B := rfl
 rw [hD]
 clear hD hd he h3 k3
 have HO1 : Hid _ := HO.out n n'
 have hc := ordE_cases n n'
 generalize ordE n n' = z at *
 by_cases hz : z = 0
 ·subst hz
  rw [if_neg (by decide)]
  obtain ⟨R, hR⟩ : ∃ R, R = ordL A B := ⟨_, rfl⟩
  rw [← hR]
  have HR0 : Hid (R = ordL (A.drop 0) (B.drop 0)) := hR
  clear hR hc
  go_enter Tryz.func27, Tryz.ntmps27
  go_wp2_with fail
  refine (HO1.out _).mono ?_
  rintro r w1 ⟨rfl, rfl⟩
  clear HO1
  go_wp2_with fail
  go_loopw [6] (fun a W => ∃ i : Nat, i ≤ A.length ∧ i ≤ B.length ∧ a = .int .i64 (i : Int) ∧ Hid (R = ordL (A.drop i) (B.drop i)) ∧ Hid (KC w ao ao' b o cap b' o' cap' A B W)) (fun a _ => A.length - (intOf a).toNat)
  case atStart => exact ⟨0, by omega, by omega, rfl, HR0, HKs.out _ _⟩
  case round =>
   clear HKs HR0
   obtain ⟨i, i1, i2, rfl, HR, HK⟩ := hrel
   have f1 := HK.out.f1
   have f2 := HK.out.f2
   by_cases hlt : i < A.length ∧ i < B.length
   ·obtain ⟨l1, l2⟩ := hlt
    have l1' : (i : Int) < (A.length : Int) := by omega
    have l2' : (i : Int) < (B.length : Int) := by omega
    obtain rfl := h1 (by intro k; change A = [] at k; rw [k] at l1; simp at l1)
    obtain rfl := k1 (by intro k; change B = [] at k; rw [k] at l2; simp at l2)
    obtain ⟨q1, q2⟩ := HK.out.r1 i l1
    obtain ⟨q3, q4⟩ := HK.out.r2 i l2
    have HK1 : Hid (KC w (some ⟨b, o, none⟩) (some ⟨b', o', none⟩) b o cap b' o' cap' A B wr.drew) := HK.out.drew 1
    have HK2 : Hid (KC w (some ⟨b, o, none⟩) (some ⟨b', o', none⟩) b o cap b' o' cap' A B wr.drew.drew) := HK1.out.drew 1
    have Q2 : Hid _ := (HK1.out.r1 i l1).2
    have Q4 : Hid _ := (HK1.out.r2 i l2).2
    have hS := HR.out
    rw [ordL_drop A B i l1 l2] at hS
    have HO1 : Hid _ := HO.out A[i].1 B[i].1
    have HO2 : Hid _ := HO.out A[i].2 B[i].2
    have z1c := ordE_cases A[i].1 B[i].1
    have z2c := ordE_cases A[i].2 B[i].2
    generalize ordE A[i].1 B[i].1 = z1 at *
    generalize ordE A[i].2 B[i].2 = z2 at *
    generalize A[i].1 = x1 at *
    generalize A[i].2 = x2 at *
    generalize B[i].1 = y1 at *
    generalize B[i].2 = y2 at *
    clear HR HO
    clear HK
    as_aux_lemma =>
    go_upto_region 7 with fail
    go_cut [7] from 31 to 43 (fun v W => v = .int .i64 z1 ∧ W = wr.drew)
    case first =>
     clear HK1 HK2 hS HO2 z1c z2c Q2 Q4
     as_aux_lemma =>
      go_region_with (go_at_call 57; with_reducible refine (HO1.out _).mono ?_; rintro r w1 ⟨rfl, rfl⟩)
      all_goals
       go_wp2_with fail
       go_meet
       exact ⟨rfl, rfl⟩
    case rest =>
    obtain ⟨rfl, rfl⟩ := hcut
    clear HO1 f1 f2 q1 q2 q3 q4
    by_cases e1 : z1 = 0
    ·have e1' : (z1 != 0) = false := by simpa using e1
     rw [if_neg (by simpa using e1)] at hS
     have f1 := HK1.out.f1
     have f2 := HK1.out.f2
     have q2 := Q2.out
     have q4 := Q4.out
     clear Q2 Q4
     clear z1c e1
     as_aux_lemma =>
     go_upto_region 10 with fail
     go_cut [8] from 47 to 59 (fun v W => v = .int .i64 z2 ∧ W = wr.drew.drew)
     case first =>
      clear HK1 HK2 hS z2c
      as_aux_lemma =>
       go_region_with (go_at_call 57; with_reducible refine (HO2.out _).mono ?_; rintro r w1 ⟨rfl, rfl⟩)
       all_goals
        go_wp2_with fail
        go_meet
        exact ⟨rfl, rfl⟩
     case rest =>
     obtain ⟨rfl, rfl⟩ := hcut
     clear HO2 f1 f2 q2 q4 HK1
     by_cases e2 : z2 = 0
     ·have e2' : (z2 != 0) = false := by simpa using e2
      rw [if_neg (by simpa using e2)] at hS
      have HF : Hid _ := hS
      clear hS z2c e2
      as_aux_lemma =>
       go_wp2_with fail
       exact ⟨⟨i + 1, by omega, by omega, by go_num, HF, HK2⟩, by simp [intOf]; omega⟩
     ·have e2' : (z2 != 0) = true := by simpa using e2
      rw [if_pos e2] at hS
      have hbl := HK2.out.bl
      have HF : Hid _ := hS
      clear hS HK2 z2c e2
      as_aux_lemma =>
       go_wp2_with fail
       go_ret
       exact ⟨retI HF.out.symm, hbl⟩
    ·have e1' : (z1 != 0) = true := by simpa using e1
     rw [if_pos e1] at hS
     have hbl := HK1.out.bl
     have HF : Hid _ := hS
     clear hS HK1 HK2 z1c z2c e1 HO2 Q2 Q4
     as_aux_lemma =>
      go_wp2_with fail
      go_ret
      exact ⟨retI HF.out.symm, hbl⟩
   ·have hS := HR.out
    rw [ordL_end A B i hlt i1 i2] at hS
    have hbl := HK.out.bl
    clear HR HK HO h1 k1
    by_cases a1 : i < A.length
    ·have a1' : (i : Int) < (A.length : Int) := by omega
     have a2' : ¬ (i : Int) < (B.length : Int) := by omega
     have a3' : ¬ (A.length : Int) < (B.length : Int) := by omega
     have a4' : (B.length : Int) < (A.length : Int) := by omega
     rw [if_neg (by omega), if_pos (by omega)] at hS
     have HF : Hid _ := hS
     clear hS hlt
     as_aux_lemma =>
      go_wp2_with fail
      go_ret
      exact ⟨retI HF.out.symm, hbl⟩
    ·have a1' : ¬ (i : Int) < (A.length : Int) := by omega
     by_cases a2 : i < B.length
     ·have a3' : (A.length : Int) < (B.length : Int) := by omega
      rw [if_pos (by omega)] at hS
      have HF : Hid _ := hS
      clear hS hlt
      as_aux_lemma =>
       go_wp2_with fail
       go_ret
       exact ⟨retI HF.out.symm, hbl⟩
     ·have a3' : ¬ (A.length : Int) < (B.length : Int) := by omega
      have a4' : ¬ (B.length : Int) < (A.length : Int) := by omega
      rw [if_neg (by omega), if_neg (by omega)] at hS
      have HF : Hid _ := hS
      clear hS hlt
      as_aux_lemma =>
       go_wp2_with fail
       go_ret
       exact ⟨retI HF.out.symm, hbl⟩
 ·rw [if_pos hz]
  have hz' : (z != 0) = true := by simpa using hz
  clear hc HKs
  as_aux_lemma =>
   go_enter Tryz.func27, Tryz.ntmps27
   go_wp2_with fail
   refine (HO1.out _).mono ?_
   rintro r w1 ⟨rfl, rfl⟩
   go_wp2_with fail
   go_ret
   exact ⟨rfl, bel2 w _ _⟩
end Go.Proofs.YtblkempemdlalaaGreatDoor.La
/- Check, the document's. Own work of the verifier. -/
namespace Go.Proofs.YtblkempemdlalaaGreatDoor.La
open Go.RowKit

def chkL : List Lb → Option (List UInt8) → Int
 | [], _ => 0
 | a :: r, p => if lnameB a.1 = false then 9 else if txE a.2 ≠ 0 then txE a.2 else
  match p with
  | none => chkL r (some a.1)
  | some q => if bhE q a.1 ≠ 0 then bhE q a.1 else chkL r (some a.1)
def chkD (d : Ds) : Int := if d.kind < 1 ∨ 3 < d.kind then 7 else if nameB d.name = false then 9 else if txE d.help ≠ 0 then txE d.help else if 16 < d.labels.length then 3 else chkL d.labels none
def prv (A : List Lb) (i : Nat) : Option (List UInt8) := if i = 0 then none else (A[i - 1]?).map (·.1)
theorem prv_succ (A : List Lb) (i : Nat) (h : i < A.length) : prv A (i + 1) = some A[i].1 := by
 unfold prv
 rw [if_neg (by omega), Nat.add_sub_cancel, List.getElem?_eq_getElem h]
 rfl
theorem chkL_drop (A : List Lb) (i : Nat) (p : Option (List UInt8)) (h : i < A.length) : chkL (A.drop i) p = if lnameB A[i].1 = false then 9 else if txE A[i].2 ≠ 0 then txE A[i].2 else
  match p with
  | none => chkL (A.drop (i + 1)) (some A[i].1)
  | some q => if bhE q A[i].1 ≠ 0 then bhE q A[i].1 else chkL (A.drop (i + 1)) (some A[i].1) := by
 rw [List.drop_eq_getElem_cons h]
 cases p <;> simp only [chkL]
def DsS (d : Ds) : Prop := d.name.length ≤ 4611686018427387904 ∧ d.help.length ≤ 4611686018427387904 ∧ ∀ a ∈ d.labels, a.1.length ≤ 4611686018427387904 ∧ a.2.length ≤ 4611686018427387904
theorem bel_drewN {B : Nat} {a w : World} (h : Below B a w) (n : Nat) : Below B a (w.drewN n) := by
 induction n with
 | zero => exact h
 | succ n ih => exact ⟨ih.os, ih.tape, ih.output, ih.size, ih.block⟩
structure KH (w : World) (ao : Option Addr) (b o cap : Nat) (A : List Lb) (W : World) : Prop where
 f : W.cell? ⟨w.heap.size, 3, none⟩ = some (.slice ao A.length cap)
 r : RowL W b o A
 bl : Below w.heap.size w W
theorem KH.below {w W W1 : World} {ao : Option Addr} {b o cap : Nat} {A : List Lb} (h : KH w ao b o cap A W) (hb : Below W.heap.size W W1) : KH w ao b o cap A W1 :=
 ⟨by rw [hb.cell (p := ⟨w.heap.size, 3, none⟩) (lt_of_cell h.f)]; exact h.f, h.r.below hb, h.bl.trans (hb.mono h.bl.size)⟩
theorem bel_drew {B : Nat} {a w : World} (h : Below B a w) : Below B a w.drew := ⟨h.os, h.tape, h.output, h.size, h.block⟩
theorem sizeL (W : World) : (sizeOf 46).run Tryz.prog W = .ok 2 W := by simp [sizeOf]; rfl
theorem index_lab (b o len cap j : Nat) (z : Int) (hz : z = (j : Int)) (hj : j < len) (W : World) :
  (Instr.indexAt 34 (.slice (some ⟨b, o, none⟩) len cap) (.int .i64 z)).run Tryz.prog W = .ok (.pointer (some ⟨b, o + j * 2, none⟩)) W := by
 subst hz
 have he : Tryz.prog.elem 34 = 46 := by simp [Program.elem, Tryz.underlying34]
 rw [run_indexAt_slice W 34 ⟨b, o, none⟩ len cap .i64 (j : Int) (by rw [he]; exact Tryz.underlying34), if_pos (by omega), he, sizeL]
 simp [Addr.add]
set_option maxHeartbeats 4000000 in
set_option maxRecDepth 100000 in
theorem dcheck_any (d : Ds) (v : Value) (w : World) (hd : DsAt w d v) (hs : DsS d) :
  Calls Tryz.prog 25 #[v] w fun r w' => r = .returned (.int .i64 (chkD d)) ∧ Below w.heap.size w w' := by
 obtain ⟨ao, b, o, cap, rfl, h1, h2, h3⟩ := hd.ex
 obtain ⟨kd, n, h, A⟩ := d
 obtain ⟨s1, s2, s3⟩ := hs
 have HN : Hid _ := fun W => name_any n s1 W
 have HH : Hid _ := fun W => ltext_any h s2 W
 have HLn : Hid (∀ l : List UInt8, l.length ≤ 4611686018427387904 → ∀ W, Calls Tryz.prog 49 #[.string ⟨l.toArray⟩] W fun r w' => r = .returned (.bool (lnameB l)) ∧ w' = W) := fun l hl W => lname_any l hl W
 have HTx : Hid (∀ l : List UInt8, l.length ≤ 4611686018427387904 → ∀ W, Calls Tryz.prog 48 #[.string ⟨l.toArray⟩] W fun r w' => r = .returned (.int .i64 (txE l)) ∧ w' = W) := fun l hl W => ltext_any l hl W
 have HBh : Hid (∀ (a b : List UInt8) W, Calls Tryz.prog 50 #[.string ⟨a.toArray⟩, .string ⟨b.toArray⟩] W fun r w' => r = .returned (.int .i64 (bhE a b)) ∧ w' = W) := fun a b W => behind_any a b W
 have HS3 : Hid (∀ a ∈ A, a.1.length ≤ 4611686018427387904 ∧ a.2.length ≤ 4611686018427387904) := s3
 have HK0 : Hid (∀ t, KH w ao b o cap A (w.alloc (.cells #[.int .i64 kd, .string ⟨n.toArray⟩, .string ⟨h.toArray⟩, .slice ao A.length cap] t))) := fun t => ⟨by simp [go_sem], h3.below (bel1 w _), bel1 w _⟩
 have hD : chkD ⟨kd, n, h, A⟩ = if kd < 1 ∨ 3 < kd then 7 else if nameB n = false then 9 else if txE h ≠ 0 then txE h else if 16 < A.length then 3 else chkL A none := rfl
 rw [hD]
 clear hD hd h3 s1 s2 s3
 by_cases g1 : kd < 1
 ·rw [if_pos (Or.inl g1)]
  clear HN HH HLn HTx HBh HS3 HK0
  as_aux_lemma =>
   go_enter Tryz.func25, Tryz.ntmps25
   go_wp2_with fail
   go_ret
   exact ⟨rfl, bel1 w _⟩
 by_cases g2 : 3 < kd
 ·rw [if_pos (Or.inr g2)]
  clear HN HH HLn HTx HBh HS3 HK0
  as_aux_lemma =>
   go_enter Tryz.func25, Tryz.ntmps25
   go_wp2_with fail
   go_ret
   exact ⟨rfl, bel1 w _⟩
 rw [if_neg (by omega)]
 generalize nameB n = nb at *
 cases nb
 ·rw [if_pos rfl]
  clear HH HLn HTx HBh HS3 HK0
  as_aux_lemma =>
   go_enter Tryz.func25, Tryz.ntmps25
   go_wp2_with fail
   refine (HN.out _).mono ?_
   rintro r w1 ⟨rfl, rfl⟩
   go_wp2_with fail
   go_ret
   exact ⟨rfl, bel1 w _⟩
 rw [if_neg (by decide)]
 generalize txE h = z at *
 by_cases g3 : z = 0
 ·subst g3
  rw [if_neg (by decide)]
  by_cases g4 : 16 < A.length
  ·have g4' : (16 : Int) < (A.length : Int) := by omega
   rw [if_pos g4]
   clear HLn HTx HBh HS3 HK0
   as_aux_lemma =>
    go_enter Tryz.func25, Tryz.ntmps25
    go_wp2_with fail
    refine (HN.out _).mono ?_
    rintro r w1 ⟨rfl, rfl⟩
    go_wp2_with fail
    refine (HH.out _).mono ?_
    rintro r w1 ⟨rfl, rfl⟩
    go_wp2_with fail
    go_ret
    exact ⟨rfl, bel1 w _⟩
  have g4' : ¬ (16 : Int) < (A.length : Int) := by omega
  rw [if_neg g4]
  obtain ⟨R, hR⟩ : ∃ R, R = chkL A none := ⟨_, rfl⟩
  rw [← hR]
  have HR0 : Hid (R = chkL (A.drop 0) (prv A 0)) := hR
  clear hR
  go_enter Tryz.func25, Tryz.ntmps25
  go_wp2_with fail
  refine (HN.out _).mono ?_
  rintro r w1 ⟨rfl, rfl⟩
  go_wp2_with fail
  refine (HH.out _).mono ?_
  rintro r w1 ⟨rfl, rfl⟩
  clear HN HH
  go_wp2_with fail
  go_loopw [4] (fun a W => ∃ i : Nat, i ≤ A.length ∧ a = .int .i64 (i : Int) ∧ Hid (R = chkL (A.drop i) (prv A i)) ∧ Hid (KH w ao b o cap A W)) (fun a _ => A.length - (intOf a).toNat)
  case atStart => exact ⟨0, by omega, rfl, HR0, HK0.out _⟩
  case round =>
   clear HK0 HR0
   obtain ⟨i, hi, rfl, HR, HK⟩ := hrel
   have f1 := HK.out.f
   by_cases hlt : i < A.length
   ·have hlt' : (i : Int) < (A.length : Int) := by omega
    obtain rfl := h1 (by intro k; change A = [] at k; rw [k] at hlt; simp at hlt)
    obtain ⟨q1, q2⟩ := HK.out.r i hlt
    obtain ⟨m1, m2⟩ := HS3.out A[i] (List.getElem_mem hlt)
    have hS := HR.out
    rw [chkL_drop A i _ hlt] at hS
    have HL1 : Hid _ := HLn.out A[i].1 m1
    have HT1 : Hid _ := HTx.out A[i].2 m2
    have HB1 : Hid (∀ p, Hid (∀ W, Calls Tryz.prog 50 #[.string ⟨p.toArray⟩, .string ⟨A[i].1.toArray⟩] W fun r w' => r = .returned (.int .i64 (bhE p A[i].1)) ∧ w' = W)) := fun p => HBh.out p A[i].1
    have HPr : Hid (prv A (i + 1) = some A[i].1) := prv_succ A i hlt
    have HKn : Hid (∀ t, KH w (some ⟨b, o, none⟩) b o cap A (wr.alloc (.cells #[.string ⟨A[i].1.toArray⟩, .string ⟨A[i].2.toArray⟩] t))) := fun t => HK.out.below (bel1 wr _)
    have hBl := HK.out.bl
    generalize lnameB A[i].1 = lb at *
    generalize txE A[i].2 = tz at *
    generalize hx1 : A[i].1 = x1 at *
    generalize A[i].2 = x2 at *
    clear HR HLn HTx HBh m1 m2 hx1
    cases lb
    ·rw [if_pos rfl] at hS
     have HF : Hid _ := hS
     clear hS HK HT1 HB1 HPr HKn HS3
     as_aux_lemma =>
      go_wp2_with fail
      refine (HL1.out _).mono ?_
      rintro r w1 ⟨rfl, rfl⟩
      go_wp2_with fail
      go_ret
      exact ⟨retI HF.out.symm, hBl.trans ((bel1 wr _).mono hBl.size)⟩
    rw [if_neg (by decide)] at hS
    by_cases e1 : tz = 0
    ·subst e1
     rw [if_neg (by decide)] at hS
     by_cases i0 : i = 0
     ·have i0' : ((i : Int) == 0) = true := by rw [beq_iff_eq]; omega
      have HF : Hid (R = chkL (A.drop (i + 1)) (prv A (i + 1))) := by
       show R = _
       rw [HPr.out]
       have hp : prv A i = none := by unfold prv; rw [if_pos i0]
       rw [hp] at hS
       exact hS
      clear hS HK HB1 HPr HS3 i0
      as_aux_lemma =>
       go_wp2_with fail
       refine (HL1.out _).mono ?_
       rintro r w1 ⟨rfl, rfl⟩
       go_wp2_with fail
       refine (HT1.out _).mono ?_
       rintro r w1 ⟨rfl, rfl⟩
       go_wp2_with fail
       exact ⟨⟨i + 1, by omega, by go_num, HF, HKn.out _⟩, by simp [intOf]; omega⟩
     ·obtain ⟨j, hj⟩ : ∃ j, i = j + 1 := ⟨i - 1, by omega⟩
      have jlt : j < A.length := by omega
      have i0' : ((i : Int) == 0) = false := by rw [beq_eq_false_iff_ne]; omega
      have hj' : (i : Int) - 1 = (j : Int) := by omega
      have jlt' : (j : Int) < (A.length : Int) := by omega
      have hix := index_lab b o A.length cap j ((i : Int) - 1) hj' jlt
      have hwr : IntKind.i64.wrap ((i : Int) - 1) = (j : Int) := by rw [IntKind.wrap_i64]; omega
      have hp : prv A i = some A[j].1 := by rw [hj]; exact prv_succ A j jlt
      rw [hp] at hS
      have HB2 : Hid _ := (HB1.out A[j].1).out
      have q5 := ((HKn.out 46).r j jlt).1
      have f5 := (HKn.out 46).f
      have HKm : Hid _ := HKn.out 46
      have c5 : (wr.alloc (.cells #[.string ⟨x1.toArray⟩, .string ⟨x2.toArray⟩] 46)).cell? ⟨wr.heap.size, 0, none⟩ = some (.string ⟨x1.toArray⟩) := by simp [go_sem]
      have HC5 : Hid _ := c5
      have HF5 : Hid _ := f5
      have HQ5 : Hid _ := q5
      clear c5 f5 q5 HKn
      have hS' : R = if bhE A[j].1 x1 ≠ 0 then bhE A[j].1 x1 else chkL (A.drop (i + 1)) (some x1) := hS
      clear hS
      generalize bhE A[j].1 x1 = bz at *
      generalize A[j].1 = pq at *
      clear hp HB1 HS3 HK hj i0
      as_aux_lemma =>
      go_wp2_with fail
      refine (HL1.out _).mono ?_
      rintro r w1 ⟨rfl, rfl⟩
      go_wp2_with fail
      refine (HT1.out _).mono ?_
      rintro r w1 ⟨rfl, rfl⟩
      clear HL1 HT1
      generalize wr.alloc (.cells #[.string ⟨x1.toArray⟩, .string ⟨x2.toArray⟩] 46) = W5 at *
      have c5 := HC5.out
      have f5 := HF5.out
      have q5 := HQ5.out
      clear HC5 HF5 HQ5
      go_upto_region 20 with fail
      go_cut [7] from 54 to 63 (fun v W => v = .int .i64 bz ∧ Hid (KH w (some ⟨b, o, none⟩) b o cap A W))
      case first =>
       clear hS'
       as_aux_lemma =>
        go_quiet (first | (go_at_call 50; exact Calls.quiet_of_same (HB2.out _)))
        go_wp2_with fail
        go_meet
        exact ⟨rfl, HKm.out.below (bel_drewN (Below.refl _ _) _)⟩
      case rest =>
      obtain ⟨rfl, HK5⟩ := hcut
      clear HB2 q5 f5 c5 HKm
      by_cases e2 : bz = 0
      ·subst e2
       rw [if_neg (by decide)] at hS'
       have HF : Hid (R = chkL (A.drop (i + 1)) (prv A (i + 1))) := by
        show R = _
        rw [HPr.out]
        exact hS'
       clear hS' HPr
       as_aux_lemma =>
        go_wp2_with fail
        exact ⟨⟨i + 1, by omega, by go_num, HF, HK5⟩, by simp [intOf]; omega⟩
      ·have e2' : (bz != 0) = true := by simpa using e2
       rw [if_pos e2] at hS'
       have HF : Hid _ := hS'
       have hbl := HK5.out.bl
       clear hS' HPr e2 HK5
       as_aux_lemma =>
        go_wp2_with fail
        go_ret
        exact ⟨retI HF.out.symm, hbl⟩
    ·rw [if_pos e1] at hS
     have e1' : (tz != 0) = true := by simpa using e1
     have HF : Hid _ := hS
     clear hS HK HB1 HPr HKn HS3 e1
     as_aux_lemma =>
      go_wp2_with fail
      refine (HL1.out _).mono ?_
      rintro r w1 ⟨rfl, rfl⟩
      go_wp2_with fail
      refine (HT1.out _).mono ?_
      rintro r w1 ⟨rfl, rfl⟩
      go_wp2_with fail
      go_ret
      exact ⟨retI HF.out.symm, hBl.trans ((bel1 wr _).mono hBl.size)⟩
   ·have hlt' : ¬ (i : Int) < (A.length : Int) := by omega
    have hS := HR.out
    rw [List.drop_eq_nil_of_le (by omega), chkL] at hS
    have HF : Hid _ := hS
    have hbl := HK.out.bl
    clear HR HK hS HLn HTx HBh HS3
    as_aux_lemma =>
     go_wp2_with fail
     go_ret
     exact ⟨retI HF.out.symm, hbl⟩
 ·rw [if_pos g3]
  have g3' : (z != 0) = true := by simpa using g3
  clear HLn HTx HBh HS3 HK0 g3
  as_aux_lemma =>
   go_enter Tryz.func25, Tryz.ntmps25
   go_wp2_with fail
   refine (HN.out _).mono ?_
   rintro r w1 ⟨rfl, rfl⟩
   go_wp2_with fail
   refine (HH.out _).mono ?_
   rintro r w1 ⟨rfl, rfl⟩
   go_wp2_with fail
   go_ret
   exact ⟨rfl, bel1 w _⟩
end Go.Proofs.YtblkempemdlalaaGreatDoor.La
