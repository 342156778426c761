/- Check, the document's. Own work of the verifier. -/
import Derived.Test.YthgfeghgcickhaaGreatDoorYAF
import Derived.Test.YthgfeghgcickhaaGreatDoorYAE
namespace Go.Proofs.YthgfeghgcickhaaGreatDoor.La
open Go.RowKit

/-- What is wrong with labels, behind one of that name. -/
def chkL : List Lb → Option (List UInt8) → Int
  | [], _ => 0
  | a :: r, p => if lnameB a.1 = false then 9 else if txE a.2 ≠ 0 then txE a.2 else
    match p with
    | none => chkL r (some a.1)
    | some q => if bhE q a.1 ≠ 0 then bhE q a.1 else chkL r (some a.1)
def chkD (d : Ds) : Int := if d.kind < 1 ∨ 3 < d.kind then 7 else if nameB d.name = false then 9 else if txE d.help ≠ 0 then txE d.help else if 16 < d.labels.length then 3 else chkL d.labels none
def prv (A : List Lb) (i : Nat) : Option (List UInt8) := if i = 0 then none else (A[i - 1]?).map (·.1)
theorem prv_succ (A : List Lb) (i : Nat) (h : i < A.length) : prv A (i + 1) = some A[i].1 := by
  unfold prv
  rw [if_neg (by omega), Nat.add_sub_cancel, List.getElem?_eq_getElem h]
  rfl
theorem chkL_drop (A : List Lb) (i : Nat) (p : Option (List UInt8)) (h : i < A.length) : chkL (A.drop i) p = if lnameB A[i].1 = false then 9 else if txE A[i].2 ≠ 0 then txE A[i].2 else
    match p with
    | none => chkL (A.drop (i + 1)) (some A[i].1)
    | some q => if bhE q A[i].1 ≠ 0 then bhE q A[i].1 else chkL (A.drop (i + 1)) (some A[i].1) := by
  rw [List.drop_eq_getElem_cons h]
  cases p <;> simp only [chkL]
/-- No text of a description is longer than memory is. -/
def DsS (d : Ds) : Prop := d.name.length ≤ 4611686018427387904 ∧ d.help.length ≤ 4611686018427387904 ∧ ∀ a ∈ d.labels, a.1.length ≤ 4611686018427387904 ∧ a.2.length ≤ 4611686018427387904
theorem bel_drewN {B : Nat} {a w : World} (h : Below B a w) (n : Nat) : Below B a (w.drewN n) := by
  induction n with
  | zero => exact h
  | succ n ih => exact ⟨ih.os, ih.tape, ih.output, ih.size, ih.block⟩
structure KH (w : World) (ao : Option Addr) (b o cap : Nat) (A : List Lb) (W : World) : Prop where
  f : W.cell? ⟨w.heap.size, 3, none⟩ = some (.slice ao A.length cap)
  r : RowL W b o A
  bl : Below w.heap.size w W
theorem KH.below {w W W1 : World} {ao : Option Addr} {b o cap : Nat} {A : List Lb} (h : KH w ao b o cap A W) (hb : Below W.heap.size W W1) : KH w ao b o cap A W1 :=
  ⟨by rw [hb.cell (p := ⟨w.heap.size, 3, none⟩) (lt_of_cell h.f)]; exact h.f, h.r.below hb, h.bl.trans (hb.mono h.bl.size)⟩
theorem bel_drew {B : Nat} {a w : World} (h : Below B a w) : Below B a w.drew := ⟨h.os, h.tape, h.output, h.size, h.block⟩
theorem sizeL (W : World) : (sizeOf 67).run Tryz.prog W = .ok 2 W := by simp [sizeOf]; rfl
theorem index_lab (b o len cap j : Nat) (z : Int) (hz : z = (j : Int)) (hj : j < len) (W : World) :
    (Instr.indexAt 31 (.slice (some ⟨b, o, none⟩) len cap) (.int .i64 z)).run Tryz.prog W = .ok (.pointer (some ⟨b, o + j * 2, none⟩)) W := by
  subst hz
  have he : Tryz.prog.elem 31 = 67 := by simp [Program.elem, Tryz.underlying31]
  rw [run_indexAt_slice W 31 ⟨b, o, none⟩ len cap .i64 (j : Int) (by rw [he]; exact Tryz.underlying31), if_pos (by omega), he, sizeL]
  simp [Addr.add]
end Go.Proofs.YthgfeghgcickhaaGreatDoor.La
/- THE CODE'S isRight, checkText, checkPlace, checkLabel. Own work of the verifier. -/
namespace Go.Proofs.YthgfeghgcickhaaGreatDoor.La
open Go.RowKit

set_option maxRecDepth 100000 in
theorem below_iter (w : World) (s : ByteArray) (p : Nat) : Below w.heap.size w (w.iter s p) := (Below.refl _ _).alloc (Nat.le_refl _) _
set_option maxHeartbeats 4000000 in
set_option maxRecDepth 100000 in
theorem right_any (l : List UInt8) (hl : l.length ≤ 4611686018427387904) (w : World) :
    Calls Tryz.prog 50 #[.string ⟨l.toArray⟩] w fun r w' => r = .returned (.bool (utfB l)) ∧ Below w.heap.size w w' := by
  obtain ⟨R, hR⟩ : ∃ R, R = utfB l := ⟨_, rfl⟩
  rw [← hR]
  have HR0 : Hid (R = utfB (l.drop 0)) := by show R = _; rw [hR, List.drop_zero]
  clear hR
  go_enter Tryz.func50, Tryz.ntmps50
  go_wp2_with fail
  go_loopw [] (fun W => ∃ pos : Nat, pos ≤ l.length ∧ Hid (R = utfB (l.drop pos)) ∧ W = w.iter ⟨l.toArray⟩ pos) (fun W => l.length - W.iterPos w.heap.size)
  case atStart => exact ⟨0, by omega, HR0, rfl⟩
  case round =>
    obtain ⟨pos, hpos, HR, hw⟩ := hrel
    subst wr
    clear HR0
    have hsz : (ByteArray.mk l.toArray).size = l.length := by show l.toArray.size = _; simp
    by_cases hlt : pos < l.length
    · have hnx : ∀ ty, (Instr.next (.pointer (some ⟨w.heap.size, 0, none⟩)) true ty).run Tryz.prog (w.iter ⟨l.toArray⟩ pos) = _ := fun ty => run_next_any w ⟨l.toArray⟩ pos ty (by rw [hsz]; exact hlt)
      obtain ⟨r, n, hd⟩ : ∃ r n, Utf8.decode ⟨l.toArray⟩ pos = (r, n) := ⟨_, _, rfl⟩
      rw [hd] at hnx
      simp only at hnx
      obtain ⟨h1, h2, h3, h4⟩ := utf_step l pos r n hlt hd
      have hdr := drop_bytes l pos
      have HP : Hid _ := fun W => pre_any (l.drop pos) [239, 191, 189] W
      have hp := pre_three l pos hlt
      rcases h4 with ⟨hb, hu⟩ | ⟨hb, hu⟩
      · have hr : ((r : Int) == 65533) = true := by rw [beq_iff_eq]; have := hb.1; omega
        rw [decide_eq_false hb.2] at hp
        rw [hp] at HP
        have HF : Hid (R = false) := HR.out.trans hu
        clear HR hb hu hp hd hsz
        as_aux_lemma =>
          go_wp2_with (go_at_call 84; refine (HP.out _).mono ?_; rintro e1 w1 ⟨rfl, rfl⟩)
          go_ret
          exact ⟨congrArg (fun z : Bool => Ending.returned (Value.bool z)) HF.out.symm, below_iter _ _ _⟩
      · have HR' : Hid (R = utfB (l.drop (pos + n))) := HR.out.trans hu
        by_cases hr0 : r = 65533
        · have hr : ((r : Int) == 65533) = true := by rw [beq_iff_eq]; omega
          rw [decide_eq_true (Classical.byContradiction (fun k => hb ⟨hr0, k⟩))] at hp
          rw [hp] at HP
          clear HR hb hu hp hd hsz hr0
          as_aux_lemma =>
            go_wp2_with (go_at_call 84; refine (HP.out _).mono ?_; rintro e1 w1 ⟨rfl, rfl⟩)
            exact ⟨⟨pos + n, by omega, HR', rfl⟩, by rw [World.iterPos_iter, World.iterPos_iter]; omega⟩
        · have hr : ((r : Int) == 65533) = false := by rw [beq_eq_false_iff_ne]; omega
          clear HR hb hu hp hd hsz hr0 HP
          as_aux_lemma =>
            go_wp2_with fail
            exact ⟨⟨pos + n, by omega, HR', rfl⟩, by rw [World.iterPos_iter, World.iterPos_iter]; omega⟩
    · have hnx : ∀ ty, (Instr.next (.pointer (some ⟨w.heap.size, 0, none⟩)) true ty).run Tryz.prog (w.iter ⟨l.toArray⟩ pos) = _ := fun ty => run_next_end w ⟨l.toArray⟩ pos ty (by rw [hsz]; exact hlt)
      have HF : Hid (R = true) := by
        have := HR.out
        rw [List.drop_eq_nil_of_le (by omega), utfB] at this
        exact this
      clear HR hsz
      as_aux_lemma =>
        go_wp2_with fail
        go_ret
        exact ⟨congrArg (fun z : Bool => Ending.returned (Value.bool z)) HF.out.symm, below_iter _ _ _⟩
set_option maxRecDepth 100000 in
set_option maxHeartbeats 1000000 in
theorem ctext_any (l : List UInt8) (hl : l.length ≤ 4611686018427387904) (w : World) :
    Calls Tryz.prog 28 #[.string ⟨l.toArray⟩] w fun r w' => r = .returned (.int .i64 (txE l)) ∧ Below w.heap.size w w' := by
  have HU : Hid _ := fun W => right_any l hl W
  unfold txE
  by_cases h : 1024 < l.length
  · have h' : ¬ (l.length : Int) ≤ 1024 := by omega
    have h'' : (1024 : Int) < (l.length : Int) := by omega
    rw [if_pos h]
    as_aux_lemma =>
      go_enter Tryz.func28, Tryz.ntmps28
      go_wp2_with fail
      go_ret
      exact ⟨rfl, Below.refl _ _⟩
  · have h' : (l.length : Int) ≤ 1024 := by omega
    have h'' : ¬ (1024 : Int) < (l.length : Int) := by omega
    rw [if_neg h]
    cases hU : utfB l
    · rw [hU] at HU
      rw [if_neg (by decide)]
      as_aux_lemma =>
        go_enter Tryz.func28, Tryz.ntmps28
        go_wp2_with (go_at_call 50; refine (HU.out _).mono ?_; rintro e1 w1 ⟨rfl, hb⟩)
        go_ret
        exact ⟨rfl, hb⟩
    · rw [hU] at HU
      rw [if_pos rfl]
      as_aux_lemma =>
        go_enter Tryz.func28, Tryz.ntmps28
        go_wp2_with (go_at_call 50; refine (HU.out _).mono ?_; rintro e1 w1 ⟨rfl, hb⟩)
        go_ret
        exact ⟨rfl, hb⟩
/-- What is wrong with a name behind the labels ahead of it. -/
def plE (A : List Lb) (n : List UInt8) : Int := if A.length = 0 then 0 else bhE (A.getD (A.length - 1) ([], [])).1 n
set_option maxRecDepth 100000 in
set_option maxHeartbeats 1000000 in
theorem place_any (ao : Option Addr) (b o cap : Nat) (A : List Lb) (hao : A ≠ [] → ao = some ⟨b, o, none⟩) (hl : A.length ≤ 9223372036854775807) (n : List UInt8) (w : World) (hA : RowL w b o A) :
    Calls Tryz.prog 52 #[.slice ao A.length cap, .string ⟨n.toArray⟩] w fun r w' => r = .returned (.int .i64 (plE A n)) ∧ w' = w := by
  unfold plE
  by_cases h0 : A.length = 0
  · have e0 : ((A.length : Int) == 0) = true := by rw [beq_iff_eq]; omega
    rw [if_pos h0]
    clear h0
    as_aux_lemma =>
      go_enter Tryz.func52, Tryz.ntmps52
      go_wp2_with fail
      go_ret
      exact ⟨rfl, rfl⟩
  · have e0 : ((A.length : Int) == 0) = false := by rw [beq_eq_false_iff_ne]; omega
    rw [if_neg h0]
    have hne : A ≠ [] := fun e => h0 (by rw [e]; rfl)
    obtain rfl := hao hne
    obtain ⟨m, hm⟩ : ∃ m, m + 1 = A.length := ⟨A.length - 1, by omega⟩
    have hml : m < A.length := by omega
    have hw : IntKind.i64.wrap ((A.length : Int) - 1) = (m : Int) := by
      rw [IntKind.wrap_i64]; omega
    obtain ⟨g1, g2⟩ := hA m hml
    have hg : A.getD (A.length - 1) ([], []) = A[m] := by
      rw [show A.length - 1 = m from by omega, List.getD_eq_getElem?_getD, List.getElem?_eq_getElem hml]; rfl
    rw [hg]
    clear hg
    generalize A[m].1 = q at *
    generalize A[m].2 = q2 at *
    have hix := index_lab b o A.length cap m (m : Int) rfl hml
    unfold bhE
    by_cases hq : q = n
    · subst hq
      rw [if_pos rfl]
      clear hne h0 hm
      as_aux_lemma =>
        go_enter Tryz.func52, Tryz.ntmps52
        go_wp2_with fail
        go_ret
        exact ⟨rfl, rfl⟩
    · have hq' : (n == q) = false := by rw [beq_eq_false_iff_ne]; exact fun e => hq e.symm
      rw [if_neg hq]
      have hls := less_list n q
      cases hb : bltB n q
      · rw [hb] at hls
        rw [if_neg (by decide)]
        clear hne h0 hm hq hb
        as_aux_lemma =>
          go_enter Tryz.func52, Tryz.ntmps52
          go_wp2_with fail
          go_ret
          exact ⟨rfl, rfl⟩
      · rw [hb] at hls
        rw [if_pos rfl]
        clear hne h0 hm hq hb
        as_aux_lemma =>
          go_enter Tryz.func52, Tryz.ntmps52
          go_wp2_with fail
          go_ret
          exact ⟨rfl, rfl⟩
end Go.Proofs.YthgfeghgcickhaaGreatDoor.La
