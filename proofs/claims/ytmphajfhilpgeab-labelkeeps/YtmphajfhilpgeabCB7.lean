/- THE READER: labels. Own work of the verifier. -/
import Derived.Test.YtmphajfhilpgeabCB6
namespace Go.Proofs.Ytmphajfhilpgeab
open Go.RowKit

/-- The cells of labels. -/
def flL : List Lb → List Value
  | [] => []
  | c :: L => .string ⟨c.1.toArray⟩ :: .string ⟨c.2.toArray⟩ :: flL L
theorem flL_length (L : List Lb) : (flL L).length = L.length * 2 := by
  induction L with
  | nil => rfl
  | cons c L ih => simp only [flL, List.length_cons, ih]; omega
theorem flL_append (A B : List Lb) : flL (A ++ B) = flL A ++ flL B := by
  induction A with
  | nil => rfl
  | cons c A ih => simp only [List.cons_append, flL, ih]
theorem flL_get (L : List Lb) (i : Nat) (h : i < L.length) : (flL L)[i * 2]? = some (.string ⟨L[i].1.toArray⟩) ∧ (flL L)[i * 2 + 1]? = some (.string ⟨L[i].2.toArray⟩) := by
  induction L generalizing i with
  | nil => simp at h
  | cons c L ih =>
    cases i with
    | zero => exact ⟨rfl, rfl⟩
    | succ i =>
      have := ih i (by simpa using h)
      rw [show (i + 1) * 2 = i * 2 + 2 by omega]
      simpa [flL] using this
theorem infoLabel : (Try.prog.info? 41).map (fun i => (i.zero, i.size, i.bytes)) = some (some (.agg #[.string ⟨#[]⟩, .string ⟨#[]⟩]), 2, 32) := by kernel_rfl
/-- A list of labels of the call's own (at B or behind it). -/
def OwnL (B : Nat) (v : Value) (L : List Lb) (W : World) : Prop := W.ownsRow B 41 2 v L.length (flL L)
theorem OwnL.open {B : Nat} {v : Value} {L : List Lb} {W : World} (h : OwnL B v L W) : ∃ ao b cap, v = .slice ao L.length cap ∧ (L ≠ [] → ao = some ⟨b, 0, none⟩) ∧ RowL W b 0 L ∧ L.length ≤ cap ∧ cap ≤ 9223372036854775807 := by
  rcases h.2 with ⟨h1, h2⟩ | ⟨g, cap, cur, hv, hg, hh, h3, h4, h5, h6⟩
  · have hL : L = [] := List.length_eq_zero_iff.1 h2
    subst hL
    exact ⟨none, 0, 0, h1, fun k => absurd rfl k, (fun i hi => by simp at hi), Nat.le_refl _, by omega⟩
  · refine ⟨_, g, cap, hv, fun _ => rfl, fun i hi => ?_, h3, by unfold maxLen at h4; omega⟩
    obtain ⟨e1, e2⟩ := flL_get L i hi
    rw [← h6, List.getElem?_take, if_pos (by omega)] at e1
    rw [← h6, List.getElem?_take, if_pos (by omega)] at e2
    rw [Array.getElem?_toList] at e1 e2
    constructor
    · show W.cell? ⟨g, 0 + i * 2, none⟩ = _
      rw [Nat.zero_add]
      simp [World.cell?, hh, e1]
    · show W.cell? ⟨g, 0 + i * 2 + 1, none⟩ = _
      rw [Nat.zero_add]
      simp [World.cell?, hh, e2]
theorem Ex.grown {g : Nat} {w W : World} (h : Ex g w W) : w.grownBy W (some g) := ⟨h.os, h.tape, h.output, h.size, fun k hk hg => h.block k hk (fun e => hg (by rw [e]))⟩
theorem OwnL.ex {B g : Nat} {v : Value} {L : List Lb} {W W1 : World} (h : OwnL B v L W) (hx : Ex g W W1) (hg : g < B) : OwnL B v L W1 := by
  refine World.ownsRow.kept h hx.grown ?_
  rcases h.2 with ⟨h1, _⟩ | ⟨k, cap, cur, hv, hk, _⟩
  · left; rw [h1]; rfl
  · right; rw [hv]; show some k ≠ some g; intro e; injection e; omega
/-- What the loop over labels keeps. -/
structure LI (w : World) (g : Nat) (l : List UInt8) (j : Nat) (L : List Lb) (v : Value) (W : World) : Prop where
  ex : Ex g w W
  rd : RdAt W g l j
  own : OwnL w.heap.size v L W
  hg : g < w.heap.size
theorem LI.next {w : World} {g j j' : Nat} {l : List UInt8} {L : List Lb} {v : Value} {W W1 : World} (s : LI w g l j L v W) (hx : Ex g W W1) (hr : RdAt W1 g l j') : LI w g l j' L v W1 := ⟨s.ex.trans hx, hr, s.own.ex hx s.hg, s.hg⟩
theorem LI.alloc {w : World} {g j : Nat} {l : List UInt8} {L : List Lb} {v : Value} {W : World} (s : LI w g l j L v W) (o : Obj) : LI w g l j L v (W.alloc o) := s.next (Ex.of (bel1 W o)) (s.rd.below (bel1 W o))
theorem LI.push {w : World} {g j : Nat} {l : List UInt8} {L : List Lb} {v v' : Value} {W W1 : World} (s : LI w g l j L v W) (ob : Obj) (x y : List UInt8) (hown : W1.ownsRow w.heap.size 41 2 v' (L.length + 1) (flL L ++ [.string ⟨x.toArray⟩, .string ⟨y.toArray⟩])) (hgr : (W.alloc ob).grownBy W1 v.ownBlock) : LI w g l j (L ++ [(x, y)]) v' W1 := by
  have s2 := s.alloc ob
  have hrow : ∀ k, v.ownBlock = some k → w.heap.size ≤ k := fun k hk => by
    rcases s.own.2 with ⟨h1, _⟩ | ⟨b, cap, cur, hv, hb, _⟩
    · rw [h1] at hk; cases hk
    · rw [hv] at hk
      have : b = k := by injection hk
      omega
  refine ⟨⟨hgr.os.trans s2.ex.os, hgr.tape.trans s2.ex.tape, hgr.output.trans s2.ex.output, Nat.le_trans s2.ex.size hgr.size, fun k hk hg => ?_⟩, ?_, ?_, s.hg⟩
  · rw [hgr.block k (Nat.lt_of_lt_of_le hk s2.ex.size) (fun e => by have := hrow k e.symm; omega)]
    exact s2.ex.block k hk hg
  · have hg := s.hg
    unfold RdAt
    rw [hgr.block g s2.rd.lt (fun e => by have := hrow g e.symm; omega)]
    exact s2.rd
  · unfold OwnL
    rw [List.length_append, flL_append]
    exact hown
/-- The labels behind one another, and the brace behind them. -/
def labsF : Nat → List UInt8 → Nat → List Lb → Except (Int × Nat) (List Lb × Nat)
  | 0, _, _, _ => .error (0, 0)
  | f + 1, l, p, L => match oneR l p L with
    | .error e => .error e
    | .ok (x, k) => if preB (l.drop k) [125] then .ok (L ++ [x], k + 1) else if preB (l.drop k) [44] then labsF f l (k + 1) (L ++ [x]) else .error (5, k)
/-- What labels answers, and where the reader stands then. -/
def TellsLs (l : List UInt8) (p B : Nat) (e : Ending) (j : Nat) (W : World) : Prop :=
  (∃ z, labsF 17 l p [] = .error (z, j) ∧ z ≠ 0 ∧ e = .returned (.tuple #[.slice none 0 0, .int .i64 z])) ∨
  (∃ L v, labsF 17 l p [] = .ok (L, j) ∧ j ≤ l.length ∧ e = .returned (.tuple #[v, .int .i64 0]) ∧ OwnL B v L W)
def sln : Value → Nat
  | .slice _ n _ => n
  | _ => 0
theorem cell_two_next (w : World) (o : Obj) (x y : Value) (t : TypeId) : ∀ j u, [x, y][j]? = some u → ((w.alloc o).alloc (.cells #[x, y] t)).cell? ((⟨w.heap.size + 1, 0, none⟩ : Addr).add j) = some u := by
  have := cell_two_new (w.alloc o) x y t
  rw [show (w.alloc o).heap.size = w.heap.size + 1 from by simp] at this
  exact this
theorem one_many (l : List UInt8) (p : Nat) (L : List Lb) (h : L.length = 16) : oneR l p L = .error (3, p) := by unfold oneR; rw [if_pos h]
set_option maxHeartbeats 8000000 in
set_option maxRecDepth 100000 in
theorem clabs_any (g p : Nat) (l : List UInt8) (hp : p ≤ l.length) (hl : l.length ≤ 140737488355328) (w : World) (hr : RdAt w g l p) :
    Calls Try.prog 54 #[.pointer (some ⟨g, 0, none⟩)] w fun r w' => ∃ j, TellsLs l p w.heap.size r j w' ∧ Ex g w w' ∧ RdAt w' g l j := by
  obtain ⟨i0, hi0, hz0, hz1, hz2⟩ := info_parts infoLabel
  obtain ⟨R, hR⟩ : ∃ R, R = labsF 17 l p [] := ⟨_, rfl⟩
  have HR0 : Hid (R = labsF (17 - 0) l p []) := hR
  have HRR : Hid (labsF 17 l p [] = R) := hR.symm
  have HL : Hid (∀ (j : Nat) (L : List Lb) (ao : Option Addr) (b cap : Nat) (W : World), j ≤ l.length → (L ≠ [] → ao = some ⟨b, 0, none⟩) → L.length ≤ 9223372036854775807 → RdAt W g l j → RowL W b 0 L → Calls Try.prog 69 #[.pointer (some ⟨g, 0, none⟩), .slice ao L.length cap] W fun r w' => ∃ k, TellsL l j L r k ∧ Ex g W w' ∧ RdAt w' g l k) := fun j L ao b cap W h1 h2 h3 h4 h5 => clab_any g j l h1 hl ao b 0 cap L h2 h3 W h4 h5
  have HT : Hid (∀ (c : UInt8) (j : Nat), j ≤ l.length → ∀ W, RdAt W g l j → Calls Try.prog 53 #[.pointer (some ⟨g, 0, none⟩), .string ⟨#[c]⟩] W fun r w' => r = .returned (.bool (preB (l.drop j) [c])) ∧ Ex g W w' ∧ RdAt w' g l (if preB (l.drop j) [c] then j + 1 else j)) := fun c j hj W h => take_any g j l [c] hj (by omega) W h
  have HI0 : Hid (LI w g l p [] (.slice none 0 0) w) := ⟨Ex.refl _ _, hr, ⟨rfl, Or.inl ⟨rfl, rfl⟩⟩, hr.lt⟩
  have HQ : Hid (∀ c j, preB (l.drop j) [c] = true → j + 1 ≤ l.length) := fun c j h => by rw [pre_one, decide_eq_true_eq] at h; omega
  clear hr hR
  go_enter Try.func54, Try.ntmps54
  go_wp2_with fail
  go_loopw [4] (fun v W => ∃ (j : Nat) (L : List Lb), j ≤ l.length ∧ L.length ≤ 16 ∧ sln v = L.length ∧ Hid (R = labsF (17 - L.length) l j L) ∧ Hid (LI w g l j L v W)) (fun v _ => 17 - sln v)
  case atStart => exact ⟨p, [], hp, by simp, rfl, HR0, HI0⟩
  case round =>
    clear HR0 HI0
    obtain ⟨j, L, hj, hL16, hsl, HR, HI⟩ := hrel
    obtain ⟨ao, b, cap, rfl, hao, hrow, hcp, hcm⟩ := HI.out.own.open
    have HL1 : HidC _ _ _ _ _ := HL.out j L ao b cap wr hj hao (by omega) HI.out.rd hrow
    clear HL hao hrow hsl
    as_aux_lemma =>
    go_wp2_with fail
    refine (HL1.out).mono ?_
    rintro e w1 ⟨k, hT, hx, hrd⟩
    have HI1 : Hid _ := HI.out.next hx hrd
    clear HL1 HI hx hrd
    rcases hT with ⟨z, x, y, ho, hz, rfl⟩ | ⟨a, c, ho, hk, rfl⟩
    · have HE : Hid (labsF 17 l p [] = .error (z, k)) := by
        show _ = _
        rw [HRR.out, HR.out, show 17 - L.length = (16 - L.length) + 1 from by omega, labsF, ho]
      have hz' : (z != 0) = true := by simpa using hz
      have HZ : Hid _ := hz
      have HI2 : Hid (∀ o, LI w g l k L (.slice ao L.length cap) (w1.alloc o)) := fun o => HI1.out.alloc o
      clear ho hz HRR HR HT HQ HI1
      as_aux_lemma =>
        go_wp2_with fail
        go_ret2
        exact ⟨k, Or.inl ⟨z, HE.out, HZ.out, rfl⟩, (HI2.out _).ex, (HI2.out _).rd⟩
    · have hlt : L.length < 16 := by
        rcases Nat.lt_or_ge L.length 16 with h | h
        · exact h
        · rw [one_many l j L (by omega)] at ho; cases ho
      have hR2 : R = if preB (l.drop k) [125] then .ok (L ++ [(a, c)], k + 1) else if preB (l.drop k) [44] then labsF (17 - (L.length + 1)) l (k + 1) (L ++ [(a, c)]) else .error (5, k) := by
        rw [HR.out, show 17 - L.length = (17 - (L.length + 1)) + 1 from by omega, labsF, ho]
      have HI2 : Hid (LI w g l k L (.slice ao L.length cap) (w1.alloc (.cells #[.string ⟨a.toArray⟩, .string ⟨c.toArray⟩] 41))) := HI1.out.alloc _
      have HT1 : Hid _ := HT.out 125 k hk
      have HT2 : Hid _ := HT.out 44 k hk
      have HQ1 := HQ.out 44 k
      have HQ2 := HQ.out 125 k
      have HRR2 : Hid (R = _) := hR2
      have hsz : w.heap.size ≤ w1.heap.size := HI1.out.ex.size
      clear ho HR HT HQ HI1 hR2
      go_wp2_with (first | (at_builtin; refine wpList_append_own _ rfl _ _ 22 rfl w.heap.size 41 i0 (.agg #[.string ⟨#[]⟩, .string ⟨#[]⟩]) 2 32 Try.underlying22 hi0 hz0 hz1 hz2 rfl (by decide) _ _ _ rfl (World.ownsRow.alloc HI2.out.own _) ⟨_, 0, none⟩ 1 1 [_, _] rfl rfl (cell_two_next _ _ _ _ _) (by intro u hu; simp at hu; rcases hu with rfl | rfl <;> rfl) (by unfold maxLen; omega) (by omega) (by simp; omega) ?_; intro v' w7 hown hgrow hnil; have HI7 : Hid (LI w g l k (L ++ [(a, c)]) v' w7) := HI2.out.push _ a c hown hgrow; clear hown hgrow hnil HI2))
      have HT3 : HidC _ _ _ _ _ := HT1.out w7 HI7.out.rd
      have HT4 : Hid _ := HT2.out
      obtain ⟨ao', b', cap', hv', _, _, _, _⟩ := HI7.out.own.open
      have hsl : sln v' = L.length + 1 := by rw [hv', List.length_append]; rfl
      clear HT1 HT2 hv'
      go_wp2_with fail
      refine (HT3.out).mono ?_
      rintro e w8 ⟨rfl, hx, hrd⟩
      have HI8 : Hid _ := HI7.out.next hx hrd
      clear HT3 HI7 hx hrd
      generalize preB (l.drop k) [125] = b1 at *
      cases b1
      · have HI9 : Hid (LI w g l k (L ++ [(a, c)]) v' w8) := HI8.out
        have HT5 : HidC _ _ _ _ _ := HT4.out w8 HI9.out.rd
        have hR2 := HRR2.out
        rw [if_neg (by decide)] at hR2
        clear HI8 HT4 HRR2
        go_wp2_with fail
        refine (HT5.out).mono ?_
        rintro e w9 ⟨rfl, hx, hrd⟩
        have HIa : Hid _ := HI9.out.next hx hrd
        clear HT5 HI9 hx hrd
        generalize preB (l.drop k) [44] = b2 at *
        cases b2
        · rw [if_neg (by decide)] at hR2
          have HE : Hid (labsF 17 l p [] = .error (5, k)) := HRR.out.trans hR2
          have HIb : Hid (LI w g l k (L ++ [(a, c)]) v' w9) := HIa.out
          clear hR2 HRR HIa
          as_aux_lemma =>
            go_wp2_with fail
            go_ret2
            exact ⟨k, Or.inl ⟨5, HE.out, by decide, rfl⟩, HIb.out.ex, HIb.out.rd⟩
        · rw [if_pos rfl] at hR2
          have HE : Hid (R = labsF (17 - (L ++ [(a, c)]).length) l (k + 1) (L ++ [(a, c)])) := by show _ = _; rw [hR2, List.length_append]; rfl
          have HIb : Hid (LI w g l (k + 1) (L ++ [(a, c)]) v' w9) := HIa.out
          have hk1 := HQ1 rfl
          clear hR2 HRR HIa HQ1 HQ2
          as_aux_lemma =>
            go_wp2_with fail
            exact ⟨⟨k + 1, L ++ [(a, c)], hk1, by simp; omega, by rw [hsl]; simp, HE, HIb⟩, by show 17 - sln v' < 17 - L.length; rw [hsl]; omega⟩
      · have hR2 := HRR2.out
        rw [if_pos rfl] at hR2
        have HE : Hid (labsF 17 l p [] = .ok (L ++ [(a, c)], k + 1)) := HRR.out.trans hR2
        have HI9 : Hid (LI w g l (k + 1) (L ++ [(a, c)]) v' w8) := HI8.out
        have hk1 := HQ2 rfl
        clear hR2 HRR2 HRR HI8 HT4 HQ1 HQ2
        as_aux_lemma =>
          go_wp2_with fail
          go_ret2
          exact ⟨k + 1, Or.inr ⟨L ++ [(a, c)], v', HE.out, hk1, rfl, HI9.out.own⟩, HI9.out.ex, HI9.out.rd⟩
end Go.Proofs.Ytmphajfhilpgeab
