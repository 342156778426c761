/- DECIMALS IN MEMORY, AND trim. Own work of the verifier. -/
import Derived.Test.YtmejmohambhaaaaGreatDoorL1
import Derived.Test.YtmejmohambhaaaaGreatDoorDM1
import Derived.WalkMore
import Derived.Deep.DeepCutAuto
import Derived.IntWalk
import Derived.Deep.CutBlock
import Derived.Laws.ShiftsVarLaws
import Derived.Handy
import Derived.OwnWalk
namespace Go.Proofs.YtmejmohambhaaaaGreatDoor
open Go.RowKit

/-- A decimal in memory: its digits, how many, where the point is, the sign, whether digits were dropped. -/
structure DecAt (g : Nat) (D : Nat → Nat) (n : Nat) (dp : Int) (ng tr : Bool) (w : World) : Prop where
  dig : ∀ i, i < 800 → w.cell? ⟨g, i, none⟩ = some (.int .u8 (D i : Int))
  nd : w.cell? ⟨g, 800, none⟩ = some (.int .i64 (n : Int))
  dp : w.cell? ⟨g, 801, none⟩ = some (.int .i64 dp)
  neg : w.cell? ⟨g, 802, none⟩ = some (.bool ng)
  tr : w.cell? ⟨g, 803, none⟩ = some (.bool tr)
  fr : ∀ o, w.frozen? ⟨g, o, none⟩ = false
def upd (D : Nat → Nat) (i v : Nat) : Nat → Nat := fun j => if j = i then v else D j
theorem upd_same (D : Nat → Nat) (i v : Nat) : upd D i v i = v := by simp [upd]
theorem upd_other (D : Nat → Nat) (i v : Nat) {j : Nat} (h : j ≠ i) : upd D i v j = D j := by simp [upd, h]
theorem off_ne {g a b : Nat} (h : a ≠ b) : (⟨g, a, none⟩ : Addr) ≠ ⟨g, b, none⟩ := fun c => h (by injection c)
theorem DecAt.setDig {g n : Nat} {D : Nat → Nat} {dp : Int} {ng tr : Bool} {w : World} (h : DecAt g D n dp ng tr w) (i v : Nat) (hi : i < 800) : DecAt g (upd D i v) n dp ng tr (w.setCell ⟨g, i, none⟩ (.int .u8 (v : Int))) := by
  refine ⟨fun j hj => ?_, ?_, ?_, ?_, ?_, fun o => by rw [World.frozen?_setCell]; exact h.fr o⟩
  · by_cases e : j = i
    · subst e; rw [World.cell?_setCell_same w _ _ (h.dig j hj), upd_same]
    · rw [World.cell?_setCell_other w _ _ _ (off_ne (fun c => e c.symm)), upd_other D i v e]; exact h.dig j hj
  · rw [World.cell?_setCell_other w _ _ _ (off_ne (by omega))]; exact h.nd
  · rw [World.cell?_setCell_other w _ _ _ (off_ne (by omega))]; exact h.dp
  · rw [World.cell?_setCell_other w _ _ _ (off_ne (by omega))]; exact h.neg
  · rw [World.cell?_setCell_other w _ _ _ (off_ne (by omega))]; exact h.tr
theorem DecAt.setNd {g n : Nat} {D : Nat → Nat} {dp : Int} {ng tr : Bool} {w : World} (h : DecAt g D n dp ng tr w) (m : Nat) : DecAt g D m dp ng tr (w.setCell ⟨g, 800, none⟩ (.int .i64 (m : Int))) := by
  refine ⟨fun j hj => ?_, ?_, ?_, ?_, ?_, fun o => by rw [World.frozen?_setCell]; exact h.fr o⟩
  · rw [World.cell?_setCell_other w _ _ _ (off_ne (by omega))]; exact h.dig j hj
  · rw [World.cell?_setCell_same w _ _ h.nd]
  · rw [World.cell?_setCell_other w _ _ _ (off_ne (by omega))]; exact h.dp
  · rw [World.cell?_setCell_other w _ _ _ (off_ne (by omega))]; exact h.neg
  · rw [World.cell?_setCell_other w _ _ _ (off_ne (by omega))]; exact h.tr
theorem DecAt.setDp {g n : Nat} {D : Nat → Nat} {dp : Int} {ng tr : Bool} {w : World} (h : DecAt g D n dp ng tr w) (m : Int) : DecAt g D n m ng tr (w.setCell ⟨g, 801, none⟩ (.int .i64 m)) := by
  refine ⟨fun j hj => ?_, ?_, ?_, ?_, ?_, fun o => by rw [World.frozen?_setCell]; exact h.fr o⟩
  · rw [World.cell?_setCell_other w _ _ _ (off_ne (by omega))]; exact h.dig j hj
  · rw [World.cell?_setCell_other w _ _ _ (off_ne (by omega))]; exact h.nd
  · rw [World.cell?_setCell_same w _ _ h.dp]
  · rw [World.cell?_setCell_other w _ _ _ (off_ne (by omega))]; exact h.neg
  · rw [World.cell?_setCell_other w _ _ _ (off_ne (by omega))]; exact h.tr
theorem DecAt.setNeg {g n : Nat} {D : Nat → Nat} {dp : Int} {ng tr : Bool} {w : World} (h : DecAt g D n dp ng tr w) (m : Bool) : DecAt g D n dp m tr (w.setCell ⟨g, 802, none⟩ (.bool m)) := by
  refine ⟨fun j hj => ?_, ?_, ?_, ?_, ?_, fun o => by rw [World.frozen?_setCell]; exact h.fr o⟩
  · rw [World.cell?_setCell_other w _ _ _ (off_ne (by omega))]; exact h.dig j hj
  · rw [World.cell?_setCell_other w _ _ _ (off_ne (by omega))]; exact h.nd
  · rw [World.cell?_setCell_other w _ _ _ (off_ne (by omega))]; exact h.dp
  · rw [World.cell?_setCell_same w _ _ h.neg]
  · rw [World.cell?_setCell_other w _ _ _ (off_ne (by omega))]; exact h.tr
theorem DecAt.setTr {g n : Nat} {D : Nat → Nat} {dp : Int} {ng tr : Bool} {w : World} (h : DecAt g D n dp ng tr w) (m : Bool) : DecAt g D n dp ng m (w.setCell ⟨g, 803, none⟩ (.bool m)) := by
  refine ⟨fun j hj => ?_, ?_, ?_, ?_, ?_, fun o => by rw [World.frozen?_setCell]; exact h.fr o⟩
  · rw [World.cell?_setCell_other w _ _ _ (off_ne (by omega))]; exact h.dig j hj
  · rw [World.cell?_setCell_other w _ _ _ (off_ne (by omega))]; exact h.nd
  · rw [World.cell?_setCell_other w _ _ _ (off_ne (by omega))]; exact h.dp
  · rw [World.cell?_setCell_other w _ _ _ (off_ne (by omega))]; exact h.neg
  · rw [World.cell?_setCell_same w _ _ h.tr]
theorem DecAt.drew {g n : Nat} {D : Nat → Nat} {dp : Int} {ng tr : Bool} {w : World} (h : DecAt g D n dp ng tr w) : DecAt g D n dp ng tr w.drew := ⟨h.dig, h.nd, h.dp, h.neg, h.tr, h.fr⟩
theorem DecAt.same {g n : Nat} {D E : Nat → Nat} {dp : Int} {ng tr : Bool} {w : World} (h : DecAt g D n dp ng tr w) (e : ∀ i, i < 800 → D i = E i) : DecAt g E n dp ng tr w := ⟨fun i hi => by rw [← e i hi]; exact h.dig i hi, h.nd, h.dp, h.neg, h.tr, h.fr⟩

theorem DecAt.drewN {g n : Nat} {D : Nat → Nat} {dp : Int} {ng tr : Bool} {w : World} (h : DecAt g D n dp ng tr w) (q : Nat) : DecAt g D n dp ng tr (w.drewN q) := by
  induction q with
  | zero => exact h
  | succ q ih => exact ih.drew
/-- How many digits stand there. -/
def ndOf (g : Nat) (w : World) : Nat := match w.cell? ⟨g, 800, none⟩ with | some (.int _ k) => k.toNat | _ => 0
theorem DecAt.ndOf {g n : Nat} {D : Nat → Nat} {dp : Int} {ng tr : Bool} {w : World} (h : DecAt g D n dp ng tr w) : ndOf g w = n := by
  unfold Go.Proofs.YtmejmohambhaaaaGreatDoor.ndOf; rw [h.nd]; exact Int.toNat_natCast n
/-- What trim leaves: the same digits, fewer of them, where the last were noughts. -/
def Trimmed (g : Nat) (D : Nat → Nat) (n : Nat) (dp : Int) (ng tr : Bool) (w w' : World) : Prop :=
  ∃ m dp', DecAt g D m dp' ng tr w' ∧ m ≤ n ∧ (1 ≤ n → D 0 ≠ 48 → 1 ≤ m ∧ dp' = dp) ∧ Below g w w'
set_option maxHeartbeats 2000000 in
set_option maxRecDepth 100000 in
theorem trim_any (g : Nat) (D : Nat → Nat) (n : Nat) (dp : Int) (ng tr : Bool) (hn : n ≤ 800) (w : World) (h : DecAt g D n dp ng tr w) :
    Calls Tryz.prog 103 #[.pointer (some ⟨g, 0, none⟩)] w fun e w' => e = .returned (.tuple #[]) ∧ Trimmed g D n dp ng tr w w' := by
  go_enter Tryz.func103, Tryz.ntmps103
  go_wp2_with fail
  go_loopw [] (fun wr => ∃ m : Nat, m ≤ n ∧ Hid (DecAt g D m dp ng tr wr) ∧ Hid (1 ≤ n → D 0 ≠ 48 → 1 ≤ m) ∧ Below g w wr) (fun wr => ndOf g wr)
  case atStart => exact ⟨n, by omega, h, fun h _ => h, Below.refl _ _⟩
  case round =>
    obtain ⟨m, hm, hI, hz, hb⟩ := hrel
    have c1 := hI.out.nd
    have f1 := hI.out.fr 800
    have f2 := hI.out.fr 801
    have c2 := hI.out.dp
    cases m with
    | zero =>
      as_aux_lemma =>
        go_wp2_with fail
        go_quiet (fail)
        go_wp2_with fail
        refine bodyPost_end (results_none rfl _ _ _) rfl ?_
        exact ⟨rfl, 0, 0, (hI.out.drewN nq).setDp 0, by omega, (fun h1 h2 => absurd (hz.out h1 h2) (by omega)), (Below.drewN' hb nq).setCell (Nat.le_refl _) _⟩
    | succ k =>
      have c3 := hI.out.dig k (by omega)
      by_cases hk : D k = 48
      · have t48 : ((D k : Int) == 48) = true := by rw [beq_iff_eq]; omega
        as_aux_lemma =>
          go_wp2_with fail
          go_quiet (fail)
          go_wp2_with fail
          have hN := (hI.out.drewN nq).setNd k
          refine ⟨⟨k, by omega, hN, fun h1 h2 => ?_, (Below.drewN' hb nq).setCell (Nat.le_refl _) _⟩, ?_⟩
          · rcases Nat.eq_zero_or_pos k with rfl | h
            · exact absurd hk h2
            · exact h
          · rw [hN.ndOf, hI.out.ndOf]; omega
      · have t48 : ((D k : Int) == 48) = false := by rw [beq_eq_false_iff_ne]; omega
        as_aux_lemma =>
          go_wp2_with fail
          go_quiet (fail)
          go_wp2_with fail
          refine bodyPost_end (results_none rfl _ _ _) rfl ?_
          exact ⟨rfl, k + 1, dp, hI.out.drewN nq, hm, (fun _ _ => ⟨by omega, rfl⟩), Below.drewN' hb nq⟩
end Go.Proofs.YtmejmohambhaaaaGreatDoor
