/- THE RECORDER: a record, by what it leaves. Own work of the verifier. -/
import Derived.Test.YtpllckgpolhafaaGreatDoorUI
import Derived.Test.YtpllckgpolhafaaGreatDoorMem2
namespace Go.Proofs.YtpllckgpolhafaaGreatDoor
open Go.RowKit

/-- What a count of refused records becomes. -/
def bmp (er : Int) (a b : Nat) (r : Int) : Int := if er = 0 then r else if a = b then wrap64 (r + 1) else r
theorem refd_Sh {w : World} {k p a : Nat} {r0 r1 ra er : Int} (h : Sh w k p a r0 r1) (ha : a < 2) (hra : ra = if a = 0 then r0 else r1) : Sh (refd w k a ra er) k p a (bmp er a 0 r0) (bmp er a 1 r1) := by
  unfold refd bmp
  by_cases he : er = 0
  · rw [if_pos he, if_pos he, if_pos he]; exact h
  · rw [if_neg he, if_neg he, if_neg he]
    rcases (show a = 0 ∨ a = 1 by omega) with rfl | rfl
    · rw [if_pos rfl] at hra; subst hra
      rw [if_pos rfl, if_neg (by decide)]
      exact h.set3 _
    · rw [if_neg (by decide)] at hra; subst hra
      rw [if_neg (by decide), if_pos rfl]
      exact h.set4 _
theorem refd_chg (w : World) (k a : Nat) (ra er : Int) : Chg (fun x => x = k) w (refd w k a ra er) := by
  unfold refd
  split
  · exact Chg.refl _ _
  · exact Chg.set w ⟨k, 3 + a, none⟩ _
theorem Chg.Sh {S : Nat → Prop} {w w' : World} (h : Chg S w w') {k p a : Nat} {r0 r1 : Int} (hs : Go.Proofs.YtpllckgpolhafaaGreatDoor.Sh w k p a r0 r1) (hk : ¬ S k) : Go.Proofs.YtpllckgpolhafaaGreatDoor.Sh w' k p a r0 r1 := h.at_ hs hk
theorem Chg.Ph {S : Nat → Prop} {w w' : World} (h : Chg S w w') {p : Nat} {s l0 l1 : Int} (hs : Go.Proofs.YtpllckgpolhafaaGreatDoor.Ph w p s l0 l1) (hk : ¬ S p) : Go.Proofs.YtpllckgpolhafaaGreatDoor.Ph w' p s l0 l1 := h.at_ hs hk
theorem Chg.Rc {S : Nat → Prop} {w w' : World} (h : Chg S w w') {rc k : Nat} {st : Int} {cl : Bool} (hs : Go.Proofs.YtpllckgpolhafaaGreatDoor.Rc w rc k st cl) (hk : ¬ S rc) : Go.Proofs.YtpllckgpolhafaaGreatDoor.Rc w' rc k st cl := h.at_ hs hk
theorem Chg.Pq {S : Nat → Prop} {w w' : World} (h : Chg S w w') {p n : Nat} {neg : Bool} (hs : Go.Proofs.YtpllckgpolhafaaGreatDoor.Pq w p neg n) (hk : ¬ S p) : Go.Proofs.YtpllckgpolhafaaGreatDoor.Pq w' p neg n := by
  cases neg with
  | false => obtain ⟨o, q⟩ := hs; exact ⟨o, h.Ph q hk⟩
  | true => obtain ⟨o, q⟩ := hs; exact ⟨o, h.Ph q hk⟩
/-- A record, whatever is laid: J holds behind it, and gs may change. -/
theorem record_any (rc k p a : Nat) (r0 r1 st er : Int) (neg : Bool) (m : Nat) (cl may : Bool) (lay : Value) (J : World → Prop) (gs : Nat → Prop) (w : World) (ha : a < 2) (hm : m < 4611686018427387904) (hr0 : In64 r0) (hr1 : In64 r1)
    (hR : Rc w rc k st cl) (hS : Sh w k p a r0 r1) (hP : Pq w p neg m) (hgs : ∀ x, gs x → x ≠ k ∧ x ≠ p) (hJ : ∀ W W', J W → Chg (fun x => x = k ∨ x = p) W W' → J W')
    (HL : ∀ W, Chg (fun x => x = p) w W → Calls Tryz.prog 55 #[.pointer (some ⟨rc, 0, none⟩), .int .i64 (a : Int), .bool may, lay] W fun e w' => e = .returned (.int .i64 er) ∧ J w' ∧ Chg gs W w') :
    Calls Tryz.prog 31 #[.pointer (some ⟨rc, 0, none⟩), .pointer none, .bool may, lay] w fun e w' => e = .returned (.int .i64 er) ∧ Sh w' k p a (bmp er a 0 r0) (bmp er a 1 r1) ∧ Pq w' p neg (m + 1) ∧ J w' ∧ Chg (fun x => gs x ∨ x = k ∨ x = p) w w' := by
  obtain ⟨ra, hra⟩ : ∃ ra, ra = if a = 0 then r0 else r1 := ⟨_, rfl⟩
  have hr : In64 ra := by rw [hra]; split; exact hr0; exact hr1
  cases neg with
  | false =>
    obtain ⟨o, hPh⟩ := hP
    have hkp := sh_ne hS hPh
    have hc1 : Chg (fun x => x = p) w (w.setCell ⟨p, 0, none⟩ (.int .i64 ((m : Int) + 1))) := Chg.set _ ⟨p, 0, none⟩ _
    refine Calls.mono (record_pos rc k p a r0 r1 ra m m o st er cl may lay (fun w' => J w' ∧ Chg gs (w.setCell ⟨p, 0, none⟩ (.int .i64 ((m : Int) + 1))) w') w ha (by omega) (by omega) ⟨by omega, by omega⟩ hra hr hR hS hPh (fun _ => ?_)) ?_
    · refine Calls.mono (HL _ hc1) ?_
      rintro e w' ⟨rfl, j1, j2⟩
      exact ⟨rfl, j2.Sh (hc1.Sh hS (fun e => hkp e.symm)) (fun q => (hgs _ q).1 rfl), j2.Ph (hPh.set0 _) (fun q => (hgs _ q).2 rfl), j1, j2⟩
    · rintro e w' ⟨rfl, w2, h1, h2, ⟨h3, h4⟩, rfl⟩
      have hc3 : Chg (fun x => x = k ∨ x = p) w2 ((refd w2 k a ra er).setCell ⟨p, 1, none⟩ (.int .i64 (wrap64 ((m : Int) + 1)))) := (((refd_chg w2 k a ra er).mono (fun x e => Or.inl e)).trans (Chg.set _ ⟨p, 1, none⟩ _) (fun x e => Or.inl (Or.inr e)))
      refine ⟨rfl, (Chg.set (refd w2 k a ra er) ⟨p, 1, none⟩ _).Sh (refd_Sh h1 ha hra) (fun e => hkp e.symm), ?_, hJ _ _ h3 hc3, ?_⟩
      · refine ⟨o, ?_⟩
        have := (refd_Ph (a := a) (ra := ra) (er := er) h2 hkp).set1 (wrap64 ((m : Int) + 1))
        rw [show wrap64 ((m : Int) + 1) = (m : Int) + 1 by unfold wrap64; omega] at this ⊢
        push_cast
        exact this
      · exact ((hc1.mono (fun x e => Or.inr (Or.inr e))).trans h4 (fun x e => Or.inl (Or.inl e))).trans hc3 (fun x e => Or.inl (Or.inr e))
  | true =>
    obtain ⟨o, hPh⟩ := hP
    have hkp := sh_ne hS hPh
    generalize hs : -9223372036854775808 + (m : Int) = s at hPh
    have hc1 : Chg (fun x => x = p) w (w.setCell ⟨p, 0, none⟩ (.int .i64 (s + 1))) := Chg.set _ ⟨p, 0, none⟩ _
    refine Calls.mono (record_neg rc k p a r0 r1 ra s o s st er cl may lay (fun w' => J w' ∧ Chg gs (w.setCell ⟨p, 0, none⟩ (.int .i64 (s + 1))) w') w ha (by omega) (by omega) ⟨by omega, by omega⟩ hra hr hR hS hPh (fun _ => ?_)) ?_
    · refine Calls.mono (HL _ hc1) ?_
      rintro e w' ⟨rfl, j1, j2⟩
      exact ⟨rfl, j2.Sh (hc1.Sh hS (fun e => hkp e.symm)) (fun q => (hgs _ q).1 rfl), j2.Ph (hPh.set0 _) (fun q => (hgs _ q).2 rfl), j1, j2⟩
    · rintro e w' ⟨rfl, w2, h1, h2, ⟨h3, h4⟩, rfl⟩
      have hc3 : Chg (fun x => x = k ∨ x = p) w2 ((refd w2 k a ra er).setCell ⟨p, 2, none⟩ (.int .i64 (wrap64 (s + 1)))) := (((refd_chg w2 k a ra er).mono (fun x e => Or.inl e)).trans (Chg.set _ ⟨p, 2, none⟩ _) (fun x e => Or.inl (Or.inr e)))
      refine ⟨rfl, (Chg.set (refd w2 k a ra er) ⟨p, 2, none⟩ _).Sh (refd_Sh h1 ha hra) (fun e => hkp e.symm), ?_, hJ _ _ h3 hc3, ?_⟩
      · refine ⟨o, ?_⟩
        have := (refd_Ph (a := a) (ra := ra) (er := er) h2 hkp).set2 (wrap64 (s + 1))
        rw [show wrap64 (s + 1) = s + 1 by unfold wrap64; omega] at this ⊢
        rw [show -9223372036854775808 + ((m + 1 : Nat) : Int) = s + 1 by omega]
        exact this
      · exact ((hc1.mono (fun x e => Or.inr (Or.inr e))).trans h4 (fun x e => Or.inl (Or.inl e))).trans hc3 (fun x e => Or.inl (Or.inr e))
/-- Add, of a recorder that is open. -/
theorem radd_open (rc k p a s : Nat) (r0 r1 st n er : Int) (neg : Bool) (m : Nat) (J : World → Prop) (gs : Nat → Prop) (w : World) (ha : a < 2) (hm : m < 4611686018427387904) (hr0 : In64 r0) (hr1 : In64 r1)
    (hR : Rc w rc k st false) (hS : Sh w k p a r0 r1) (hP : Pq w p neg m) (hgs : ∀ x, gs x → x ≠ k ∧ x ≠ p ∧ x ≠ rc ∧ x < w.heap.size) (hJ : ∀ W W', J W → Chg (fun x => x = k ∨ x = p) W W' → J W')
    (HA : ∀ W, Chg (fun x => x = p) w W → Calls Tryz.prog 33 #[.pointer (some ⟨s, 0, none⟩), .pointer none, .int .i64 (a : Int), .int .i64 st, .int .i64 n] W fun e w' => e = .returned (.int .i64 er) ∧ J w' ∧ Chg gs W w') :
    Calls Tryz.prog 14 #[.pointer (some ⟨rc, 0, none⟩), .pointer none, .pointer (some ⟨s, 0, none⟩), .int .i64 n] w fun e w' => e = .returned (.int .i64 (answ er (decide (0 ≤ n)))) ∧ Hid (Sh w' k p a (bmp (answ er (decide (0 ≤ n))) a 0 r0) (bmp (answ er (decide (0 ≤ n))) a 1 r1) ∧ Pq w' p neg (m + 1) ∧ J w' ∧ Chg (fun x => gs x ∨ x = k ∨ x = p) w w') := by
  have hb := bxs_below w rc s (.int .i64 n) 2
  have hcB : Chg (fun x => x = p) w (bxs w rc s (.int .i64 n) 2) := Chg.of_below hb
  have hpl : p < w.heap.size := Pq.lt hP
  have hrl : rc < w.heap.size := (Array.getElem?_eq_some_iff.1 hR).1
  refine radd_any rc s n _ w (fun w' => Sh w' k p a (bmp (answ er (decide (0 ≤ n))) a 0 r0) (bmp (answ er (decide (0 ≤ n))) a 1 r1) ∧ Pq w' p neg (m + 1) ∧ J w' ∧ Chg (fun x => gs x ∨ x = k ∨ x = p) w w') (decide (0 ≤ n)) rfl (fun _ => ?_)
  obtain ⟨q0, q1, q2, q3⟩ := bxs_cells w rc s (.int .i64 n) 2
  refine Calls.mono (record_any rc k p a r0 r1 st (answ er (decide (0 ≤ n))) neg m false _ _ J gs (bxs w rc s (.int .i64 n) 2) ha hm hr0 hr1 (hcB.Rc hR (fun e => rc_ne_ph hR hP e)) (hcB.Sh hS (fun e => sh_ne_pq hS hP e.symm)) (Pq.below hP hb) (fun x hx => ⟨(hgs x hx).1, (hgs x hx).2.1⟩) hJ (fun W hW => ?_)) ?_
  · have hRW : Rc W rc k st false := hW.Rc (hcB.Rc hR (fun e => rc_ne_ph hR hP e)) (fun e => rc_ne_ph hR hP e)
    have hbx : ∀ (V : World), Chg (fun x => gs x ∨ x = p) (bxs w rc s (.int .i64 n) 2) V → Bx (w.heap.size + 2) (w.heap.size + 1) w.heap.size (w.heap.size + 3) s rc k st false (.int .i64 n) V := fun V hV => by
      have kc : ∀ (j : Nat) (u : Value), (bxs w rc s (.int .i64 n) 2).cell? ⟨w.heap.size + j, 0, none⟩ = some u → V.cell? ⟨w.heap.size + j, 0, none⟩ = some u := fun j u hu =>
        (World.cell?_of_block (hV.block (w.heap.size + j) (lt_of_cell hu) (fun e => by
          rcases e with e | e
          · have := (hgs _ e).2.2.2; omega
          · omega))).trans hu
      have hRV : Rc V rc k st false := hV.Rc (hcB.Rc hR (fun e => rc_ne_ph hR hP e)) (fun e => by
        rcases e with e | e
        · exact (hgs _ e).2.2.1 rfl
        · exact rc_ne_ph hR hP e)
      exact ⟨kc 2 _ q2, kc 1 _ q1, kc 0 _ q0, kc 3 _ q3, hRV.cells.1, hRV.cells.2.1, hRV.cells.2.2⟩
    refine Calls.mono (laid_add rc k _ _ _ _ st (a : Int) er _ W hRW (fun w' => J w' ∧ Chg gs W w') (fun _ => ?_)) (fun e w' h => ⟨h.1, h.2.out.1, h.2.out.2⟩)
    have hW2 : Chg (fun x => gs x ∨ x = p) (bxs w rc s (.int .i64 n) 2) W := hW.mono (fun x e => Or.inr e)
    refine add1_any _ _ _ _ s rc k (a : Int) st n er false W (fun w' => J w' ∧ Chg gs W w') (hbx W hW2) (fun w' hj => hbx w' (hW2.trans hj.2 (fun x e => Or.inl (Or.inl e)))) (fun _ => ?_)
    refine Calls.mono (HA W.drew (hcB.trans (hW.drew) (fun x e => Or.inl e))) ?_
    rintro e w' ⟨rfl, j1, j2⟩
    exact ⟨rfl, j1, j2.undrew⟩
  · rintro e w' ⟨rfl, h1, h2, h3, h4⟩
    exact ⟨rfl, h1, h2, h3, (Chg.of_below hb).trans h4 (fun x e => Or.inl e)⟩
end Go.Proofs.YtpllckgpolhafaaGreatDoor
