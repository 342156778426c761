/- RecorderTurns: the first state; awake. Own work of the verifier. -/
import Derived.Test.YtfnohbalkpponaaGreatDoorZAZ
import Derived.Test.YtfnohbalkpponaaGreatDoorZBN
import Derived.Test.YtfnohbalkpponaaGreatDoorZBO
import Derived.Test.YtfnohbalkpponaaGreatDoorOGc
import Derived.Test.YtfnohbalkpponaaGreatDoorOGs
namespace Go.Proofs.YtfnohbalkpponaaGreatDoor
open Go.RowKit

end Go.Proofs.YtfnohbalkpponaaGreatDoor
/- THE CODE's SLABS, of any kind. Own work of the verifier. -/
namespace Go.Proofs.YtfnohbalkpponaaGreatDoor
open Go.RowKit

/-- A slab: its kind, its blocks. -/
structure SlK where
  kd : Int
  s : Nat
  c : Nat
  h : Nat → Nat
  G : Nat → List Nat
/-- A block of a slab. -/
def SlK.Blk (X : SlK) (x : Nat) : Prop := x = X.s ∨ x = X.c ∨ x = X.h 0 ∨ x = X.h 1 ∨ x ∈ X.G 0 ++ X.G 1
def tyK (kd : Int) : TypeId := if kd = 1 then 293 else if kd = 2 then 299 else 302
/-- A slab in memory, with any contents. -/
structure SlW (X : SlK) (p n : Nat) (C : Nat → Nat → List Int) (w : World) : Prop where
  kd : X.kd = 1 ∨ X.kd = 2 ∨ X.kd = 3
  g : SlG (tyK X.kd) X.s X.c X.h X.G C (wdF X.kd p) n w
  pc : X.kd = 2 → w.cell? ⟨X.c, 2, none⟩ = some (.int .i64 (p : Int))
theorem SlW.chg {X : SlK} {p n : Nat} {C : Nat → Nat → List Int} {w w' : World} {S : Nat → Prop} (H : SlW X p n C w) (hc : Chg S w w') (hS : ∀ x, X.Blk x → ¬ S x) : SlW X p n C w' :=
  ⟨H.kd, H.g.chg (fun x hx k => hc.block x hx (hS x k)), fun k => hc.cell (H.pc k) (hS _ (Or.inr (Or.inl rfl)))⟩
theorem SlW.below {X : SlK} {p n : Nat} {C : Nat → Nat → List Int} {w w' : World} (H : SlW X p n C w) (hb : Below w.heap.size w w') : SlW X p n C w' := H.chg (S := fun _ => False) (Chg.of_below hb) (fun _ _ k => k)
theorem SlW.drew {X : SlK} {p n : Nat} {C : Nat → Nat → List Int} {w : World} (H : SlW X p n C w) : SlW X p n C w.drew := H.chg (S := fun _ => False) (Chg.refl _ _).drew (fun _ _ k => k)
theorem SlW.lt {X : SlK} {p n : Nat} {C : Nat → Nat → List Int} {w : World} (H : SlW X p n C w) (hn : 0 < n) {x : Nat} (hx : X.Blk x) : x < w.heap.size := by
  rcases hx with rfl | rfl | rfl | rfl | h
  · exact lt_of_cell H.g.slab
  · obtain ⟨cap, h⟩ := H.g.held 0 (by decide)
    exact lt_of_cell h
  · exact lt_of_cell (H.g.rows 0 (by decide) 0 (by rw [H.g.len 0 (by decide)]; exact hn))
  · exact lt_of_cell (H.g.rows 1 (by decide) 0 (by rw [H.g.len 1 (by decide)]; exact hn))
  · exact H.g.lt h
/-- What New tells, where it makes a slab. -/
theorem newK (kd : Int) (hk : kd = 1 ∨ kd = 2 ∨ kd = 3) (n p : Nat) (h1 : 1 ≤ n) (h2 : n ≤ 16) (h3 : 1 ≤ p) (h4 : p ≤ 14) (hc : celF kd (n : Int) (p : Int) ≤ 1048576) (w : World) :
    Calls Tryz.prog 76 #[.int .i64 kd, .int .i64 (n : Int), .int .i64 (p : Int)] w fun e w' => ∃ X : SlK, e = .returned (.tuple #[.pointer (some ⟨X.s, 0, none⟩), .int .i64 0]) ∧ Hid (X.kd = kd ∧ SlW X p n (fun _ _ => frst kd (p : Int)) w' ∧ Below w.heap.size w w' ∧ ∀ g ∈ X.G 0 ++ X.G 1, w.heap.size ≤ g) := by
  rcases hk with rfl | rfl | rfl
  · refine Calls.mono (new_counter n (p : Int) h1 h2 (by omega) (by omega) hc w) ?_
    rintro e w' ⟨sb, c, h, G, rfl, hA, hb, hg⟩
    exact ⟨⟨1, sb, c, h, G⟩, rfl, rfl, ⟨Or.inl rfl, hA.gen, fun k => absurd (show (1 : Int) = 2 from k) (by decide)⟩, hb, hg⟩
  · refine Calls.mono (new_histogram_p n (p : Int) h1 h2 (by omega) (by omega) _ rfl hc w) ?_
    rintro e w' ⟨sb, c, h, G, rfl, hA, hp, hb, hg⟩
    refine ⟨⟨2, sb, c, h, G⟩, rfl, rfl, ⟨Or.inr (Or.inl rfl), ?_, fun _ => hp⟩, hb, hg⟩
    have := hA.gen
    rw [List.length_replicate] at this
    exact this
  · refine Calls.mono (new_summary n (p : Int) h1 h2 (by omega) (by omega) hc w) ?_
    rintro e w' ⟨sb, c, h, G, rfl, hA, hb, hg⟩
    refine ⟨⟨3, sb, c, h, G⟩, rfl, rfl, ⟨Or.inr (Or.inr rfl), ?_, fun k => absurd (show (3 : Int) = 2 from k) (by decide)⟩, hb, hg⟩
    have := hA.gen
    rw [← sNil_eq] at this
    exact this
/-- What Drain tells and leaves, of any kind. -/
theorem drainK {X : SlK} {p n t : Nat} {C : Nat → Nat → List Int} {w : World} (H : SlW X p n C w) (hn : n ≤ 16) (h1 : 1 ≤ p) (h2 : p ≤ 14) (ht : t < 70368744177664) (b : Nat) (hb : b < 2) (hr : ∀ i, i < n → RowOk X.kd p t (C b i)) :
    Calls Tryz.prog 86 #[.pointer (some ⟨X.s, 0, none⟩), .pointer none, .int .i64 (b : Int)] w fun e w' => ∃ (P : Pt) (ao : Option Addr) (k cap : Nat), e = .returned (.tuple #[.agg #[.int .i64 P.hi, .int .u64 P.lo, .slice ao k cap, .int .u64 (P.n : Int), .complex .f64 P.s P.c, .float .f64 P.mn, .float .f64 P.mx], .int .i64 0]) ∧ Hid (FoldR (fun i => ptF X.kd (C b i)) n P ∧ P.Ok 1048576 ∧ w'.ownsRow w.heap.size 160 2 (.slice ao k cap) P.L.length (fl P.L) ∧ SlW X p n (upB C b (fun _ => frst X.kd (p : Int))) w' ∧ Chg (fun x => x ∈ X.G 0 ++ X.G 1) w w') := by
  obtain ⟨kd, s, c, h, G⟩ := X
  have hlen := H.g.len b hb
  have hB := H.g.buf b hb (fun _ => 0) (fun _ => 0) (frst kd (p : Int))
  have hl : (rwG (G b) (C b) (fun _ => 0) (fun _ => 0) (frst kd (p : Int))).length = n := by rw [rwG_len]; exact hlen
  have fin : ∀ e w', DrPQ 1048576 (rwG (G b) (C b) (fun _ => 0) (fun _ => 0) (frst kd (p : Int))) (fun i => ptF kd (C b i)) w e w' → ∃ (P : Pt) (ao : Option Addr) (k cap : Nat), e = .returned (.tuple #[.agg #[.int .i64 P.hi, .int .u64 P.lo, .slice ao k cap, .int .u64 (P.n : Int), .complex .f64 P.s P.c, .float .f64 P.mn, .float .f64 P.mx], .int .i64 0]) ∧ Hid (FoldR (fun i => ptF kd (C b i)) n P ∧ P.Ok 1048576 ∧ w'.ownsRow w.heap.size 160 2 (.slice ao k cap) P.L.length (fl P.L) ∧ SlW ⟨kd, s, c, h, G⟩ p n (upB C b (fun _ => frst kd (p : Int))) w' ∧ Chg (fun x => x ∈ G 0 ++ G 1) w w') := fun e w' q => by
    obtain ⟨P, ao, k, cap, rfl, hF, hP, ho, hW⟩ := q
    rw [hl] at hF hW
    have hoff : Off (G b) w w' := by have := hW.off; rw [rwG_g] at this; exact this
    have hchg : Chg (fun x => x ∈ G 0 ++ G 1) w w' := off_chg hoff (fun x hx => mem_of hb hx)
    refine ⟨P, ao, k, cap, rfl, hF, hP, ho, ⟨H.kd, H.g.rowsNow b hb _ (fun i _ => (RowOk.first (p := p) H.kd 0).len) hoff (fun i hi => ?_), fun k2 => hchg.cell (H.pc k2) H.g.c_ne⟩, hchg⟩
    have hi2 : i < (rwG (G b) (C b) (fun _ => 0) (fun _ => 0) (frst kd (p : Int))).length := by rw [rwG_len]; exact hi
    have := hW.done i hi2 (by rw [hlen] at hi; exact hi)
    rw [rwG_get _ _ _ _ _ i hi2] at this
    exact this
  have hD : ∀ fd, (∀ i, i < n → DrainsP fd (.pointer (some ⟨c, 0, none⟩)) (C b i) (ptF kd (C b i)) (frst kd (p : Int))) → ∀ i (hi : i < (rwG (G b) (C b) (fun _ => 0) (fun _ => 0) (frst kd (p : Int))).length), DrainsP fd (.pointer (some ⟨c, 0, none⟩)) (rwG (G b) (C b) (fun _ => 0) (fun _ => 0) (frst kd (p : Int)))[i].xs (ptF kd (C b i)) (rwG (G b) (C b) (fun _ => 0) (fun _ => 0) (frst kd (p : Int)))[i].ys ∧ (ptF kd (C b i)).Ok 1048576 := fun fd q i hi => by
    have hi3 : i < n := by rw [hl] at hi; exact hi
    rw [rwG_get _ _ _ _ _ i hi]
    exact ⟨q i hi3, ((hr i hi3).ok h1 h2 ht).1⟩
  have hbnd : (rwG (G b) (C b) (fun _ => 0) (fun _ => 0) (frst kd (p : Int))).length < 1000 := by rw [hl]; omega
  rcases H.kd with e | e | e
  · have e : kd = 1 := e
    subst e
    refine Calls.mono (drainP_counter 1048576 (by decide) s c b (h b) hb _ (fun i => ptF 1 (C b i)) w hB (hD _ (fun i hi W g hW => ?_)) hbnd) fin
    obtain ⟨hl1, hws⟩ := (hr i hi).is1
    obtain ⟨lo, hi', cs, e2⟩ := two_list (row := C b i) (by omega)
    rw [e2] at hl1 hW hws ⊢
    have : cs = [] := by simpa using hl1
    subst this
    refine Calls.mono (cdrain_any (.pointer (some ⟨c, 0, none⟩)) g 2 lo hi' [] W hW) ?_
    rintro e w' ⟨rfl, hR, hM⟩
    exact ⟨none, 0, 0, rfl, GC.sn (B := w'.heap.size) (W0 := w') ⟨World.ownsRow_nil _ _ _ _, Below.refl _ _, Nat.le_refl _⟩, hR, hM⟩
  · have e : kd = 2 := e
    subst e
    refine Calls.mono (drainP_histogram 1048576 (by decide) s c b (h b) hb _ (fun i => ptF 2 (C b i)) w hB (hD _ (fun i hi W g hW => ?_)) hbnd) fin
    obtain ⟨hl1, hws⟩ := (hr i hi).is2
    obtain ⟨lo, hi', cs, e2⟩ := two_list (row := C b i) (by omega)
    have hL := Lg_le14 h1 h2
    rw [e2] at hl1 hW hws ⊢
    simp at hl1
    refine Calls.mono (hdrain_any (.pointer (some ⟨c, 0, none⟩)) g lo hi' cs (by omega) (fun x hx => hws x (by simp [hx])) W hW) ?_
    rintro e w' ⟨ao, m, cap, rfl, hO, hR, hM⟩
    refine ⟨ao, m, cap, rfl, own_sn hO.out hM.out.size, ?_, hM⟩
    have hR' := hR.out
    rw [hl1] at hR'
    exact hR'
  · have e : kd = 3 := e
    subst e
    refine Calls.mono (drainP_summary 1048576 (by decide) s c b (h b) hb _ (fun i => ptF 3 (C b i)) w hB (hD _ (fun i hi W g hW => ?_)) hbnd) fin
    obtain ⟨k, s', c', mn, mx, hk, e2, hS⟩ := (hr i hi).is3
    rw [e2] at hW ⊢
    unfold ptF
    rw [if_pos rfl, ptS_row hS.hs hS.hc hS.hmn hS.hmx]
    have hu : uw (k : Int) = (k : Int) := by rw [uw_eq]; omega
    refine Calls.mono (sdrain_any (.pointer (some ⟨c, 0, none⟩)) g (k : Int) s' c' mn mx hS.hs hS.hc hS.hmn hS.hmx W hW _ rfl) ?_
    rintro e w' ⟨rfl, hR, hM⟩
    rw [hu]
    by_cases h0 : (k : Int) = 0
    · rw [if_pos h0, decide_eq_true h0]
      exact ⟨none, 0, 0, rfl, GC.sn (B := w'.heap.size) (W0 := w') ⟨World.ownsRow_nil _ _ _ _, Below.refl _ _, Nat.le_refl _⟩, hR, hM⟩
    · rw [if_neg h0, decide_eq_false h0]
      exact ⟨none, 0, 0, by simp, GC.sn (B := w'.heap.size) (W0 := w') ⟨World.ownsRow_nil _ _ _ _, Below.refl _ _, Nat.le_refl _⟩, hR, hM⟩
end Go.Proofs.YtfnohbalkpponaaGreatDoor
/- THE CODE's RECORDS over a slab of any kind. Own work of the verifier. -/
namespace Go.Proofs.YtfnohbalkpponaaGreatDoor
open Go.RowKit

/-- What a record answers, in all. -/
def ansF (why st : Int) (n : Nat) : Int := if why = 0 then (if 0 ≤ st ∧ st < (n : Int) then 0 else 1) else why
/-- What a slab holds behind a record. -/
noncomputable def nxC (kind : Int) (p : Nat) (C : Nat → Nat → List Int) (a : Nat) (st n : Int) (f : Nat) (er : Int) : Nat → Nat → List Int := if er = 0 then upC C a st.toNat (layD kind p (C a st.toNat) n f) else C
theorem nxC_no {kind : Int} {p : Nat} {C : Nat → Nat → List Int} {a : Nat} {st n : Int} {f : Nat} {er : Int} (h : ¬ er = 0) : nxC kind p C a st n f er = C := if_neg h
theorem nxC_ok {kind : Int} {p : Nat} {C : Nat → Nat → List Int} {a : Nat} {i : Nat} {n : Int} {f : Nat} : nxC kind p C a (i : Int) n f 0 = upC C a i (layD kind p (C a i) n f) := by
  unfold nxC
  rw [if_pos rfl, Int.toNat_natCast]
section
variable {X : SlK} {p n t : Nat} {C : Nat → Nat → List Int} {w : World} {rc k ph a m f : Nat} {r0 r1 st x : Int} {neg cl : Bool}
/-- What a record finds. -/
structure RcK (X : SlK) (p n t : Nat) (C : Nat → Nat → List Int) (rc k ph a m : Nat) (r0 r1 st : Int) (neg cl : Bool) (w : World) : Prop where
  sl : SlW X p n C w
  n0 : 0 < n
  n16 : n ≤ 16
  p1 : 1 ≤ p
  p2 : p ≤ 14
  a2 : a < 2
  mm : m < 4611686018427387904
  i0 : In64 r0
  i1 : In64 r1
  rcd : Rc w rc k st cl
  sh : Sh w k ph a r0 r1
  pq : Pq w ph neg m
  ap : ∀ x, X.Blk x → x ≠ k ∧ x ≠ ph
  rows : ∀ b, b < 2 → ∀ i, i < n → RowOk X.kd p t (C b i)
  tt : t < 70368744177664
/-- What a record leaves. -/
def RcQ (X : SlK) (p n : Nat) (C' : Nat → Nat → List Int) (k ph a m : Nat) (r0 r1 : Int) (neg : Bool) (er : Int) (w w' : World) : Prop :=
  Sh w' k ph a (bmp er a 0 r0) (bmp er a 1 r1) ∧ Pq w' ph neg (m + 1) ∧ SlW X p n C' w' ∧ Chg (fun x => x ∈ X.G 0 ++ X.G 1 ∨ x = k ∨ x = ph) w w'
theorem RcK.gs (H : RcK X p n t C rc k ph a m r0 r1 st neg cl w) : ∀ x, x ∈ X.G 0 ++ X.G 1 → x ≠ k ∧ x ≠ ph ∧ x ≠ rc ∧ x < w.heap.size := fun x hx => by
  have h1 := H.ap x (Or.inr (Or.inr (Or.inr (Or.inr hx))))
  exact ⟨h1.1, h1.2, fun e => H.sl.g.not_row (k := rc) H.rcd (by decide) (by rw [← e]; exact hx), H.sl.g.lt hx⟩
theorem RcK.stay {C' : Nat → Nat → List Int} (ap : ∀ x, X.Blk x → x ≠ k ∧ x ≠ ph) {W W' : World} (h : SlW X p n C' W) (hc : Chg (fun x => x = k ∨ x = ph) W W') : SlW X p n C' W' := h.chg hc (fun x hx q => by
  have := ap x hx
  rcases q with q | q
  · exact this.1 q
  · exact this.2 q)
theorem RcK.at_ (H : RcK X p n t C rc k ph a m r0 r1 st neg cl w) {W : World} (hc : Chg (fun x => x = ph) w W) : SlW X p n C W := H.sl.chg hc (fun x hx q => (H.ap x hx).2 q)
theorem RcK.closed (H : RcK X p n t C rc k ph a m r0 r1 st neg true w) {W : World} (h : Sh W k ph a (bmp 8 a 0 r0) (bmp 8 a 1 r1) ∧ Pq W ph neg (m + 1) ∧ Chg (fun x => x = k ∨ x = ph) w W) : RcQ X p n C k ph a m r0 r1 neg 8 w W := ⟨h.1, h.2.1, RcK.stay H.ap H.sl h.2.2, h.2.2.mono (fun _x hx => Or.inr hx)⟩
theorem in_range {st : Int} {n : Nat} (h : 0 ≤ st ∧ st < (n : Int)) : ∃ i : Nat, st = (i : Int) ∧ i < n := ⟨st.toNat, by omega, by omega⟩
theorem why_closed (kind kd x : Int) (f : Nat) : whyF kind kd x f true = 8 := rfl
/-- Add. -/
theorem recK_add (H : RcK X p n t C rc k ph a m r0 r1 st neg cl w) (hx : In64 x) (er : Int) (her : er = ansF (whyF 4 X.kd x f cl) st n) :
    Calls Tryz.prog 47 #[.pointer (some ⟨rc, 0, none⟩), .pointer none, .pointer (some ⟨X.s, 0, none⟩), .int .i64 x] w fun e w' => e = .returned (.int .i64 er) ∧ Hid (RcQ X p n (nxC 4 p C a st x f er) k ph a m r0 r1 neg er w w') := by
  cases cl
  · have main : ∀ (e0 : Int) (C' : Nat → Nat → List Int), answ e0 (decide (0 ≤ x)) = er → C' = nxC 4 p C a st x f er →
      (∀ W, SlW X p n C W → Calls Tryz.prog 91 #[.pointer (some ⟨X.s, 0, none⟩), .pointer none, .int .i64 (a : Int), .int .i64 st, .int .i64 x] W fun e w' => e = .returned (.int .i64 e0) ∧ SlW X p n C' w' ∧ Chg (fun y => y ∈ X.G 0 ++ X.G 1) W w') →
      Calls Tryz.prog 47 #[.pointer (some ⟨rc, 0, none⟩), .pointer none, .pointer (some ⟨X.s, 0, none⟩), .int .i64 x] w fun e w' => e = .returned (.int .i64 er) ∧ Hid (RcQ X p n (nxC 4 p C a st x f er) k ph a m r0 r1 neg er w w') := fun e0 C' he hC HA => by
      refine Calls.mono (radd_open rc k ph a X.s r0 r1 st x e0 neg m (fun W => SlW X p n C' W) (fun y => y ∈ X.G 0 ++ X.G 1) w H.a2 H.mm H.i0 H.i1 H.rcd H.sh H.pq H.gs (fun W W' hJ hc => RcK.stay H.ap hJ hc) (fun W hW => HA W (H.at_ hW))) ?_
      rintro e w' ⟨rfl, q⟩
      rw [he] at q ⊢
      rw [← hC]
      exact ⟨rfl, q⟩
    by_cases hk : X.kd = 1
    · have hw : whyF 4 X.kd x f false = if x < 0 then 2 else 0 := by
        unfold whyF
        rw [if_neg (by decide), if_pos (show X.kd = kdOf 4 from hk), if_neg (by decide)]
      rw [hw] at her
      have hT : ∀ W, SlW X p n C W → SlG 293 X.s X.c X.h X.G C 2 n W := fun W h => by
        have := h.g
        rw [hk] at this
        exact this
      by_cases hr : 0 ≤ st ∧ st < (n : Int)
      · obtain ⟨i, rfl, hi⟩ := in_range hr
        by_cases hn : x < 0
        · rw [if_pos hn] at her
          have e2 : er = 2 := her
          subst e2
          exact main 2 C rfl (nxC_no (by decide)).symm (fun W hW => Calls.mono (sadd_range X.s X.c X.h X.G C n W (hT W hW) a i H.a2 hi H.n16 x hn) (fun e w' q => ⟨q.1, by rw [q.2]; exact hW, by rw [q.2]; exact Chg.refl _ _⟩))
        · rw [if_neg hn] at her
          have e2 : er = 0 := by rw [her]; unfold ansF; rw [if_pos rfl, if_pos hr]
          subst e2
          have hrow := H.rows a H.a2 i hi
          rw [hk] at hrow
          obtain ⟨hl1, hws⟩ := hrow.is1
          obtain ⟨lo, hi', cs, e2⟩ := two_list (row := C a i) (by omega)
          have : cs = [] := by rw [e2] at hl1; simpa using hl1
          subst this
          refine main 0 (upC C a i (adW [lo, hi'] x)) rfl ?_ (fun W hW => ?_)
          · rw [nxC_ok, e2]
            unfold layD
            rw [if_pos rfl]
          · refine Calls.mono (sadd_ok X.s X.c X.h X.G C n W (hT W hW) a i H.a2 hi H.n16 lo hi' x e2 (hws lo (by rw [e2]; simp)) (hws hi' (by rw [e2]; simp)) (by omega) hx.2) ?_
            rintro e w' ⟨rfl, q1, q2⟩
            obtain ⟨g, hg, hm⟩ := q2.out
            refine ⟨rfl, ⟨hW.kd, ?_, fun k2 => absurd k2 (by rw [hk]; decide)⟩, Chg.of_mid hm hg⟩
            rw [hk]
            exact q1.out
      · have hr' : st < 0 ∨ (n : Int) ≤ st := by omega
        have HA : ∀ W, SlW X p n C W → Calls Tryz.prog 91 #[.pointer (some ⟨X.s, 0, none⟩), .pointer none, .int .i64 (a : Int), .int .i64 st, .int .i64 x] W fun e w' => e = .returned (.int .i64 1) ∧ SlW X p n C w' ∧ Chg (fun y => y ∈ X.G 0 ++ X.G 1) W w' := fun W hW => Calls.mono (sadd_arg X.s X.c X.h X.G C n W (hT W hW) a st H.a2 hr' H.n16 x) (fun e w' q => ⟨q.1, by rw [q.2]; exact hW, by rw [q.2]; exact Chg.refl _ _⟩)
        by_cases hn : x < 0
        · rw [if_pos hn] at her
          have e2 : er = 2 := her
          subst e2
          exact main 1 C (by unfold answ; rw [if_pos ⟨rfl, decide_eq_false (by omega)⟩]) (nxC_no (by decide)).symm HA
        · rw [if_neg hn] at her
          have e2 : er = 1 := by rw [her]; unfold ansF; rw [if_pos rfl, if_neg hr]
          subst e2
          exact main 1 C (by unfold answ; rw [if_neg (fun q => absurd q.2 (by rw [decide_eq_true (by omega : 0 ≤ x)]; decide))]) (nxC_no (by decide)).symm HA
    · have hw : whyF 4 X.kd x f false = 7 := by
        unfold whyF
        rw [if_neg (by decide), if_neg (show ¬ X.kd = kdOf 4 from hk)]
      rw [hw] at her
      have e2 : er = 7 := her
      subst e2
      refine main 7 C rfl (nxC_no (by decide)).symm (fun W hW => Calls.mono (sadd_kind (tyK X.kd) ?_ X.s X.c a st x W hW.g.slab) (fun e w' q => ⟨q.1, by rw [q.2]; exact hW, by rw [q.2]; exact Chg.refl _ _⟩))
      rcases H.sl.kd with q | q | q
      · exact absurd q hk
      · rw [q]; exact Or.inl rfl
      · rw [q]; exact Or.inr rfl
  · rw [why_closed] at her
    have e2 : er = 8 := her
    subst e2
    rw [nxC_no (by decide)]
    refine Calls.mono (radd_closed rc k ph a X.s r0 r1 st x neg m w H.a2 H.mm H.i0 H.i1 H.rcd H.sh H.pq) ?_
    rintro e w' ⟨rfl, q⟩
    exact ⟨rfl, H.closed q.out⟩
end
end Go.Proofs.YtfnohbalkpponaaGreatDoor
