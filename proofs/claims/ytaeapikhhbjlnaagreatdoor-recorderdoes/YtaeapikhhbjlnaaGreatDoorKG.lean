/- THE DOCUMENT's DRAIN of a buffer: the walk. Own work of the verifier. -/
import Derived.Test.YtaeapikhhbjlnaaGreatDoorZBJ
namespace Go.Proofs.YtaeapikhhbjlnaaGreatDoor
open Go.RowKit

/-- Where the document's Drain stands. -/
structure DrD (hb : Nat) (kd : Int) (p : Nat) (G : List Nat) (C : Nat → List Int) (w : World) (i : Nat) (wr : World) : Prop where
  chg : Chg (fun x => x = hb) w wr
  res : wr.heap[w.heap.size]? = some (.cells #[.int .i64 0, .int .u64 0, .slice none 0 0, .int .u64 0, .int .u64 0, .int .u64 0, .int .u64 0, .int .u64 0] 130 (0, 0))
  all : ∃ (P : Pt) (ao : Option Addr) (k cap : Nat), FoldD (fun j => ptF kd (C j)) i P ∧ P.Ok 1048576 ∧ wr.heap[w.heap.size + 1]? = some (.cells #[.int .i64 P.hi, .int .u64 P.lo, .slice ao k cap, .int .u64 (P.n : Int), .int .u64 (P.s : Int), .int .u64 (P.c : Int), .int .u64 (P.mn : Int), .int .u64 (P.mx : Int)] 130 (0, 0)) ∧ wr.ownsRow w.heap.size 222 2 (.slice ao k cap) P.L.length (fl P.L)
  hd : ∃ N : List Nat, N.length = i ∧ HdD wr hb (wdF kd p) (N ++ G.drop i) ∧ N.Nodup ∧ ∀ g ∈ N, w.heap.size ≤ g ∧ RowD wr g (frst kd (p : Int))
/-- What Drain reads. -/
structure DrE (ib o hb cap n b : Nat) (kd : Int) (W : World) : Prop where
  k : W.cell? ⟨ib, o, none⟩ = some (.int .i64 kd)
  c : W.cell? ⟨ib, o + 4 + b, none⟩ = some (.slice (some ⟨hb, 0, none⟩) n cap)
theorem DrE.chg {ib o hb cap n b : Nat} {kd : Int} {W W' : World} {S : Nat → Prop} (h : DrE ib o hb cap n b kd W) (hc : Chg S W W') (hS : ¬ S ib) : DrE ib o hb cap n b kd W' := ⟨hc.cell h.k hS, hc.cell h.c hS⟩
theorem drd_all {hb : Nat} {kd : Int} {p : Nat} {G : List Nat} {C : Nat → List Int} {w wr : World} {i : Nat} (h : Hid (DrD hb kd p G C w i wr)) : ∃ (P : Pt) (ao : Option Addr) (k cap : Nat), Hid (FoldD (fun j => ptF kd (C j)) i P) ∧ Hid (P.Ok 1048576) ∧ Hid (wr.heap[w.heap.size + 1]? = some (.cells #[.int .i64 P.hi, .int .u64 P.lo, .slice ao k cap, .int .u64 (P.n : Int), .int .u64 (P.s : Int), .int .u64 (P.c : Int), .int .u64 (P.mn : Int), .int .u64 (P.mx : Int)] 130 (0, 0))) ∧ Hid (wr.ownsRow w.heap.size 222 2 (.slice ao k cap) P.L.length (fl P.L)) := h.out.all
/-- The header's row that is read next. -/
theorem drd_row {hb : Nat} {kd : Int} {p : Nat} {G : List Nat} {C : Nat → List Int} {w wr : World} {i : Nat} (h : DrD hb kd p G C w i wr) (hi : i < G.length) : wr.cell? ⟨hb, i, none⟩ = some (slc (wdF kd p) G[i]) := by
  obtain ⟨N, h1, h2, _⟩ := h.hd
  have := h2.cell i (by simp [h1]; omega)
  rw [this]
  simp [List.getElem_append_right, h1]
/-- Behind the sum's store. -/
structure DrM (hb : Nat) (kd : Int) (p : Nat) (G : List Nat) (C : Nat → List Int) (w : World) (i : Nat) (W : World) : Prop where
  chg : Chg (fun x => x = hb) w W
  res : W.heap[w.heap.size]? = some (.cells #[.int .i64 0, .int .u64 0, .slice none 0 0, .int .u64 0, .int .u64 0, .int .u64 0, .int .u64 0, .int .u64 0] 130 (0, 0))
  all : ∃ (P : Pt) (ao : Option Addr) (k cap : Nat), FoldD (fun j => ptF kd (C j)) (i + 1) P ∧ P.Ok 1048576 ∧ W.heap[w.heap.size + 1]? = some (.cells #[.int .i64 P.hi, .int .u64 P.lo, .slice ao k cap, .int .u64 (P.n : Int), .int .u64 (P.s : Int), .int .u64 (P.c : Int), .int .u64 (P.mn : Int), .int .u64 (P.mx : Int)] 130 (0, 0)) ∧ W.ownsRow w.heap.size 222 2 (.slice ao k cap) P.L.length (fl P.L)
  hd : ∃ N : List Nat, N.length = i ∧ HdD W hb (wdF kd p) (N ++ G.drop i) ∧ N.Nodup ∧ ∀ g ∈ N, w.heap.size ≤ g ∧ RowD W g (frst kd (p : Int))
theorem DrD.mid {hb : Nat} {kd : Int} {p : Nat} {G : List Nat} {C : Nat → List Int} {w wr w1 w2 : World} {i : Nat} (h : DrD hb kd p G C w i wr) (hbl : hb < w.heap.size) {P P' : Pt} {ao2 : Option Addr} {k2 c2 : Nat} (hF : FoldD (fun j => ptF kd (C j)) i P) (hM : MrgD P (ptF kd (C i)) P') (hX : (ptF kd (C i)).Ok 1048576) (hP : P.Ok 1048576) (hb1 : Below wr.heap.size wr w1) (hb2 : Below w1.heap.size w1 w2) {r0 r1 r2 r3 r4 r5 r6 r7 : Value} (hA : w2.heap[w.heap.size + 1]? = some (.cells #[r0, r1, r2, r3, r4, r5, r6, r7] 130 (0, 0))) (ho : w2.ownsRow w1.heap.size 222 2 (.slice ao2 k2 c2) P'.L.length (fl P'.L)) :
    DrM hb kd p G C w i (put8 w2 (w.heap.size + 1) (.int .i64 P'.hi) (.int .u64 P'.lo) (.slice ao2 k2 c2) (.int .u64 (P'.n : Int)) (.int .u64 (P'.s : Int)) (.int .u64 (P'.c : Int)) (.int .u64 (P'.mn : Int)) (.int .u64 (P'.mx : Int))) := by
  have hs := h.chg.size
  have hm := mid_put8 w2 (w.heap.size + 1) (.int .i64 P'.hi) (.int .u64 P'.lo) (.slice ao2 k2 c2) (.int .u64 (P'.n : Int)) (.int .u64 (P'.s : Int)) (.int .u64 (P'.c : Int)) (.int .u64 (P'.mn : Int)) (.int .u64 (P'.mx : Int))
  have b2 : Below wr.heap.size wr w2 := hb1.trans (hb2.mono hb1.size)
  have keep : ∀ x, x < wr.heap.size → x ≠ w.heap.size + 1 → (put8 w2 (w.heap.size + 1) (.int .i64 P'.hi) (.int .u64 P'.lo) (.slice ao2 k2 c2) (.int .u64 (P'.n : Int)) (.int .u64 (P'.s : Int)) (.int .u64 (P'.c : Int)) (.int .u64 (P'.mn : Int)) (.int .u64 (P'.mx : Int))).heap[x]? = wr.heap[x]? := fun x hx hn => (hm.block x (Nat.lt_of_lt_of_le hx b2.size) (by omega)).trans (b2.block x hx)
  have hrl := (Array.getElem?_eq_some_iff.1 h.res).1
  refine ⟨h.chg.trans (S' := fun x => x = w.heap.size + 1) ⟨hm.os.trans b2.os, hm.tape.trans b2.tape, hm.output.trans b2.output, Nat.le_trans b2.size hm.size, fun x hx hn => keep x hx hn⟩ (fun x e => Or.inr (by omega)), (keep _ hrl (by omega)).trans h.res, ⟨P', ao2, k2, c2, hF.next hM, hM.ok hP hX, set_eight hA, ?_⟩, ?_⟩
  · exact own_le (own_mid_ne ho hm (own_nty ho hA (by decide))) (by have := hb1.size; omega)
  · obtain ⟨N, h1, h2, h3, h4⟩ := h.hd
    refine ⟨N, h1, h2.heap (keep hb (by omega) (by omega)), h3, fun g hg => ?_⟩
    have hg2 := h4 g hg
    have hne : g ≠ w.heap.size + 1 := fun e => by
      have h5 := hg2.2
      obtain ⟨_, _, _, _, _, _, h6, _⟩ := h.all
      unfold RowD at h5
      rw [e, h6] at h5
      injection h5 with h5
      injection h5 with _ h5
      exact absurd h5 (by decide)
    exact ⟨hg2.1, hg2.2.heap (keep g hg2.2.lt hne)⟩
/-- The row is laid anew. -/
theorem DrM.next {hb : Nat} {kd : Int} {p : Nat} {G : List Nat} {C : Nat → List Int} {w W W6 : World} {i g : Nat} (h : DrM hb kd p G C w i W) (hbl : hb < w.heap.size) (hi : i < G.length) (hB : Below W.heap.size W W6) (hg : W.heap.size ≤ g) (hr : RowD W6 g (frst kd (p : Int))) :
    DrD hb kd p G C w (i + 1) (W6.setCell ⟨hb, i, none⟩ (slc (wdF kd p) g)) := by
  have hs := h.chg.size
  have k6 : ∀ x, x < W.heap.size → x ≠ hb → (W6.setCell ⟨hb, i, none⟩ (slc (wdF kd p) g)).heap[x]? = W.heap[x]? := fun x hx hn => by
    rw [heap_setCell_other _ _ _ _ (by show x ≠ hb; exact hn)]
    exact hB.block x hx
  obtain ⟨P, ao, k, cap, h1, h2, h3, h4⟩ := h.all
  obtain ⟨N, n1, n2, n3, n4⟩ := h.hd
  have hl3 := (Array.getElem?_eq_some_iff.1 h3).1
  have hlr := (Array.getElem?_eq_some_iff.1 h.res).1
  refine ⟨h.chg.trans ((Chg.of_below (S := fun x => x = hb) hB).trans (Chg.set W6 ⟨hb, i, none⟩ _) (fun x e => Or.inl e)) (fun x e => Or.inl e), (k6 _ hlr (by omega)).trans h.res, ⟨P, ao, k, cap, h1, h2, (k6 _ hl3 (by omega)).trans h3, ?_⟩, ?_⟩
  · refine Chg.row ((Chg.of_below (S := fun x => x = hb) hB).trans (Chg.set W6 ⟨hb, i, none⟩ _) (fun x e => Or.inl e)) h4 (fun x e q => ?_)
    have := h4.lt x e
    have q' : x = hb := q
    omega
  · refine ⟨N ++ [g], by simp [n1], ?_, ?_, ?_⟩
    · have h5 := (n2.heap (hB.block hb (by omega))).set i g (by simp [n1]; omega)
      rw [List.set_append_right _ _ (by omega), n1, Nat.sub_self] at h5
      rw [List.drop_eq_getElem_cons hi, List.set_cons_zero] at h5
      rw [List.append_assoc]
      exact h5
    · rw [List.nodup_append]
      refine ⟨n3, by simp, fun x hx y hy e => ?_⟩
      have hy' : y = g := by simpa using hy
      have := (n4 x hx).2.lt
      omega
    · intro x hx
      rcases List.mem_append.1 hx with q | q
      · have := n4 x q
        exact ⟨this.1, this.2.heap (k6 x this.2.lt (by omega))⟩
      · have hx' : x = g := by simpa using q
        subst hx'
        exact ⟨by omega, hr.heap (heap_setCell_other _ _ _ _ (by show x ≠ hb; omega))⟩
theorem le_undrew {X : World} {g : Nat} (h : X.drew.heap.size ≤ g) : X.heap.size ≤ g := h
theorem first_op (kd : Int) (p : Nat) (hk : kd = 1 ∨ kd = 2 ∨ kd = 3) (W : World) : Calls Tryz.prog 82 #[.int .i64 kd, .int .i64 (p : Int)] W fun e w' => ∃ g, e = .returned (slc (wdF kd p) g) ∧ Hid (W.heap.size ≤ g ∧ RowD w' g (frst kd (p : Int)) ∧ Below W.heap.size W w') := by
  refine Calls.mono (first_any kd (p : Int) W) ?_
  rintro e w' ⟨rfl, rfl⟩
  rw [(RowOk.first (p := p) hk 0).len]
  exact ⟨_, rfl, Nat.le_refl _, new_1 W _, bel1 W _⟩
/-- What Drain tells and leaves. -/
def DrdQ (hb n : Nat) (kd : Int) (p : Nat) (C : Nat → List Int) (w : World) (e : Ending) (w' : World) : Prop := ∃ (P : Pt) (ao : Option Addr) (k c : Nat), e = .returned (rpart P.hi P.lo (.slice ao k c) P.n P.s P.c P.mn P.mx) ∧ FoldD (fun j => ptF kd (C j)) n P ∧ P.Ok 1048576 ∧ w'.ownsRow w.heap.size 222 2 (.slice ao k c) P.L.length (fl P.L) ∧ (∃ N : List Nat, N.length = n ∧ HdD w' hb (wdF kd p) N ∧ N.Nodup ∧ ∀ g ∈ N, w.heap.size ≤ g ∧ RowD w' g (frst kd (p : Int))) ∧ Chg (fun x => x = hb) w w'
/-- The end: the sum is told. -/
theorem DrD.fin {hb : Nat} {kd : Int} {p n : Nat} {G : List Nat} {C : Nat → List Int} {w wr : World} (h : DrD hb kd p G C w n wr) (hG : G.length = n) (hbl : hb < w.heap.size) {P : Pt} {ao : Option Addr} {k c : Nat} (hF : FoldD (fun j => ptF kd (C j)) n P) (hP : P.Ok 1048576) (ho : wr.ownsRow w.heap.size 222 2 (.slice ao k c) P.L.length (fl P.L)) (v0 v1 v2 v3 v4 v5 v6 v7 : Value) :
    DrdQ hb n kd p C w (.returned (rpart P.hi P.lo (.slice ao k c) P.n P.s P.c P.mn P.mx)) (put8 wr w.heap.size v0 v1 v2 v3 v4 v5 v6 v7) := by
  have hm := mid_put8 wr w.heap.size v0 v1 v2 v3 v4 v5 v6 v7
  have hc : Chg (fun x => x = w.heap.size) wr (put8 wr w.heap.size v0 v1 v2 v3 v4 v5 v6 v7) := ⟨hm.os, hm.tape, hm.output, hm.size, fun x hx hn => hm.block x hx (by omega)⟩
  obtain ⟨N, n1, n2, n3, n4⟩ := h.hd
  rw [List.drop_eq_nil_of_le (by omega), List.append_nil] at n2
  refine ⟨P, ao, k, c, rfl, hF, hP, Chg.row hc ho (fun x e q => own_nty ho h.res (by decide) (by rw [← show x = w.heap.size from q]; exact e)), ⟨N, n1, n2.heap (hc.block hb n2.lt (by omega)), n3, fun g hg => ⟨(n4 g hg).1, (n4 g hg).2.heap (hc.block g (n4 g hg).2.lt (fun q => ?_))⟩⟩, h.chg.trans hc (fun x e => Or.inr (by omega))⟩
  have h5 := (n4 g hg).2
  have q' : g = w.heap.size := q
  unfold RowD at h5
  rw [q', h.res] at h5
  injection h5 with h5
  injection h5 with _ h5
  exact absurd h5 (by decide)
set_option maxRecDepth 10000 in
set_option maxHeartbeats 8000000 in
theorem drain15_any (ib o hb cap n b p t : Nat) (kd : Int) (hkd : kd = 1 ∨ kd = 2 ∨ kd = 3) (G : List Nat) (C : Nat → List Int) (w : World) (hE : DrE ib o hb cap n b kd w) (hne : ib ≠ hb) (hb2 : b < 2) (hH : HdD w hb (wdF kd p) G) (hG : G.length = n) (hr : ∀ i (hi : i < G.length), RowD w G[i] (C i) ∧ RowOk kd p t (C i)) (hn : n ≤ 16) (p1 : 1 ≤ p) (p2 : p ≤ 14) (ht : t < 70368744177664) :
    Calls Tryz.prog 45 #[.pointer (some ⟨ib, o, none⟩), .int .i64 (b : Int), .int .i64 (p : Int)] w fun e w' => DrdQ hb n kd p C w e w' := by
  have hbl := hH.lt
  have hil : ib < w.heap.size := lt_of_cell hE.k
  obtain ⟨w2, hw2⟩ : ∃ w2, (w.alloc (.cells #[.int .i64 0, .int .u64 0, .slice none 0 0, .int .u64 0, .int .u64 0, .int .u64 0, .int .u64 0, .int .u64 0] 130)).alloc (.cells #[.int .i64 0, .int .u64 0, .slice none 0 0, .int .u64 0, .int .u64 0, .int .u64 0, .int .u64 0, .int .u64 0] 130) = w2 := ⟨_, rfl⟩
  have hbw : Below w.heap.size w w2 := by rw [← hw2]; exact bel2 _ _ _
  have HI : Hid (DrD hb kd p G C w 0 w2) := by
    refine ⟨Chg.of_below hbw, ?_, ⟨Pt.nil, none, 0, 0, FoldD.nil, Pt.nil_ok _, ?_, World.ownsRow_nil _ _ _ _⟩, ⟨[], rfl, ?_, List.nodup_nil, (fun g hg => by cases hg)⟩⟩
    · rw [← hw2]; exact Pr.new1 _ _ _
    · rw [← hw2]; exact Pr.new2 _ _ _
    · rw [List.nil_append, List.drop_zero]; exact hH.heap (hbw.block hb hbl)
  have HE : Hid (∀ W, Chg (fun x => x = hb) w W → DrE ib o hb cap n b kd W) := fun W hc => hE.chg hc hne
  have HR : Hid (∀ i (hi : i < G.length), RowD w G[i] (C i) ∧ RowOk kd p t (C i)) := hr
  have HPt : Hid (∀ i, i < n → ∀ (g : Nat) (W : World), RowD W g (C i) → Calls Tryz.prog 88 #[.int .i64 kd, slc (wdF kd p) g] W fun e w' => ∃ (ao : Option Addr) (k cap : Nat), e = .returned (rpart (ptF kd (C i)).hi (ptF kd (C i)).lo (.slice ao k cap) (ptF kd (C i)).n (ptF kd (C i)).s (ptF kd (C i)).c (ptF kd (C i)).mn (ptF kd (C i)).mx) ∧ Hid (SN w' (.slice ao k cap) (ptF kd (C i)).L) ∧ Hid (Below W.heap.size W w')) := fun i hi g W h => part15_any (hr i (by omega)).2 p1 p2 ht g W h
  have HOk : Hid (∀ i, i < n → (ptF kd (C i)).Ok 1048576) := fun i hi => ((hr i (by omega)).2.ok p1 p2 ht).1
  have HF : Hid (∀ W, _) := first_op kd p hkd
  have hb2' : (b : Int) < 2 := by omega
  have HG : Hid (G.length = n) := hG
  have HNr : Hid (∀ i (hi : i < G.length), G[i] ≠ hb) := fun i hi => hH.ne_row (hr i hi).1
  have Hbl : Hid (hb < w.heap.size) := hbl
  have HNe : Hid (ib ≠ hb) := hne
  have hn' : (n : Int) ≤ 16 := by omega
  have Hw2 : Hid ((w.alloc (.cells #[.int .i64 0, .int .u64 0, .slice none 0 0, .int .u64 0, .int .u64 0, .int .u64 0, .int .u64 0, .int .u64 0] 130)).alloc (.cells #[.int .i64 0, .int .u64 0, .slice none 0 0, .int .u64 0, .int .u64 0, .int .u64 0, .int .u64 0, .int .u64 0] 130) = w2) := hw2
  clear hE hH hr p1 p2 ht hb2 hG hbl hil hbw hne hkd hn hw2
  go_enter Tryz.func45, Tryz.ntmps45
  go_wp2_with fail
  have hw2 := Hw2.out
  try simp only [hw2]
  clear hw2 Hw2
  go_loopw [8] (fun a wr => ∃ i : Nat, i ≤ n ∧ a = .int .i64 (i : Int) ∧ Hid (DrD hb kd p G C w i wr)) (fun a _ => n - (intOf a).toNat)
  case atStart => exact ⟨0, by omega, rfl, HI.out⟩
  case round =>
    obtain ⟨i, hi, rfl, HIi⟩ := hrel
    obtain ⟨ek, ec⟩ := HE.out _ HIi.out.chg
    by_cases hlt : i < n
    · have hlt' : (i : Int) < (n : Int) := by omega
      have hiG : i < G.length := by have := HG.out; omega
      obtain ⟨P, ao, ka, ca, HFd, HP, HA, HO⟩ := drd_all HIi
      obtain ⟨q0, q1, q2, q3, q4, q5, q6, q7⟩ := eight_cells HA
      obtain ⟨f0, f1, f2, f3, f4, f5, f6, f7⟩ := eight_fr HA
      have hrow := drd_row HIi.out hiG
      have HRW : Hid (RowD wr G[i] (C i)) := ((HR.out i hiG).1).heap (HIi.out.chg.block _ (HR.out i hiG).1.lt (HNr.out i hiG))
      have HRWd : Hid (RowD wr.drew G[i] (C i)) := HRW
      have HPi : Hid (∀ W, RowD W G[i] (C i) → _) := fun W h => HPt.out i hlt G[i] W h
      have HMg : Hid (∀ W a2 m2 c2, Below wr.heap.size wr W → SN W (.slice a2 m2 c2) (ptF kd (C i)).L → Calls Tryz.prog 87 #[rpart P.hi P.lo (.slice ao ka ca) P.n P.s P.c P.mn P.mx, rpart (ptF kd (C i)).hi (ptF kd (C i)).lo (.slice a2 m2 c2) (ptF kd (C i)).n (ptF kd (C i)).s (ptF kd (C i)).c (ptF kd (C i)).mn (ptF kd (C i)).mx] W fun e w' => ∃ (P' : Pt) (ao : Option Addr) (k cap : Nat), e = .returned (rpart P'.hi P'.lo (.slice ao k cap) P'.n P'.s P'.c P'.mn P'.mx) ∧ Hid (MrgD P (ptF kd (C i)) P') ∧ Hid (w'.ownsRow W.heap.size 222 2 (.slice ao k cap) P'.L.length (fl P'.L)) ∧ Hid (Below W.heap.size W w')) := fun W a2 m2 c2 hb hS =>
        mergeD_p (by decide) HP.out (HOk.out i hlt) _ a2 _ _ m2 c2 W (own_sn (Chg.row (Chg.of_below (S := fun _ => False) hb) HO.out (fun x _ k => k)) (by have := HIi.out.chg.size; have := hb.size; omega)) hS
      have HNx : Hid (∀ (w1 w2 : World) (P' : Pt) (ao2 : Option Addr) (k2 c2 : Nat) (r0 r1 r2 r3 r4 r5 r6 r7 : Value), MrgD P (ptF kd (C i)) P' → Below wr.heap.size wr w1 → Below w1.heap.size w1 w2 → w2.heap[w.heap.size + 1]? = some (.cells #[r0, r1, r2, r3, r4, r5, r6, r7] 130 (0, 0)) → w2.ownsRow w1.heap.size 222 2 (.slice ao2 k2 c2) P'.L.length (fl P'.L) → DrM hb kd p G C w i (put8 w2 (w.heap.size + 1) (.int .i64 P'.hi) (.int .u64 P'.lo) (.slice ao2 k2 c2) (.int .u64 (P'.n : Int)) (.int .u64 (P'.s : Int)) (.int .u64 (P'.c : Int)) (.int .u64 (P'.mn : Int)) (.int .u64 (P'.mx : Int)))) := fun w1 w2 P' ao2 k2 c2 r0 r1 r2 r3 r4 r5 r6 r7 a1 a2 a3 a4 a5 => HIi.out.mid Hbl.out HFd.out a1 (HOk.out i hlt) HP.out a2 a3 a4 a5
      have HGo : Hid (∀ W, DrM hb kd p G C w i W → DrE ib o hb cap n b kd W ∧ W.cell? ⟨hb, i, none⟩ = some (slc (wdF kd p) G[i]) ∧ W.frozen? ⟨hb, i, none⟩ = false ∧ ∀ W6 g, Below W.heap.size W W6 → W.heap.size ≤ g → RowD W6 g (frst kd (p : Int)) → DrE ib o hb cap n b kd W6 ∧ W6.cell? ⟨hb, i, none⟩ = some (slc (wdF kd p) G[i]) ∧ W6.frozen? ⟨hb, i, none⟩ = false ∧ DrD hb kd p G C w (i + 1) (W6.setCell ⟨hb, i, none⟩ (slc (wdF kd p) g))) := fun W hM => by
        obtain ⟨N, n1, n2, _⟩ := hM.hd
        have hc := n2.cell i (by simp [n1]; omega)
        have e1 : (N ++ G.drop i)[i]'(by simp [n1]; omega) = G[i] := by simp [List.getElem_append_right, n1]
        rw [e1] at hc
        refine ⟨HE.out W hM.chg, hc, n2.fr i, fun W6 g h1 h2 h3 => ⟨(HE.out W hM.chg).chg (Chg.of_below (S := fun _ => False) h1) (fun k => k), ?_, ?_, hM.next Hbl.out hiG h1 h2 h3⟩⟩
        · exact (h1.cell (p := ⟨hb, i, none⟩) (lt_of_cell hc)).trans hc
        · exact (n2.heap (h1.block hb n2.lt)).fr i
      clear HFd HP HO
      generalize G[i] = gi at *
      generalize ptF kd (C i) = Xi at *
      generalize wdF kd p = wd at *
      go_wp2_with fail
      have HAd := hid_drew HA
      go_cut [21] from 22 to 37 (fun _ W => Hid (DrM hb kd p G C w i W))
      case first =>
        go_region_law
          (first
            | (rw [if_pos (by simp [Region.wanted])]; go_simp; with_reducible refine Calls.mono (HPi.out _ (by first | with_reducible exact HRWd.out | with_reducible exact HRW.out)) ?_; rintro e w1 ⟨ao1, k1, c1, rfl, HS1, HB1⟩; have HA1 := hid_kept HAd HB1; obtain ⟨q0, q1, q2, q3, q4, q5, q6, q7⟩ := eight_cells HA1; simp only [])
            | (rw [if_pos (by simp [Region.wanted])]; go_simp; with_reducible refine Calls.mono (HMg.out _ _ _ _ (below_undrew HB1.out) HS1.out) ?_; rintro e w3 ⟨P', ao2, k2, c2, rfl, HR2, HO2, HB2⟩; have HA2 := hid_kept HA1 HB2; obtain ⟨p0, p1, p2, p3, p4, p5, p6, p7⟩ := eight_cells HA2; obtain ⟨f0, f1, f2, f3, f4, f5, f6, f7⟩ := eight_fr HA2; simp only []))
        all_goals
          go_wp2_with fail
          go_meet
          rw [put8_eq]
          exact HNx.out w1 w3 P' ao2 k2 c2 _ _ _ _ _ _ _ _ HR2.out (below_undrew HB1.out) HB2.out HA2.out HO2.out
      case rest =>
        clear q0 q1 q2 q3 q4 q5 q6 q7 f0 f1 f2 f3 f4 f5 f6 f7 HA HAd HMg HPi HRW HRWd HNx hrow ek ec
        obtain ⟨⟨ek5, ec5⟩, c5, f5', HN5⟩ := HGo.out _ hcut.out
        have HN5h := hid_of HN5
        clear HN5
        go_wp2_with fail
        go_region_law
          (rw [if_pos (by simp [Region.wanted])]; go_simp; with_reducible refine Calls.mono (HF.out _) ?_; rintro e w6 ⟨g6, rfl, H6⟩; obtain ⟨⟨ek6, ec6⟩, c6, f6', HD6⟩ := HN5h.out w6 g6 (below_undrew H6.out.2.2) (le_undrew H6.out.1) H6.out.2.1; have HD6h := hid_of HD6; clear HD6; simp only [])
        all_goals
          go_wp2_with fail
          exact ⟨⟨i + 1, by omega, by simp, HD6h.out⟩, by simp [intOf]; omega⟩
    · obtain rfl : i = n := by omega
      have hlt' : ¬ (i : Int) < (i : Int) := by omega
      obtain ⟨P, ao, ka, ca, HFd, HP, HA, HO⟩ := drd_all HIi
      have HRs : Hid _ := HIi.out.res
      obtain ⟨q0, q1, q2, q3, q4, q5, q6, q7⟩ := eight_cells HA
      obtain ⟨p0, p1, p2, p3, p4, p5, p6, p7⟩ := eight_cells HRs
      obtain ⟨f0, f1, f2, f3, f4, f5, f6, f7⟩ := eight_fr HRs
      have HQ : Hid (∀ v0 v1 v2 v3 v4 v5 v6 v7, DrdQ hb i kd p C w (.returned (rpart P.hi P.lo (.slice ao ka ca) P.n P.s P.c P.mn P.mx)) (put8 wr w.heap.size v0 v1 v2 v3 v4 v5 v6 v7)) := fun v0 v1 v2 v3 v4 v5 v6 v7 => HIi.out.fin HG.out Hbl.out HFd.out HP.out HO.out v0 v1 v2 v3 v4 v5 v6 v7
      clear HFd HP HO
      go_wp2_with fail
      rw [put8_eq]
      have HS := hid_of (set_eight (v0 := .int .i64 P.hi) (v1 := .int .u64 P.lo) (v2 := .slice ao ka ca) (v3 := .int .u64 (P.n : Int)) (v4 := .int .u64 (P.s : Int)) (v5 := .int .u64 (P.c : Int)) (v6 := .int .u64 (P.mn : Int)) (v7 := .int .u64 (P.mx : Int)) HRs.out)
      have HQ2 := hid_of (HQ.out (.int .i64 P.hi) (.int .u64 P.lo) (.slice ao ka ca) (.int .u64 (P.n : Int)) (.int .u64 (P.s : Int)) (.int .u64 (P.c : Int)) (.int .u64 (P.mn : Int)) (.int .u64 (P.mx : Int)))
      generalize put8 wr w.heap.size (.int .i64 P.hi) (.int .u64 P.lo) (.slice ao ka ca) (.int .u64 (P.n : Int)) (.int .u64 (P.s : Int)) (.int .u64 (P.c : Int)) (.int .u64 (P.mn : Int)) (.int .u64 (P.mx : Int)) = W at *
      obtain ⟨z0, z1, z2, z3, z4, z5, z6, z7⟩ := eight_cells HS
      simp [bodyPost, results, Tryz.results45, go_sem, z0, z1, z2, z3, z4, z5, z6, z7]
      exact HQ2.out
end Go.Proofs.YtaeapikhhbjlnaaGreatDoor
