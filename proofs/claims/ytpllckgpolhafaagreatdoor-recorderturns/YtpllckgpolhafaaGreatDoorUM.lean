/- RecorderTurns: a round's states. Own work of the verifier. -/
import Derived.Test.YtpllckgpolhafaaGreatDoorUL
namespace Go.Proofs.YtpllckgpolhafaaGreatDoor
open Go.RowKit

/-- Where all lies. -/
structure Wx where
  w : World
  k : Nat
  p : Nat
  base : Nat
  s : Nat
  c : Nat
  h : Nat → Nat
  G : Nat → List Nat
  lb : Nat
/-- What stands in the count of refused records of a buffer. -/
def rfd (ab b : Nat) (ref : Int) : Int := if ab = b then ref else 0
/-- The recorders' list. -/
def Wx.Lr (K : Wx) (W : World) : Prop := W.heap[K.lb]? = some (.cells #[.pointer (some ⟨K.base + 0, 0, none⟩), .pointer (some ⟨K.base + 1, 0, none⟩), .pointer (some ⟨K.base + 2, 0, none⟩)] 49 (0, 0))
/-- The sum's block. -/
def Sb (sb : Nat) (S : Int) (W : World) : Prop := W.heap[sb]? = some (.cells #[.int .i64 (hiOf S), .int .u64 (loOf S)] 52 (0, 0))
/-- A round: act is the active buffer, ab the one whose sums are T in all; ref were refused in it; the law's own sum is S. -/
structure MJ (K : Wx) (act ab m sb : Nat) (S T ref : Int) (W : World) : Prop where
  ex : ∃ neg V, TS K.w K.k K.p (fun j => K.base + j) 3 K.s K.c K.h K.G act (rfd ab 0 ref) (rfd ab 1 ref) neg m ab V W ∧ V 0 + V 1 + V 2 = T ∧ 0 ≤ V 0 ∧ 0 ≤ V 1 ∧ 0 ≤ V 2
  lr : K.Lr W
  sm : Sb sb S W
  ge : K.w.heap.size ≤ sb
/-- Between rounds. -/
structure OJ (K : Wx) (i : Nat) (W : World) : Prop where
  ex : ∃ neg, TS K.w K.k K.p (fun j => K.base + j) 3 K.s K.c K.h K.G (i % 2) 0 0 neg 0 (i % 2) (fun _ => 0) W
  lr : K.Lr W
theorem TS.reab {w0 : World} {k p : Nat} {rc : Nat → Nat} {N s c : Nat} {h : Nat → Nat} {G : Nat → List Nat} {a : Nat} {r0 r1 : Int} {neg : Bool} {m ab : Nat} {W : World} (H : TS w0 k p rc N s c h G a r0 r1 neg m ab (fun _ => 0) W) (ab' : Nat) : TS w0 k p rc N s c h G a r0 r1 neg m ab' (fun _ => 0) W :=
  ⟨H.sh, H.ph, H.rcs, H.slab.same (fun b _ i _ => by rw [CV_zero, CV_zero]), H.bel, H.gek, H.gep, H.geg, H.ap⟩
/-- A block of the law's own, whose first cell is a number, is none of the state's. -/
theorem TS.other {w0 : World} {k p : Nat} {rc : Nat → Nat} {N s c : Nat} {h : Nat → Nat} {G : Nat → List Nat} {a : Nat} {r0 r1 : Int} {neg : Bool} {m ab : Nat} {V : Nat → Int} {W W' : World} (H : TS w0 k p rc N s c h G a r0 r1 neg m ab V W) (hN : 0 < N) {sb : Nat} {S : Int} (hs : Sb sb S W) (hge : w0.heap.size ≤ sb) (hc : Chg (fun x => x = sb) W W') : TS w0 k p rc N s c h G a r0 r1 neg m ab V W' := by
  have hc0 : W.cell? ⟨sb, 0, none⟩ = some (.int .i64 (hiOf S)) := by unfold Sb at hs; simp [World.cell?, hs]
  have hnk : ∀ {x : Nat} {cs : Array Value} {t : TypeId} {z : Nat × Nat}, W.heap[x]? = some (.cells cs t z) → t ≠ 52 → x ≠ sb := fun hx ht e => by
    subst e
    unfold Sb at hs
    rw [hs] at hx
    injection hx with hx
    injection hx with _ hx
    exact ht hx.symm
  obtain ⟨_, _, _, hph⟩ := H.ph.form
  refine ⟨hc.Sh H.sh (hnk H.sh (by decide)), hc.Pq H.ph (hnk hph (by decide)), fun j hj => hc.Rc (H.rcs j hj) (hnk (H.rcs j hj) (by decide)), H.slab.chg (fun x hx hm => hc.block x hx (fun e => ap_of H.slab hN hs (by decide) hc0 (fun _ _ e => by cases e) (fun _ _ _ e => by cases e) x hm e)), H.bel.trans (hc.below H.bel.size (fun x e => by rw [e]; exact hge)), H.gek, H.gep, H.geg, H.ap⟩
theorem ds_of {w0 : World} {k p : Nat} {rc : Nat → Nat} {N s c : Nat} {h : Nat → Nat} {G : Nat → List Nat} {a : Nat} {r0 r1 : Int} {neg : Bool} {m ab : Nat} {V : Nat → Int} {W : World} (H : TS w0 k p rc N s c h G a r0 r1 neg m ab V W) {x : Nat} {cs : Array Value} {t : TypeId} {z : Nat × Nat} (hx : W.heap[x]? = some (.cells cs t z)) (h1 : t ≠ 72) (h2 : t ≠ 75) (h3 : t ≠ 127) : ¬ Ds k p G x := fun hd => by
  rcases hd with hd | rfl | rfl
  · exact H.slab.not_row hx h1 hd
  · have := H.sh
    unfold Sh at this
    rw [this] at hx
    injection hx with hx
    injection hx with _ hx
    exact h2 hx.symm
  · obtain ⟨_, _, _, hph⟩ := H.ph.form
    unfold Ph at hph
    rw [hph] at hx
    injection hx with hx
    injection hx with _ hx
    exact h3 hx.symm
section
variable {K : Wx} {act ab m sb : Nat} {S T ref : Int} {W : World}
theorem MJ.facts (H : MJ K act ab m sb S T ref W) : W.cell? ⟨sb, 0, none⟩ = some (.int .i64 (hiOf S)) ∧ W.cell? ⟨sb, 1, none⟩ = some (.int .u64 (loOf S)) ∧ W.frozen? ⟨sb, 0, none⟩ = false ∧ W.frozen? ⟨sb, 1, none⟩ = false := by
  have hs := H.sm
  unfold Sb at hs
  simp [World.cell?, World.frozen?, hs]
theorem MJ.recs (H : MJ K act ab m sb S T ref W) (j : Nat) (hj : j < 3) : W.cell? ⟨K.lb, j, none⟩ = some (.pointer (some ⟨K.base + j, 0, none⟩)) := by
  have hs := H.lr
  unfold Wx.Lr at hs
  rcases (show j = 0 ∨ j = 1 ∨ j = 2 by omega) with rfl | rfl | rfl <;> simp [World.cell?, hs]
theorem MJ.bel (H : MJ K act ab m sb S T ref W) : Below K.w.heap.size K.w W := by
  obtain ⟨neg, V, h, _⟩ := H.ex
  exact h.bel
theorem upV_sum {V : Nat → Int} {j : Nat} (hj : j < 3) (n : Int) : upV V j (V j + n) 0 + upV V j (V j + n) 1 + upV V j (V j + n) 2 = V 0 + V 1 + V 2 + n := by
  rcases (show j = 0 ∨ j = 1 ∨ j = 2 by omega) with rfl | rfl | rfl <;> simp [upV] <;> omega
theorem upV_pos {V : Nat → Int} {j : Nat} {n : Int} (hn : 0 ≤ n) (h : 0 ≤ V j) {i : Nat} (hi : 0 ≤ V i) : 0 ≤ upV V j (V j + n) i := by
  unfold upV; split <;> omega
theorem MJ.add_ok (H : MJ K ab ab m sb S T ref W) (ha : ab < 2) (hm : m < 4611686018427387904) (hT : T ≤ (m : Int) * 9223372036854775808) (hr : In64 ref) {j : Nat} (hj : j < 3) (n : Int) (hn : 0 ≤ n) (hn1 : n < 9223372036854775808) :
    Calls Tryz.prog 14 #[.pointer (some ⟨K.base + j, 0, none⟩), .pointer none, .pointer (some ⟨K.s, 0, none⟩), .int .i64 n] W fun e w' => e = .returned (.int .i64 0) ∧ Hid (MJ K ab ab (m + 1) sb S (T + n) ref w') := by
  obtain ⟨neg, V, h, h1, h2, h3, h4⟩ := H.ex
  have hj0 : 0 ≤ V j := by rcases (show j = 0 ∨ j = 1 ∨ j = 2 by omega) with rfl | rfl | rfl <;> assumption
  have hj1 : V j ≤ T := by rcases (show j = 0 ∨ j = 1 ∨ j = 2 by omega) with rfl | rfl | rfl <;> omega
  have hin : ∀ b, In64 (rfd ab b ref) := fun b => by unfold rfd; split; exact hr; constructor <;> decide
  refine Calls.mono (h.add_ok (by decide) ha hm (hin 0) (hin 1) hj n hn hn1 hj0 (by omega)) ?_
  rintro e w' ⟨rfl, q1, q2⟩
  exact ⟨rfl, ⟨neg, _, q1.out, by rw [upV_sum hj]; omega, upV_pos hn hj0 h2, upV_pos hn hj0 h3, upV_pos hn hj0 h4⟩, q2.out.at_ H.lr (ds_of h H.lr (by decide) (by decide) (by decide)), q2.out.at_ H.sm (ds_of h H.sm (by decide) (by decide) (by decide)), H.ge⟩
theorem bmp_rfd (ab b : Nat) (ref : Int) (hr : In64 (ref + 1)) : bmp 2 ab b (rfd ab b ref) = rfd ab b (ref + 1) := by
  unfold bmp rfd
  rw [if_neg (by decide)]
  split
  · unfold wrap64; omega
  · rfl
theorem MJ.add_no (H : MJ K ab ab m sb S T ref W) (ha : ab < 2) (hm : m < 4611686018427387904) (hr : In64 ref) (hr1 : In64 (ref + 1)) {j : Nat} (hj : j < 3) (n : Int) (hn : n < 0) :
    Calls Tryz.prog 14 #[.pointer (some ⟨K.base + j, 0, none⟩), .pointer none, .pointer (some ⟨K.s, 0, none⟩), .int .i64 n] W fun e w' => e = .returned (.int .i64 2) ∧ Hid (MJ K ab ab (m + 1) sb S T (ref + 1) w') := by
  obtain ⟨neg, V, h, h1, h2, h3, h4⟩ := H.ex
  have hin : ∀ b, In64 (rfd ab b ref) := fun b => by unfold rfd; split; exact hr; constructor <;> decide
  refine Calls.mono (h.add_no (by decide) ha hm (hin 0) (hin 1) hj n hn) ?_
  rintro e w' ⟨rfl, q1, q2⟩
  rw [bmp_rfd ab 0 ref hr1, bmp_rfd ab 1 ref hr1] at q1
  exact ⟨rfl, ⟨neg, _, q1.out, h1, h2, h3, h4⟩, q2.out.at_ H.lr (ds_of h H.lr (by decide) (by decide) (by decide)), q2.out.at_ H.sm (ds_of h H.sm (by decide) (by decide) (by decide)), H.ge⟩
/-- The law's own sum is written. -/
theorem MJ.set (H : MJ K act ab m sb S T ref W) (S' : Int) {W' : World} (hc : Chg (fun x => x = sb) W W') (hs : Sb sb S' W') : MJ K act ab m sb S' T ref W' := by
  obtain ⟨neg, V, h, hr⟩ := H.ex
  refine ⟨⟨neg, V, h.other (by decide) H.sm H.ge hc, hr⟩, hc.at_ H.lr (fun e => ?_), hs, H.ge⟩
  have h1 := H.lr; have h2 := H.sm
  unfold Wx.Lr at h1; unfold Sb at h2
  rw [e, h2] at h1
  injection h1 with h1
  injection h1 with h1
  have := congrArg Array.size h1
  simp at this
theorem MJ.set1 (H : MJ K act ab m sb S T ref W) (S' : Int) (hh : hiOf S = hiOf S') : MJ K act ab m sb S' T ref (W.setCell ⟨sb, 1, none⟩ (.int .u64 (loOf S'))) := by
  refine H.set S' (Chg.set _ ⟨sb, 1, none⟩ _) ?_
  have h2 := H.sm
  unfold Sb at *
  rw [heap_setCell_same W sb 1 _ _ _ h2, ← hh]; rfl
theorem MJ.set2 (H : MJ K act ab m sb S T ref W) (S' : Int) : MJ K act ab m sb S' T ref ((W.setCell ⟨sb, 1, none⟩ (.int .u64 (loOf S'))).setCell ⟨sb, 0, none⟩ (.int .i64 (hiOf S'))) := by
  refine H.set S' ((Chg.set W ⟨sb, 1, none⟩ _).trans (Chg.set _ ⟨sb, 0, none⟩ _) (fun x e => Or.inl e)) ?_
  have h2 := H.sm
  unfold Sb at *
  rw [heap_setCell_same _ sb 0 _ _ _ (heap_setCell_same W sb 1 _ _ _ h2)]; rfl
theorem MJ.below (H : MJ K act ab m sb S T ref W) {W' : World} (hb : Below W.heap.size W W') : MJ K act ab m sb S T ref W' := by
  obtain ⟨neg, V, h, hr⟩ := H.ex
  exact ⟨⟨neg, V, h.below hb, hr⟩, (hb.block _ (Array.getElem?_eq_some_iff.1 H.lr).1).trans H.lr, (hb.block _ (Array.getElem?_eq_some_iff.1 H.sm).1).trans H.sm, H.ge⟩
/-- A round begins. -/
theorem OJ.start {i : Nat} (H : OJ K i W) : MJ K (i % 2) (i % 2) 0 W.heap.size 0 0 0 (W.alloc (.cells #[.int .i64 0, .int .u64 0] 52)) := by
  obtain ⟨neg, h⟩ := H.ex
  have hr : ∀ b, rfd (i % 2) b 0 = 0 := fun b => by unfold rfd; split <;> rfl
  refine ⟨⟨neg, fun _ => 0, by rw [hr, hr]; exact h.below (bel1 _ _), rfl, Int.le_refl _, Int.le_refl _, Int.le_refl _⟩, ((bel1 W _).block _ (Array.getElem?_eq_some_iff.1 H.lr).1).trans H.lr, ?_, h.bel.size⟩
  unfold Sb
  rw [show hiOf 0 = 0 by decide, show loOf 0 = 0 by decide]
  exact new_1 W _
theorem MJ.turn (H : MJ K act ab m sb S T ref W) (ha : act < 2) (hm : m < 4611686018427387904) :
    Calls Tryz.prog 15 #[.pointer (some ⟨K.k, 0, none⟩), .pointer none] W fun e w' => e = .returned (.tuple #[.int .i64 (act : Int), .int .i64 0]) ∧ Hid (MJ K (1 - act) ab 0 sb S T ref w') := by
  obtain ⟨neg, V, h, hr⟩ := H.ex
  refine Calls.mono (h.turn ha hm) ?_
  rintro e w' ⟨rfl, q1, q2⟩
  exact ⟨rfl, ⟨_, V, q1.out, hr⟩, q2.out.at_ H.lr (ds_of h H.lr (by decide) (by decide) (by decide)), q2.out.at_ H.sm (ds_of h H.sm (by decide) (by decide) (by decide)), H.ge⟩
theorem tot3 {V : Nat → Int} (h : V 0 + V 1 + V 2 < 170141183460469231731687303715884105728) (h0 : 0 ≤ V 0) (h1 : 0 ≤ V 1) (h2 : 0 ≤ V 2) : totN 3 V = V 0 + V 1 + V 2 := by
  have e : totN 3 V = rnd (rnd (rnd (0 + V 0) + V 1) + V 2) := rfl
  have e1 : rnd (0 + V 0) = V 0 := by rw [rnd_of ⟨by omega, by omega⟩]; omega
  have e2 : rnd (V 0 + V 1) = V 0 + V 1 := rnd_of ⟨by omega, by omega⟩
  have e3 : rnd (V 0 + V 1 + V 2) = V 0 + V 1 + V 2 := rnd_of ⟨by omega, by omega⟩
  rw [e, e1, e2, e3]
theorem MJ.drain (H : MJ K act ab m sb S T ref W) (ha : ab < 2) (hT : T < 170141183460469231731687303715884105728) :
    Calls Tryz.prog 16 #[.pointer (some ⟨K.s, 0, none⟩), .pointer none, .int .i64 (ab : Int)] W fun e w' => ∃ ao n cap, e = .returned (.tuple #[.agg #[.int .i64 (hiOf T), .int .u64 (loOf T), .slice ao n cap, .int .u64 0, .complex .f64 0 0, .float .f64 0, .float .f64 0], .int .i64 0]) ∧ Hid (MJ K act ab m sb S 0 ref w') := by
  obtain ⟨neg, V, h, h1, h2, h3, h4⟩ := H.ex
  refine Calls.mono (h.drain (by decide) ha V (fun i hi => ?_) (fun i hi => CV_at ab i V) (fun _ => 0) (fun b' hb' i hi => ?_) T (by rw [tot3 (by omega) h2 h3 h4]; exact h1)) ?_
  · rcases (show i = 0 ∨ i = 1 ∨ i = 2 by omega) with rfl | rfl | rfl <;> constructor <;> omega
  · rw [CV_zero]
    unfold upB CV
    split <;> rfl
  · rintro e w' ⟨ao, n, cap, rfl, q1, q2⟩
    exact ⟨ao, n, cap, rfl, ⟨neg, _, q1.out, rfl, Int.le_refl _, Int.le_refl _, Int.le_refl _⟩, q2.out.at_ H.lr (ds_of h H.lr (by decide) (by decide) (by decide)), q2.out.at_ H.sm (ds_of h H.sm (by decide) (by decide) (by decide)), H.ge⟩
theorem MJ.drain0 (H : MJ K act ab m sb S T ref W) {b : Nat} (hb : b < 2) (hne : ¬ b = ab) :
    Calls Tryz.prog 16 #[.pointer (some ⟨K.s, 0, none⟩), .pointer none, .int .i64 (b : Int)] W fun e w' => ∃ ao n cap, e = .returned (.tuple #[.agg #[.int .i64 0, .int .u64 0, .slice ao n cap, .int .u64 0, .complex .f64 0 0, .float .f64 0, .float .f64 0], .int .i64 0]) ∧ Hid (MJ K act ab m sb S T ref w') ∧ Hid (∀ (x : Nat) (cs : Array Value) (z : Nat × Nat), W.heap[x]? = some (.cells cs 60 z) → w'.heap[x]? = some (.cells cs 60 z)) := by
  obtain ⟨neg, V, h, h1⟩ := H.ex
  refine Calls.mono (h.drain (by decide) hb (fun _ => 0) (fun i hi => ⟨by decide, by decide⟩) (fun i hi => by rw [CV_ne ab b i V hne, cw_zero]) V (fun b' hb' i hi => ?_) 0 (by decide)) ?_
  · by_cases e : b' = b
    · subst e; rw [upB_at, CV_ne _ _ _ _ hne]
    · rw [upB_ne _ _ _ _ _ e]
  · rintro e w' ⟨ao, n, cap, rfl, q1, q2⟩
    exact ⟨ao, n, cap, by rw [show hiOf 0 = 0 by decide, show loOf 0 = 0 by decide], ⟨⟨neg, _, q1.out, h1⟩, q2.out.at_ H.lr (ds_of h H.lr (by decide) (by decide) (by decide)), q2.out.at_ H.sm (ds_of h H.sm (by decide) (by decide) (by decide)), H.ge⟩, fun x cs z hx => q2.out.at_ hx (ds_of h hx (by decide) (by decide) (by decide))⟩
theorem MJ.refused (H : MJ K act ab m sb S T ref W) {b : Nat} (hb : b < 2) :
    Calls Tryz.prog 11 #[.pointer (some ⟨K.k, 0, none⟩), .pointer none, .int .i64 (b : Int)] W fun e w' => e = .returned (.int .u64 (IntKind.u64.wrap (rfd ab b ref))) ∧ Hid (MJ K act ab m sb S T (if b = ab then 0 else ref) w') := by
  obtain ⟨neg, V, h, h1⟩ := H.ex
  rcases (show b = 0 ∨ b = 1 by omega) with rfl | rfl
  · refine Calls.mono h.ref0 ?_
    rintro e w' ⟨rfl, q1, q2⟩
    refine ⟨rfl, ⟨neg, V, ?_, h1⟩, q2.out.at_ H.lr (ds_of h H.lr (by decide) (by decide) (by decide)), q2.out.at_ H.sm (ds_of h H.sm (by decide) (by decide) (by decide)), H.ge⟩
    have q := q1.out
    by_cases e : ab = 0
    · subst e; rw [if_pos rfl]; exact q
    · rw [if_neg (fun x => e x.symm)]
      rw [show rfd ab 0 ref = 0 from if_neg e]; exact q
  · refine Calls.mono h.ref1 ?_
    rintro e w' ⟨rfl, q1, q2⟩
    refine ⟨rfl, ⟨neg, V, ?_, h1⟩, q2.out.at_ H.lr (ds_of h H.lr (by decide) (by decide) (by decide)), q2.out.at_ H.sm (ds_of h H.sm (by decide) (by decide) (by decide)), H.ge⟩
    have q := q1.out
    by_cases e : ab = 1
    · subst e; rw [if_pos rfl]; exact q
    · rw [if_neg (fun x => e x.symm)]
      rw [show rfd ab 1 ref = 0 from if_neg e]; exact q
/-- A round ends. -/
theorem MJ.done {i : Nat} (H : MJ K (1 - i % 2) (i % 2) 0 sb S 0 0 W) : OJ K (i + 1) W := by
  obtain ⟨neg, V, h, h1, h2, h3, h4⟩ := H.ex
  have hr : ∀ b, rfd (i % 2) b 0 = 0 := fun b => by unfold rfd; split <;> rfl
  rw [hr, hr] at h
  have e : 1 - i % 2 = (i + 1) % 2 := by omega
  have h0 : TS K.w K.k K.p (fun j => K.base + j) 3 K.s K.c K.h K.G (1 - i % 2) 0 0 neg 0 (i % 2) (fun _ => 0) W := ⟨h.sh, h.ph, h.rcs, h.slab.same (fun b hb j hj => by
    unfold CV
    split
    · rw [show V j = 0 by rcases (show j = 0 ∨ j = 1 ∨ j = 2 by omega) with rfl | rfl | rfl <;> omega]
    · rfl), h.bel, h.gek, h.gep, h.geg, h.ap⟩
  rw [e] at h0
  exact ⟨⟨neg, h0.reab _⟩, H.lr⟩
end
end Go.Proofs.YtpllckgpolhafaaGreatDoor
