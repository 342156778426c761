/- RecorderTurns: the state, and what each call makes of it. Own work of the verifier. -/
import Derived.Test.YtpllckgpolhafaaGreatDoorUG
import Derived.Test.YtpllckgpolhafaaGreatDoorUJ
namespace Go.Proofs.YtpllckgpolhafaaGreatDoor
open Go.RowKit

/-- One buffer's sums, the other's noughts. -/
def CV (a : Nat) (V : Nat → Int) : Nat → Nat → List Int := fun b i => if b = a then cw (V i) else [0, 0]
theorem CV_at (a i : Nat) (V : Nat → Int) : CV a V a i = cw (V i) := if_pos rfl
theorem CV_ne (a b i : Nat) (V : Nat → Int) (h : ¬ b = a) : CV a V b i = [0, 0] := if_neg h
def upV (V : Nat → Int) (j : Nat) (x : Int) : Nat → Int := fun i => if i = j then x else V i
/-- The blocks that calls may change. -/
abbrev Ds (k p : Nat) (G : Nat → List Nat) : Nat → Prop := fun x => x ∈ G 0 ++ G 1 ∨ x = k ∨ x = p
/-- What recorders share, N recorders, a counter: its buffer ab holds the sums V. -/
structure TS (w0 : World) (k p : Nat) (rc : Nat → Nat) (N s c : Nat) (h : Nat → Nat) (G : Nat → List Nat) (a : Nat) (r0 r1 : Int) (neg : Bool) (m ab : Nat) (V : Nat → Int) (W : World) : Prop where
  sh : Sh W k p a r0 r1
  ph : Pq W p neg m
  rcs : ∀ j, j < N → Rc W (rc j) k (j : Int) false
  slab : SlG 130 s c h G (CV ab V) 2 N W
  bel : Below w0.heap.size w0 W
  gek : w0.heap.size ≤ k
  gep : w0.heap.size ≤ p
  geg : ∀ g ∈ G 0 ++ G 1, w0.heap.size ≤ g
  ap : ∀ x, (x = s ∨ x = c ∨ x = h 0 ∨ x = h 1 ∨ x ∈ G 0 ++ G 1) → x ≠ k ∧ x ≠ p
theorem row_type {W : World} {g : Nat} {xs : List Int} (h : RowW W g xs) {k : Nat} {cs : Array Value} {t : TypeId} {z : Nat × Nat} (hk : W.heap[k]? = some (.cells cs t z)) (ht : t ≠ 72) : k ≠ g := fun e => by
  subst e
  unfold RowW at h
  rw [h] at hk
  injection hk with hk
  injection hk with _ hk
  exact ht hk.symm
theorem SlG.not_row {T : TypeId} {s c : Nat} {h : Nat → Nat} {G : Nat → List Nat} {C : Nat → Nat → List Int} {wd n : Nat} {w : World} (H : SlG T s c h G C wd n w) {k : Nat} {cs : Array Value} {t : TypeId} {z : Nat × Nat} (hk : w.heap[k]? = some (.cells cs t z)) (ht : t ≠ 72) : k ∉ G 0 ++ G 1 := fun hm => by
  rcases List.mem_append.1 hm with hm | hm
  · obtain ⟨i, hi, e⟩ := List.getElem_of_mem hm
    exact row_type (H.left 0 (by decide) i hi) hk ht e.symm
  · obtain ⟨i, hi, e⟩ := List.getElem_of_mem hm
    exact row_type (H.left 1 (by decide) i hi) hk ht e.symm
theorem SlG.lt {T : TypeId} {s c : Nat} {h : Nat → Nat} {G : Nat → List Nat} {C : Nat → Nat → List Int} {wd n : Nat} {w : World} (H : SlG T s c h G C wd n w) {g : Nat} (hm : g ∈ G 0 ++ G 1) : g < w.heap.size := by
  rcases List.mem_append.1 hm with hm | hm
  · obtain ⟨i, hi, rfl⟩ := List.getElem_of_mem hm
    exact (H.left 0 (by decide) i hi).lt
  · obtain ⟨i, hi, rfl⟩ := List.getElem_of_mem hm
    exact (H.left 1 (by decide) i hi).lt
section
variable {w0 : World} {k p : Nat} {rc : Nat → Nat} {N s c : Nat} {h : Nat → Nat} {G : Nat → List Nat} {a : Nat} {r0 r1 : Int} {neg : Bool} {m ab : Nat} {V : Nat → Int} {W : World}
theorem TS.ds (H : TS w0 k p rc N s c h G a r0 r1 neg m ab V W) (x : Nat) (hx : Ds k p G x) : w0.heap.size ≤ x := by
  rcases hx with hx | rfl | rfl
  · exact H.geg x hx
  · exact H.gek
  · exact H.gep
theorem TS.rc_out (H : TS w0 k p rc N s c h G a r0 r1 neg m ab V W) {j : Nat} (hj : j < N) : ¬ Ds k p G (rc j) := fun hx => by
  rcases hx with hx | hx | hx
  · exact H.slab.not_row (H.rcs j hj) (by decide) hx
  · have h1 := H.rcs j hj
    have h2 := H.sh
    unfold Rc at h1; unfold Sh at h2
    rw [hx, h2] at h1
    injection h1 with h1
    injection h1 with h1
    have := congrArg Array.size h1
    simp at this
  · exact rc_ne_ph (H.rcs j hj) H.ph hx
/-- The state behind a change of the blocks that calls may change. -/
theorem TS.next (H : TS w0 k p rc N s c h G a r0 r1 neg m ab V W) {a' : Nat} {r0' r1' : Int} {neg' : Bool} {m' ab' : Nat} {V' : Nat → Int} {W' : World} (hc : Chg (Ds k p G) W W') (hs : Sh W' k p a' r0' r1') (hp : Pq W' p neg' m') (hg : SlG 130 s c h G (CV ab' V') 2 N W') : TS w0 k p rc N s c h G a' r0' r1' neg' m' ab' V' W' :=
  ⟨hs, hp, fun j hj => hc.Rc (H.rcs j hj) (H.rc_out hj), hg, H.bel.trans (hc.below H.bel.size (fun x hx => H.ds x hx)), H.gek, H.gep, H.geg, H.ap⟩
theorem SlG.stay (H : SlG 130 s c h G (CV ab V) 2 N W) (ap : ∀ x, (x = s ∨ x = c ∨ x = h 0 ∨ x = h 1 ∨ x ∈ G 0 ++ G 1) → x ≠ k ∧ x ≠ p) {W' : World} (hc : Chg (fun x => x = k ∨ x = p) W W') : SlG 130 s c h G (CV ab V) 2 N W' := H.chg fun x hx hm => hc.block x hx (fun e => by
  rcases e with e | e
  · exact (ap x hm).1 e
  · exact (ap x hm).2 e)
theorem upC_CV {b i : Nat} {x : Int} (hb : b = ab) (b' i' : Nat) : upC (CV ab V) b i (cw x) b' i' = CV ab (upV V i x) b' i' := by
  subst hb
  unfold upC CV upV
  by_cases e : b' = b
  · subst e
    by_cases e2 : i' = i
    · subst e2; simp
    · simp [e2]
  · simp [e]
theorem TS.add_ok (H : TS w0 k p rc N s c h G a r0 r1 neg m a V W) (hN : N ≤ 16) (ha : a < 2) (hm : m < 4611686018427387904) (hr0 : In64 r0) (hr1 : In64 r1) {j : Nat} (hj : j < N) (n : Int) (hn : 0 ≤ n) (hn1 : n < 9223372036854775808) (hV : 0 ≤ V j) (hV1 : V j + n < 170141183460469231731687303715884105728) :
    Calls Tryz.prog 14 #[.pointer (some ⟨rc j, 0, none⟩), .pointer none, .pointer (some ⟨s, 0, none⟩), .int .i64 n] W fun e w' => e = .returned (.int .i64 0) ∧ Hid (TS w0 k p rc N s c h G a r0 r1 neg (m + 1) a (upV V j (V j + n)) w') ∧ Hid (Chg (Ds k p G) W w') := by
  have hin : InR (V j) := ⟨by omega, by omega⟩
  have hrow : CV a V a j = [wrap64 (loOf (V j)), hiOf (V j)] := CV_at a j V
  have key := radd_open (rc j) k p a s r0 r1 (j : Int) n 0 neg m (fun w' => SlG 130 s c h G (CV a (upV V j (V j + n))) 2 N w') (fun x => x ∈ G 0 ++ G 1) W ha hm hr0 hr1 (H.rcs j hj) H.sh H.ph
    (fun x hx => ⟨(H.ap x (Or.inr (Or.inr (Or.inr (Or.inr hx))))).1, (H.ap x (Or.inr (Or.inr (Or.inr (Or.inr hx))))).2, fun e => H.rc_out hj (Or.inl (e ▸ hx)), H.slab.lt hx⟩)
    (fun W1 W2 h1 h2 => h1.stay H.ap h2)
    (fun W1 hW1 => by
      have hs1 : SlG 130 s c h G (CV a V) 2 N W1 := H.slab.stay H.ap (hW1.mono (fun x e => Or.inr e))
      refine Calls.mono (sadd_ok s c h G (CV a V) N W1 hs1 a j ha hj hN _ _ n hrow (cw_in hin).1 (cw_in hin).2 hn hn1) ?_
      rintro e w' ⟨rfl, h1, ⟨g, hg, h2⟩⟩
      refine ⟨rfl, ?_, Chg.of_mid h2 hg⟩
      have e1 : adW [wrap64 (loOf (V j)), hiOf (V j)] n = cw (V j + n) := cw_add (V j) n hV hV1 hn hn1
      have h1' := h1.out
      rw [e1] at h1'
      exact h1'.same (fun b hb i hi => upC_CV rfl b i))
  rw [decide_eq_true hn] at key
  refine Calls.mono key ?_
  rintro e w' ⟨rfl, h1, h2, h3, h4⟩
  exact ⟨rfl, H.next h4 h1 h2 h3, h4⟩
theorem TS.add_no (H : TS w0 k p rc N s c h G a r0 r1 neg m a V W) (hN : N ≤ 16) (ha : a < 2) (hm : m < 4611686018427387904) (hr0 : In64 r0) (hr1 : In64 r1) {j : Nat} (hj : j < N) (n : Int) (hn : n < 0) :
    Calls Tryz.prog 14 #[.pointer (some ⟨rc j, 0, none⟩), .pointer none, .pointer (some ⟨s, 0, none⟩), .int .i64 n] W fun e w' => e = .returned (.int .i64 2) ∧ Hid (TS w0 k p rc N s c h G a (bmp 2 a 0 r0) (bmp 2 a 1 r1) neg (m + 1) a V w') ∧ Hid (Chg (Ds k p G) W w') := by
  have key := radd_open (rc j) k p a s r0 r1 (j : Int) n 2 neg m (fun w' => SlG 130 s c h G (CV a V) 2 N w') (fun x => x ∈ G 0 ++ G 1) W ha hm hr0 hr1 (H.rcs j hj) H.sh H.ph
    (fun x hx => ⟨(H.ap x (Or.inr (Or.inr (Or.inr (Or.inr hx))))).1, (H.ap x (Or.inr (Or.inr (Or.inr (Or.inr hx))))).2, fun e => H.rc_out hj (Or.inl (e ▸ hx)), H.slab.lt hx⟩)
    (fun W1 W2 h1 h2 => h1.stay H.ap h2)
    (fun W1 hW1 => by
      have hs1 : SlG 130 s c h G (CV a V) 2 N W1 := H.slab.stay H.ap (hW1.mono (fun x e => Or.inr e))
      refine Calls.mono (sadd_range s c h G (CV a V) N W1 hs1 a j ha hj hN n hn) ?_
      rintro e w' ⟨rfl, rfl⟩
      exact ⟨rfl, hs1, Chg.refl _ _⟩)
  rw [decide_eq_false (by omega : ¬ 0 ≤ n)] at key
  refine Calls.mono key ?_
  rintro e w' ⟨rfl, h1, h2, h3, h4⟩
  exact ⟨rfl, H.next h4 h1 h2 h3, h4⟩
theorem TS.turn (H : TS w0 k p rc N s c h G a r0 r1 neg m ab V W) (ha : a < 2) (hm : m < 4611686018427387904) :
    Calls Tryz.prog 15 #[.pointer (some ⟨k, 0, none⟩), .pointer none] W fun e w' => e = .returned (.tuple #[.int .i64 (a : Int), .int .i64 0]) ∧ Hid (TS w0 k p rc N s c h G (1 - a) r0 r1 (!neg) 0 ab V w') ∧ Hid (Chg (Ds k p G) W w') := by
  refine Calls.mono (turn_any k p a r0 r1 neg m ha (by omega) (sh_ne_pq H.sh H.ph) W H.sh H.ph) ?_
  rintro e w' ⟨rfl, h1, h2, ⟨w1, h3, h4⟩⟩
  have hc : Chg (fun x => x = k ∨ x = p) W w' := (Chg.of_mid (S := fun x => x = k ∨ x = p) h3 (Or.inl rfl)).trans (Chg.of_mid (S := fun x => x = k ∨ x = p) h4 (Or.inr rfl)) (fun x e => Or.inl e)
  exact ⟨rfl, H.next (hc.mono (fun x e => Or.inr e)) h1 h2 (H.slab.stay H.ap hc), hc.mono (fun x e => Or.inr e)⟩
theorem TS.ref0 (H : TS w0 k p rc N s c h G a r0 r1 neg m ab V W) :
    Calls Tryz.prog 11 #[.pointer (some ⟨k, 0, none⟩), .pointer none, .int .i64 0] W fun e w' => e = .returned (.int .u64 (IntKind.u64.wrap r0)) ∧ Hid (TS w0 k p rc N s c h G a 0 r1 neg m ab V w') ∧ Hid (Chg (Ds k p G) W w') := by
  refine Calls.mono (refused_0 k p a r0 r1 W H.sh) ?_
  rintro e w' ⟨rfl, h1, h3⟩
  have hc : Chg (fun x => x = k ∨ x = p) W w' := Chg.of_mid h3.out (Or.inl rfl)
  exact ⟨rfl, H.next (hc.mono (fun x e => Or.inr e)) h1 ((Chg.of_mid (S := fun x => x = k) h3.out rfl).Pq H.ph (sh_ne_pq H.sh H.ph)) (H.slab.stay H.ap hc), hc.mono (fun x e => Or.inr e)⟩
theorem TS.ref1 (H : TS w0 k p rc N s c h G a r0 r1 neg m ab V W) :
    Calls Tryz.prog 11 #[.pointer (some ⟨k, 0, none⟩), .pointer none, .int .i64 1] W fun e w' => e = .returned (.int .u64 (IntKind.u64.wrap r1)) ∧ Hid (TS w0 k p rc N s c h G a r0 0 neg m ab V w') ∧ Hid (Chg (Ds k p G) W w') := by
  refine Calls.mono (refused_1 k p a r0 r1 W H.sh) ?_
  rintro e w' ⟨rfl, h1, h3⟩
  have hc : Chg (fun x => x = k ∨ x = p) W w' := Chg.of_mid h3.out (Or.inl rfl)
  exact ⟨rfl, H.next (hc.mono (fun x e => Or.inr e)) h1 ((Chg.of_mid (S := fun x => x = k) h3.out rfl).Pq H.ph (sh_ne_pq H.sh H.ph)) (H.slab.stay H.ap hc), hc.mono (fun x e => Or.inr e)⟩
theorem off_chg {S : Nat → Prop} {gs : List Nat} {W W' : World} (h : Off gs W W') (hs : ∀ x ∈ gs, S x) : Chg S W W' := ⟨h.os, h.tape, h.output, h.size, fun k hk hn => h.block k hk (fun q => hn (hs k q))⟩
/-- What N sums come to. -/
def totN (N : Nat) (V : Nat → Int) : Int := (List.range N).foldl (fun x i => rnd (x + V i)) 0
theorem TS.drain (H : TS w0 k p rc N s c h G a r0 r1 neg m ab V W) (hN : N ≤ 16) {b : Nat} (hb : b < 2) (V' : Nat → Int) (hV : ∀ i, i < N → InR (V' i)) (hC : ∀ i, i < N → CV ab V b i = cw (V' i)) (V2 : Nat → Int) (h2 : ∀ b', b' < 2 → ∀ i, i < N → upB (CV ab V) b (fun _ => [0, 0]) b' i = CV ab V2 b' i) (t : Int) (ht : totN N V' = t) :
    Calls Tryz.prog 16 #[.pointer (some ⟨s, 0, none⟩), .pointer none, .int .i64 (b : Int)] W fun e w' => ∃ ao n cap, e = .returned (.tuple #[.agg #[.int .i64 (hiOf t), .int .u64 (loOf t), .slice ao n cap, .int .u64 0, .complex .f64 0 0, .float .f64 0, .float .f64 0], .int .i64 0]) ∧ Hid (TS w0 k p rc N s c h G a r0 r1 neg m ab V2 w') ∧ Hid (Chg (Ds k p G) W w') := by
  refine Calls.mono (drain_slab_c s c h G (CV ab V) N hN W H.slab b hb V' hV hC) ?_
  rintro e w' ⟨ao, n, cap, t', rfl, h1, h3, h4, h5⟩
  have hc : Chg (Ds k p G) W w' := off_chg h5.out (fun x hx => Or.inl (mem_of hb hx))
  have e1 : t' = t := h1.out.trans ht
  subst e1
  have hg : ∀ x ∈ G 0 ++ G 1, x ≠ k ∧ x ≠ p := fun x hx => H.ap x (Or.inr (Or.inr (Or.inr (Or.inr hx))))
  have hc2 : Chg (fun x => x ∈ G 0 ++ G 1) W w' := off_chg h5.out (fun x hx => mem_of hb hx)
  exact ⟨ao, n, cap, rfl, H.next hc (hc2.Sh H.sh (fun q => (hg _ q).1 rfl)) (hc2.Pq H.ph (fun q => (hg _ q).2 rfl)) (h4.out.same h2), hc⟩
theorem TS.below (H : TS w0 k p rc N s c h G a r0 r1 neg m ab V W) {W' : World} (hb : Below W.heap.size W W') : TS w0 k p rc N s c h G a r0 r1 neg m ab V W' := H.next (Chg.of_below hb) ((Chg.of_below (S := fun _ => False) hb).Sh H.sh (fun q => q)) (H.ph.below hb) (H.slab.below hb)
end
end Go.Proofs.YtpllckgpolhafaaGreatDoor
