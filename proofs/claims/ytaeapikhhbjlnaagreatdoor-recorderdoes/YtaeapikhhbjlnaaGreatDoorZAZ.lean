/- RecorderTurns: the state, and what each call makes of it. Own work of the verifier. -/
import Derived.Test.YtaeapikhhbjlnaaGreatDoorZAY
namespace Go.Proofs.YtaeapikhhbjlnaaGreatDoor
open Go.RowKit

/-- One buffer's sums, the other's noughts. -/
def CV (a : Nat) (V : Nat → Int) : Nat → Nat → List Int := fun b i => if b = a then cw (V i) else [0, 0]
theorem CV_at (a i : Nat) (V : Nat → Int) : CV a V a i = cw (V i) := if_pos rfl
def upV (V : Nat → Int) (j : Nat) (x : Int) : Nat → Int := fun i => if i = j then x else V i
/-- The blocks that calls may change. -/
abbrev Ds (k p : Nat) (G : Nat → List Nat) : Nat → Prop := fun x => x ∈ G 0 ++ G 1 ∨ x = k ∨ x = p
/-- What recorders share, N recorders, a counter: its buffer ab holds the sums V. -/
structure TS (w0 : World) (k p : Nat) (rc : Nat → Nat) (N s c : Nat) (h : Nat → Nat) (G : Nat → List Nat) (a : Nat) (r0 r1 : Int) (neg : Bool) (m ab : Nat) (V : Nat → Int) (W : World) : Prop where
  sh : Sh W k p a r0 r1
  ph : Pq W p neg m
  rcs : ∀ j, j < N → Rc W (rc j) k (j : Int) false
  slab : SlG 204 s c h G (CV ab V) 2 N W
  bel : Below w0.heap.size w0 W
  gek : w0.heap.size ≤ k
  gep : w0.heap.size ≤ p
  geg : ∀ g ∈ G 0 ++ G 1, w0.heap.size ≤ g
  ap : ∀ x, (x = s ∨ x = c ∨ x = h 0 ∨ x = h 1 ∨ x ∈ G 0 ++ G 1) → x ≠ k ∧ x ≠ p
theorem row_type {W : World} {g : Nat} {xs : List Int} (h : RowW W g xs) {k : Nat} {cs : Array Value} {t : TypeId} {z : Nat × Nat} (hk : W.heap[k]? = some (.cells cs t z)) (ht : t ≠ 108) : k ≠ g := fun e => by
  subst e
  unfold RowW at h
  rw [h] at hk
  injection hk with hk
  injection hk with _ hk
  exact ht hk.symm
theorem SlG.not_row {T : TypeId} {s c : Nat} {h : Nat → Nat} {G : Nat → List Nat} {C : Nat → Nat → List Int} {wd n : Nat} {w : World} (H : SlG T s c h G C wd n w) {k : Nat} {cs : Array Value} {t : TypeId} {z : Nat × Nat} (hk : w.heap[k]? = some (.cells cs t z)) (ht : t ≠ 108) : k ∉ G 0 ++ G 1 := fun hm => by
  rcases List.mem_append.1 hm with hm | hm
  · obtain ⟨i, hi, e⟩ := List.getElem_of_mem hm
    exact row_type (H.left 0 (by decide) i hi) hk ht e.symm
  · obtain ⟨i, hi, e⟩ := List.getElem_of_mem hm
    exact row_type (H.left 1 (by decide) i hi) hk ht e.symm
theorem SlG.lt {T : TypeId} {s c : Nat} {h : Nat → Nat} {G : Nat → List Nat} {C : Nat → Nat → List Int} {wd n : Nat} {w : World} (H : SlG T s c h G C wd n w) {g : Nat} (hm : g ∈ G 0 ++ G 1) : g < w.heap.size := by
  rcases List.mem_append.1 hm with hm | hm
  · obtain ⟨i, hi, rfl⟩ := List.getElem_of_mem hm
    exact (H.left 0 (by decide) i hi).lt
  · obtain ⟨i, hi, rfl⟩ := List.getElem_of_mem hm
    exact (H.left 1 (by decide) i hi).lt
section
variable {w0 : World} {k p : Nat} {rc : Nat → Nat} {N s c : Nat} {h : Nat → Nat} {G : Nat → List Nat} {a : Nat} {r0 r1 : Int} {neg : Bool} {m ab : Nat} {V : Nat → Int} {W : World}
theorem TS.ds (H : TS w0 k p rc N s c h G a r0 r1 neg m ab V W) (x : Nat) (hx : Ds k p G x) : w0.heap.size ≤ x := by
  rcases hx with hx | rfl | rfl
  · exact H.geg x hx
  · exact H.gek
  · exact H.gep
theorem TS.rc_out (H : TS w0 k p rc N s c h G a r0 r1 neg m ab V W) {j : Nat} (hj : j < N) : ¬ Ds k p G (rc j) := fun hx => by
  rcases hx with hx | hx | hx
  · exact H.slab.not_row (H.rcs j hj) (by decide) hx
  · have h1 := H.rcs j hj
    have h2 := H.sh
    unfold Rc at h1; unfold Sh at h2
    rw [hx, h2] at h1
    injection h1 with h1
    injection h1 with h1
    have := congrArg Array.size h1
    simp at this
  · exact rc_ne_ph (H.rcs j hj) H.ph hx
/-- The state behind a change of the blocks that calls may change. -/
theorem TS.next (H : TS w0 k p rc N s c h G a r0 r1 neg m ab V W) {a' : Nat} {r0' r1' : Int} {neg' : Bool} {m' ab' : Nat} {V' : Nat → Int} {W' : World} (hc : Chg (Ds k p G) W W') (hs : Sh W' k p a' r0' r1') (hp : Pq W' p neg' m') (hg : SlG 204 s c h G (CV ab' V') 2 N W') : TS w0 k p rc N s c h G a' r0' r1' neg' m' ab' V' W' :=
  ⟨hs, hp, fun j hj => hc.Rc (H.rcs j hj) (H.rc_out hj), hg, H.bel.trans (hc.below H.bel.size (fun x hx => H.ds x hx)), H.gek, H.gep, H.geg, H.ap⟩
theorem SlG.stay (H : SlG 204 s c h G (CV ab V) 2 N W) (ap : ∀ x, (x = s ∨ x = c ∨ x = h 0 ∨ x = h 1 ∨ x ∈ G 0 ++ G 1) → x ≠ k ∧ x ≠ p) {W' : World} (hc : Chg (fun x => x = k ∨ x = p) W W') : SlG 204 s c h G (CV ab V) 2 N W' := H.chg fun x hx hm => hc.block x hx (fun e => by
  rcases e with e | e
  · exact (ap x hm).1 e
  · exact (ap x hm).2 e)
theorem upC_CV {b i : Nat} {x : Int} (hb : b = ab) (b' i' : Nat) : upC (CV ab V) b i (cw x) b' i' = CV ab (upV V i x) b' i' := by
  subst hb
  unfold upC CV upV
  by_cases e : b' = b
  · subst e
    by_cases e2 : i' = i
    · subst e2; simp
    · simp [e2]
  · simp [e]
theorem TS.add_ok (H : TS w0 k p rc N s c h G a r0 r1 neg m a V W) (hN : N ≤ 16) (ha : a < 2) (hm : m < 4611686018427387904) (hr0 : In64 r0) (hr1 : In64 r1) {j : Nat} (hj : j < N) (n : Int) (hn : 0 ≤ n) (hn1 : n < 9223372036854775808) (hV : 0 ≤ V j) (hV1 : V j + n < 170141183460469231731687303715884105728) :
    Calls Tryz.prog 30 #[.pointer (some ⟨rc j, 0, none⟩), .pointer none, .pointer (some ⟨s, 0, none⟩), .int .i64 n] W fun e w' => e = .returned (.int .i64 0) ∧ Hid (TS w0 k p rc N s c h G a r0 r1 neg (m + 1) a (upV V j (V j + n)) w') ∧ Hid (Chg (Ds k p G) W w') := by
  have hin : InR (V j) := ⟨by omega, by omega⟩
  have hrow : CV a V a j = [wrap64 (loOf (V j)), hiOf (V j)] := CV_at a j V
  have key := radd_open (rc j) k p a s r0 r1 (j : Int) n 0 neg m (fun w' => SlG 204 s c h G (CV a (upV V j (V j + n))) 2 N w') (fun x => x ∈ G 0 ++ G 1) W ha hm hr0 hr1 (H.rcs j hj) H.sh H.ph
    (fun x hx => ⟨(H.ap x (Or.inr (Or.inr (Or.inr (Or.inr hx))))).1, (H.ap x (Or.inr (Or.inr (Or.inr (Or.inr hx))))).2, fun e => H.rc_out hj (Or.inl (e ▸ hx)), H.slab.lt hx⟩)
    (fun W1 W2 h1 h2 => h1.stay H.ap h2)
    (fun W1 hW1 => by
      have hs1 : SlG 204 s c h G (CV a V) 2 N W1 := H.slab.stay H.ap (hW1.mono (fun x e => Or.inr e))
      refine Calls.mono (sadd_ok s c h G (CV a V) N W1 hs1 a j ha hj hN _ _ n hrow (cw_in hin).1 (cw_in hin).2 hn hn1) ?_
      rintro e w' ⟨rfl, h1, ⟨g, hg, h2⟩⟩
      refine ⟨rfl, ?_, Chg.of_mid h2 hg⟩
      have e1 : adW [wrap64 (loOf (V j)), hiOf (V j)] n = cw (V j + n) := cw_add (V j) n hV hV1 hn hn1
      have h1' := h1.out
      rw [e1] at h1'
      exact h1'.same (fun b hb i hi => upC_CV rfl b i))
  rw [decide_eq_true hn] at key
  refine Calls.mono key ?_
  rintro e w' ⟨rfl, h1, h2, h3, h4⟩
  exact ⟨rfl, H.next h4 h1 h2 h3, h4⟩
theorem TS.add_no (H : TS w0 k p rc N s c h G a r0 r1 neg m a V W) (hN : N ≤ 16) (ha : a < 2) (hm : m < 4611686018427387904) (hr0 : In64 r0) (hr1 : In64 r1) {j : Nat} (hj : j < N) (n : Int) (hn : n < 0) :
    Calls Tryz.prog 30 #[.pointer (some ⟨rc j, 0, none⟩), .pointer none, .pointer (some ⟨s, 0, none⟩), .int .i64 n] W fun e w' => e = .returned (.int .i64 2) ∧ Hid (TS w0 k p rc N s c h G a (bmp 2 a 0 r0) (bmp 2 a 1 r1) neg (m + 1) a V w') ∧ Hid (Chg (Ds k p G) W w') := by
  have key := radd_open (rc j) k p a s r0 r1 (j : Int) n 2 neg m (fun w' => SlG 204 s c h G (CV a V) 2 N w') (fun x => x ∈ G 0 ++ G 1) W ha hm hr0 hr1 (H.rcs j hj) H.sh H.ph
    (fun x hx => ⟨(H.ap x (Or.inr (Or.inr (Or.inr (Or.inr hx))))).1, (H.ap x (Or.inr (Or.inr (Or.inr (Or.inr hx))))).2, fun e => H.rc_out hj (Or.inl (e ▸ hx)), H.slab.lt hx⟩)
    (fun W1 W2 h1 h2 => h1.stay H.ap h2)
    (fun W1 hW1 => by
      have hs1 : SlG 204 s c h G (CV a V) 2 N W1 := H.slab.stay H.ap (hW1.mono (fun x e => Or.inr e))
      refine Calls.mono (sadd_range s c h G (CV a V) N W1 hs1 a j ha hj hN n hn) ?_
      rintro e w' ⟨rfl, rfl⟩
      exact ⟨rfl, hs1, Chg.refl _ _⟩)
  rw [decide_eq_false (by omega : ¬ 0 ≤ n)] at key
  refine Calls.mono key ?_
  rintro e w' ⟨rfl, h1, h2, h3, h4⟩
  exact ⟨rfl, H.next h4 h1 h2 h3, h4⟩
theorem TS.turn (H : TS w0 k p rc N s c h G a r0 r1 neg m ab V W) (ha : a < 2) (hm : m < 4611686018427387904) :
    Calls Tryz.prog 31 #[.pointer (some ⟨k, 0, none⟩), .pointer none] W fun e w' => e = .returned (.tuple #[.int .i64 (a : Int), .int .i64 0]) ∧ Hid (TS w0 k p rc N s c h G (1 - a) r0 r1 (!neg) 0 ab V w') ∧ Hid (Chg (Ds k p G) W w') := by
  refine Calls.mono (turn_any k p a r0 r1 neg m ha (by omega) (sh_ne_pq H.sh H.ph) W H.sh H.ph) ?_
  rintro e w' ⟨rfl, h1, h2, ⟨w1, h3, h4⟩⟩
  have hc : Chg (fun x => x = k ∨ x = p) W w' := (Chg.of_mid (S := fun x => x = k ∨ x = p) h3 (Or.inl rfl)).trans (Chg.of_mid (S := fun x => x = k ∨ x = p) h4 (Or.inr rfl)) (fun x e => Or.inl e)
  exact ⟨rfl, H.next (hc.mono (fun x e => Or.inr e)) h1 h2 (H.slab.stay H.ap hc), hc.mono (fun x e => Or.inr e)⟩
theorem TS.ref0 (H : TS w0 k p rc N s c h G a r0 r1 neg m ab V W) :
    Calls Tryz.prog 13 #[.pointer (some ⟨k, 0, none⟩), .pointer none, .int .i64 0] W fun e w' => e = .returned (.int .u64 (IntKind.u64.wrap r0)) ∧ Hid (TS w0 k p rc N s c h G a 0 r1 neg m ab V w') ∧ Hid (Chg (Ds k p G) W w') := by
  refine Calls.mono (refused_0 k p a r0 r1 W H.sh) ?_
  rintro e w' ⟨rfl, h1, h3⟩
  have hc : Chg (fun x => x = k ∨ x = p) W w' := Chg.of_mid h3.out (Or.inl rfl)
  exact ⟨rfl, H.next (hc.mono (fun x e => Or.inr e)) h1 ((Chg.of_mid (S := fun x => x = k) h3.out rfl).Pq H.ph (sh_ne_pq H.sh H.ph)) (H.slab.stay H.ap hc), hc.mono (fun x e => Or.inr e)⟩
theorem off_chg {S : Nat → Prop} {gs : List Nat} {W W' : World} (h : Off gs W W') (hs : ∀ x ∈ gs, S x) : Chg S W W' := ⟨h.os, h.tape, h.output, h.size, fun k hk hn => h.block k hk (fun q => hn (hs k q))⟩
/-- What N sums come to. -/
def totN (N : Nat) (V : Nat → Int) : Int := (List.range N).foldl (fun x i => rnd (x + V i)) 0
theorem TS.drain (H : TS w0 k p rc N s c h G a r0 r1 neg m ab V W) (hN : N ≤ 16) {b : Nat} (hb : b < 2) (V' : Nat → Int) (hV : ∀ i, i < N → InR (V' i)) (hC : ∀ i, i < N → CV ab V b i = cw (V' i)) (V2 : Nat → Int) (h2 : ∀ b', b' < 2 → ∀ i, i < N → upB (CV ab V) b (fun _ => [0, 0]) b' i = CV ab V2 b' i) (t : Int) (ht : totN N V' = t) :
    Calls Tryz.prog 32 #[.pointer (some ⟨s, 0, none⟩), .pointer none, .int .i64 (b : Int)] W fun e w' => ∃ ao n cap, e = .returned (.tuple #[.agg #[.int .i64 (hiOf t), .int .u64 (loOf t), .slice ao n cap, .int .u64 0, .complex .f64 0 0, .float .f64 0, .float .f64 0], .int .i64 0]) ∧ Hid (TS w0 k p rc N s c h G a r0 r1 neg m ab V2 w') ∧ Hid (Chg (Ds k p G) W w') := by
  refine Calls.mono (drain_slab_c s c h G (CV ab V) N hN W H.slab b hb V' hV hC) ?_
  rintro e w' ⟨ao, n, cap, t', rfl, h1, h3, h4, h5⟩
  have hc : Chg (Ds k p G) W w' := off_chg h5.out (fun x hx => Or.inl (mem_of hb hx))
  have e1 : t' = t := h1.out.trans ht
  subst e1
  have hg : ∀ x ∈ G 0 ++ G 1, x ≠ k ∧ x ≠ p := fun x hx => H.ap x (Or.inr (Or.inr (Or.inr (Or.inr hx))))
  have hc2 : Chg (fun x => x ∈ G 0 ++ G 1) W w' := off_chg h5.out (fun x hx => mem_of hb hx)
  exact ⟨ao, n, cap, rfl, H.next hc (hc2.Sh H.sh (fun q => (hg _ q).1 rfl)) (hc2.Pq H.ph (fun q => (hg _ q).2 rfl)) (h4.out.same h2), hc⟩
theorem TS.below (H : TS w0 k p rc N s c h G a r0 r1 neg m ab V W) {W' : World} (hb : Below W.heap.size W W') : TS w0 k p rc N s c h G a r0 r1 neg m ab V W' := H.next (Chg.of_below hb) ((Chg.of_below (S := fun _ => False) hb).Sh H.sh (fun q => q)) (H.ph.below hb) (H.slab.below hb)
end
end Go.Proofs.YtaeapikhhbjlnaaGreatDoor
/- A SLAB WITH ANY CONTENTS: Observe. Own work of the verifier. -/
namespace Go.Proofs.YtaeapikhhbjlnaaGreatDoor
open Go.RowKit

open Classical in
/-- How many low bits a bucket does not look at. -/
noncomputable def kOf (P v : Nat) : Nat := if h : ∃ k, IsK P v k then h.choose else 0
theorem kOf_eq {P v k : Nat} (h : IsK P v k) : kOf P v = k := by
  have e : ∃ k, IsK P v k := ⟨k, h⟩
  unfold kOf
  rw [dif_pos e]
  exact isK_uniq e.choose_spec h
/-- The bucket of a value. -/
noncomputable def ixF (p v : Nat) : Nat := idx (2 ^ p) v (kOf (2 ^ p) v)
theorem ixF_lt {p v : Nat} (hp : p ≤ 14) (h1 : 1 ≤ p) (hv : v < 9223372036854775808) : ixF p v < Lg (p : Int) := by
  obtain ⟨k, hk⟩ := isK_ex (2 ^ p) v (Nat.two_pow_pos p)
  unfold ixF
  rw [kOf_eq hk]
  have := (idx_top hp (by omega) hk).1
  unfold Lg
  rw [if_pos ⟨by omega, by omega⟩]
  simpa using this
theorem cindex_yes (p v : Nat) (h1 : 1 ≤ p) (h2 : p ≤ 14) (hv : v < 9223372036854775808) (w : World) :
    Calls Tryz.prog 322 #[.int .i64 (p : Int), .int .i64 (v : Int)] w fun e w' => e = .returned (.tuple #[.int .i64 (ixF p v : Nat), .int .i64 0]) ∧ Hid (Below w.heap.size w w') := by
  refine Calls.mono (index_yes p v h1 h2 hv w) ?_
  rintro e w' ⟨⟨n, rfl⟩, k, hk, rfl⟩
  exact ⟨by unfold ixF; rw [kOf_eq hk], ⟨rfl, rfl, rfl, Nat.le_refl _, fun _ _ => rfl⟩⟩
theorem cindex_neg (p : Nat) (v : Int) (h1 : 1 ≤ p) (h2 : p ≤ 14) (hv : v < 0) (w : World) :
    Calls Tryz.prog 322 #[.int .i64 (p : Int), .int .i64 v] w fun e w' => e = .returned (.tuple #[.int .i64 0, .int .i64 2]) ∧ Hid (Below w.heap.size w w') := by
  refine Calls.mono (index_neg p v h1 h2 hv w) ?_
  rintro e w' ⟨⟨n, rfl⟩, rfl⟩
  exact ⟨rfl, ⟨rfl, rfl, rfl, Nat.le_refl _, fun _ _ => rfl⟩⟩
/-- One more in a bucket. -/
def inc (l : List Int) (i : Nat) : List Int := l.set i (wrap64 (l.getD i 0 + 1))
theorem inc_len (l : List Int) (i : Nat) : (inc l i).length = l.length := by simp [inc]
/-- What a row of a histogram becomes. -/
noncomputable def obW (p : Nat) (l : List Int) (v : Nat) : List Int := adW (inc l (2 + ixF p v)) (v : Int)
theorem obW_len (p : Nat) (l : List Int) (v : Nat) : (obW p l v).length = l.length := by unfold obW; rw [adW_len, inc_len]
theorem Chg.mid {g : Nat} {a b : World} (h : Chg (fun x => x = g) a b) : Mid g (g + 1) a b := ⟨h.os, h.tape, h.output, h.size, fun k hk hn => h.block k hk (fun e => hn (by omega))⟩
theorem chg_bm {g : Nat} {a b c : World} (h : Below a.heap.size a b) (k : Mid g (g + 1) b c) : Chg (fun x => x = g) a c := (Chg.of_below h).trans (Chg.of_mid (S := fun x => x = g) k rfl) (fun _x e => Or.inl e)
/-- All of a row are words. -/
def Ws (l : List Int) : Prop := ∀ x ∈ l, In64 x
theorem Ws.set {l : List Int} (h : Ws l) {i : Nat} {x : Int} (hx : In64 x) : Ws (l.set i x) := fun y hy => by
  rcases List.mem_or_eq_of_mem_set hy with hy | rfl
  · exact h y hy
  · exact hx
theorem Ws.inc {l : List Int} (h : Ws l) (i : Nat) : Ws (inc l i) := h.set (in_wrap _)
theorem Ws.adW {l : List Int} (h : Ws l) (n : Int) : Ws (adW l n) := by
  unfold Go.Proofs.YtaeapikhhbjlnaaGreatDoor.adW
  split
  · intro y hy
    rcases List.mem_cons.1 hy with rfl | hy
    · exact in_wrap _
    · rcases List.mem_cons.1 hy with rfl | hy
      · split
        · exact in_wrap _
        · exact h _ (by simp)
      · exact h _ (by simp [hy])
  · exact h
theorem in_getD {l : List Int} (h : Ws l) (i : Nat) : In64 (l.getD i 0) := by
  by_cases hi : i < l.length
  · rw [List.getD_eq_getElem?_getD, List.getElem?_eq_getElem hi]; exact h _ (List.getElem_mem hi)
  · rw [List.getD_eq_getElem?_getD, List.getElem?_eq_none (by omega)]; constructor <;> decide
set_option maxHeartbeats 2000000 in
theorem hobs_ok (c h g n cap p : Nat) (b i v : Nat) (xs : List Int) (hp1 : 1 ≤ p) (hp2 : p ≤ 14) (hb : b < 2) (hi' : i < n) (hn : n ≤ 16) (hx : xs.length = Lg (p : Int) + 2) (hws : Ws xs) (hv : v < 9223372036854775808) (w : World) (hp : w.cell? ⟨c, 2, none⟩ = some (.int .i64 (p : Int))) (h0 : w.cell? ⟨c, b, none⟩ = some (.slice (some ⟨h, 0, none⟩) n cap)) (h1 : w.cell? ⟨h, i, none⟩ = some (slc xs.length g)) (hr : RowW w g xs) :
    Calls Tryz.prog 320 #[.pointer (some ⟨c, 0, none⟩), .pointer none, .int .i64 (b : Int), .int .i64 (i : Int), .int .i64 (v : Int)] w fun e w' => e = .returned (.int .i64 0) ∧ Hid (RowW w' g (obW p xs v)) ∧ Hid (Chg (fun x => x = g) w w') := by
  have hix := ixF_lt hp2 hp1 hv
  have hLg := Lg_le (p : Int)
  have HI : Hid (∀ W, _) := cindex_yes p v hp1 hp2 hv
  obtain ⟨q, hq⟩ : ∃ q, q = ixF p v := ⟨_, rfl⟩
  obtain ⟨q2, hq2⟩ : ∃ q2, q2 = 2 + q := ⟨_, rfl⟩
  have e2 : (2 : Int) + (q : Int) = (q2 : Int) := by omega
  rw [← hq] at HI
  have hql : q2 < xs.length := by omega
  have hqi : (q2 : Int) < (xs.length : Int) := Int.ofNat_lt.2 hql
  have hw2 : wrap64 (q2 : Int) = (q2 : Int) := by
    have : q2 < 1048580 := by omega
    clear hqi e2
    unfold wrap64; omega
  obtain ⟨m, hm⟩ : ∃ m, m = xs.length := ⟨_, rfl⟩
  have HR : Hid (∀ W, Below w.heap.size w W → Calls Tryz.prog 314 #[.pointer (some ⟨c, 0, none⟩), .int .i64 (b : Int), .int .i64 (i : Int), .bool true] W fun e w' => e = .returned (.tuple #[.slice (some ⟨g, 0, none⟩) m m, .int .i64 0]) ∧ w' = W) := fun W hW => by
    have := row_ok c h g n cap xs.length b i hb hi' hn W ((hW.cell (p := ⟨c, b, none⟩) (lt_of_cell h0)).trans h0) ((hW.cell (p := ⟨h, i, none⟩) (lt_of_cell h1)).trans h1)
    rw [hm]; exact this
  have HA : Hid (∀ W, Below w.heap.size w W → Calls Tryz.prog 98 #[.pointer (some ⟨g, q2, none⟩), .pointer none, .int .i64 1] W fun e w' => (∃ x, e = .returned (.int .i64 x)) ∧ Hid (RowW w' g (inc xs q2)) ∧ Hid (Chg (fun x => x = g) w w')) := fun W hW => by
    have hx0 : xs.getD q2 0 = xs[q2] := by rw [List.getD_eq_getElem?_getD, List.getElem?_eq_getElem hql]; rfl
    have hin := in_getD hws q2
    refine Calls.mono (wadd_row g q2 xs (xs.getD q2 0) 1 W (hr.below hW hr.lt) hql hx0.symm hin.1 hin.2 (inc xs q2) rfl) ?_
    rintro e w' ⟨rfl, k1, k2⟩
    exact ⟨⟨_, rfl⟩, k1, chg_bm hW k2.out⟩
  have HS : Hid (∀ W, RowW W g (inc xs q2) → Chg (fun x => x = g) w W → Calls Tryz.prog 315 #[.pointer none, .slice (some ⟨g, 0, none⟩) m m, .int .i64 (v : Int)] W fun e w' => e = .returned (.tuple #[]) ∧ Hid (RowW w' g (adW (inc xs q2) (v : Int))) ∧ Hid (Chg (fun x => x = g) w w')) := fun W hW hc => by
    have hl : (inc xs q2).length = m := by rw [inc_len, hm]
    rcases hE : inc xs q2 with _ | ⟨lo, _ | ⟨hi, rest⟩⟩
    · rw [hE] at hl; simp at hl; omega
    · rw [hE] at hl; simp at hl; omega
    · have hw := hws.inc q2
      rw [hE] at hW hw hl
      have := addSum_any g m lo hi (v : Int) rest W hW (hw lo (by simp)) (hw hi (by simp)) (by omega) (by omega)
      rw [show rest.length + 2 = m by simpa using hl] at this
      refine Calls.mono this ?_
      rintro e w' ⟨rfl, k1, k2⟩
      exact ⟨rfl, k1, hc.trans (Chg.of_mid (S := fun x => x = g) k2.out rfl) (fun x e => Or.inl e)⟩
  have HQ : Hid (obW p xs v = adW (inc xs q2) (v : Int)) := by unfold Hid obW; rw [hq2, hq]
  rw [← hm] at hqi
  clear hr h0 h1 hq hq2 hm hx hql hix hws
  go_enter Tryz.func320, Tryz.ntmps320
  go_wp2_with (first
    | (go_at_call 322; with_reducible refine Calls.mono (HI.out _) ?_; rintro e w1 ⟨rfl, HB1⟩)
    | (go_at_call 314; with_reducible refine Calls.mono (HR.out _ HB1.out) ?_; rintro e w2 ⟨rfl, rfl⟩)
    | (go_at_call 98; with_reducible refine Calls.mono (HA.out _ HB1.out) ?_; rintro e w3 ⟨⟨x3, rfl⟩, HR3, HC3⟩)
    | (go_at_call 315; with_reducible refine Calls.mono (HS.out _ HR3.out HC3.out) ?_; rintro e w4 ⟨rfl, HR4, HC4⟩))
  go_ret
  rw [HQ.out]
  exact ⟨rfl, HR4, HC4⟩
set_option maxRecDepth 10000 in
theorem hobs_no (c p : Nat) (b i v er : Int) (wr : Bool) (w : World) (hp1 : 1 ≤ p) (hp2 : p ≤ 14) (hv : v < 9223372036854775808) (hp : w.cell? ⟨c, 2, none⟩ = some (.int .i64 (p : Int))) (hwr : wr = decide (0 ≤ v))
    (hm : Hid (∀ W, Below w.heap.size w W → Calls Tryz.prog 314 #[.pointer (some ⟨c, 0, none⟩), .int .i64 b, .int .i64 i, .bool wr] W fun e w' => e = .returned (.tuple #[.slice none 0 0, .int .i64 er]) ∧ w' = W)) (he : ¬ er = 0) :
    Calls Tryz.prog 320 #[.pointer (some ⟨c, 0, none⟩), .pointer none, .int .i64 b, .int .i64 i, .int .i64 v] w fun e w' => e = .returned (.int .i64 er) ∧ Hid (Below w.heap.size w w') := by
  by_cases h0 : 0 ≤ v
  · rw [decide_eq_true h0] at hwr
    subst hwr
    obtain ⟨u, rfl⟩ := Int.eq_ofNat_of_zero_le h0
    have HI : Hid (∀ W, _) := cindex_yes p u hp1 hp2 (by omega)
    generalize ixF p u = q at HI
    clear hv h0 hp1 hp2
    go_enter Tryz.func320, Tryz.ntmps320
    go_wp2_with (first
      | (go_at_call 322; with_reducible refine Calls.mono (HI.out _) ?_; rintro e w1 ⟨rfl, HB1⟩)
      | (go_at_call 314; with_reducible refine Calls.mono (hm.out _ HB1.out) ?_; rintro e w2 ⟨rfl, rfl⟩))
    go_ret
    exact ⟨rfl, HB1⟩
  · rw [decide_eq_false h0] at hwr
    subst hwr
    have HI : Hid (∀ W, _) := cindex_neg p v hp1 hp2 (by omega)
    go_enter Tryz.func320, Tryz.ntmps320
    go_wp2_with (first
      | (go_at_call 322; with_reducible refine Calls.mono (HI.out _) ?_; rintro e w1 ⟨rfl, HB1⟩)
      | (go_at_call 314; with_reducible refine Calls.mono (hm.out _ HB1.out) ?_; rintro e w2 ⟨rfl, rfl⟩))
    go_ret
    exact ⟨rfl, HB1⟩
end Go.Proofs.YtaeapikhhbjlnaaGreatDoor
/- A SLAB WITH ANY CONTENTS: floats in words; Sample. Own work of the verifier. -/
namespace Go.Proofs.YtaeapikhhbjlnaaGreatDoor
open Go.RowKit

/-- A float's bits, as a word holds them. -/
def fw64 (b : Nat) : Int := wrap64 (b : Int)
theorem fw64_u (b : Nat) (hb : b < 18446744073709551616) : IntKind.u64.wrap (fw64 b) = (b : Int) := uw_wrap _ (by omega) (by omega)
theorem loadF_any (g i : Nat) (xs : List Int) (b : Nat) (hb : b < 18446744073709551616) (W : World) (h : RowW W g xs) (hi : i < xs.length) (hx : xs[i] = fw64 b) :
    Calls Tryz.prog 332 #[.pointer none, .pointer (some ⟨g, i, none⟩)] W fun e w' => e = .returned (.float .f64 b) ∧ w' = W := by
  have hc := h.cell i hi
  rw [hx] at hc
  have HS : Hid (∀ _ : Unit, _) := fun _ => wload_any g i (fw64 b) W hc
  have h2 := Pr.mf64from
  have hu := fw64_u b hb
  generalize fw64 b = z at *
  clear h hc hx
  go_enter Tryz.func332, Tryz.ntmps332
  go_wp2_with (go_at_call 100; with_reducible refine Calls.mono (HS.out ()) ?_; rintro e w1 ⟨rfl, rfl⟩)
  go_ret
  exact ⟨rfl, rfl⟩
theorem storeF_any (g i : Nat) (xs : List Int) (b : Nat) (W : World) (h : RowW W g xs) (hi : i < xs.length) :
    Calls Tryz.prog 333 #[.pointer none, .pointer (some ⟨g, i, none⟩), .float .f64 b] W fun e w' => e = .returned (.tuple #[]) ∧ Hid (RowW w' g (xs.set i (fw64 b))) ∧ Hid (Mid g (g + 1) W w') := by
  have HS : Hid (∀ _ : Unit, Calls Tryz.prog 74 #[.pointer (some ⟨g, i, none⟩), .pointer none, .int .i64 (wrap64 (b : Int))] W fun e w' => e = .returned (.tuple #[]) ∧ w' = W.setCell ⟨g, i, none⟩ (.int .i64 (wrap64 (b : Int)))) := fun _ => wstore_any g i _ (wrap64 (b : Int)) W (h.cell i hi) (h.fr i)
  have HQ : Hid (RowW (W.setCell ⟨g, i, none⟩ (.int .i64 (wrap64 (b : Int)))) g (xs.set i (fw64 b))) := h.set i _
  have h1 := Pr.mf64bits
  clear h
  go_enter Tryz.func333, Tryz.ntmps333
  go_wp2_with (go_at_call 74; with_reducible refine Calls.mono (HS.out ()) ?_; rintro e w1 ⟨rfl, rfl⟩)
  first | go_end0 | refine bodyPost_ret (results_none rfl _ _ _) rfl ?_
  exact ⟨rfl, HQ, mid_set g i _⟩
theorem swapF_any (g i : Nat) (xs : List Int) (b y : Nat) (hy : y < 18446744073709551616) (W : World) (h : RowW W g xs) (hi : i < xs.length) (hx : xs[i] = fw64 y) :
    Calls Tryz.prog 328 #[.pointer none, .pointer (some ⟨g, i, none⟩), .float .f64 b] W fun e w' => e = .returned (.float .f64 y) ∧ Hid (RowW w' g (xs.set i (fw64 b))) ∧ Hid (Mid g (g + 1) W w') := by
  have HS : Hid (∀ _ : Unit, Calls Tryz.prog 46 #[.pointer (some ⟨g, i, none⟩), .pointer none, .int .i64 (wrap64 (b : Int))] W fun e w' => e = .returned (.int .i64 (fw64 y)) ∧ Hid (RowW w' g (xs.set i (fw64 b))) ∧ Hid (Mid g (g + 1) W w')) := fun _ => wswap_row g i xs (fw64 y) (wrap64 (b : Int)) W h hi hx _ rfl
  have h1 := Pr.mf64bits
  have h2 := Pr.mf64from
  have hu := fw64_u y hy
  generalize fw64 y = z at *
  clear h hx
  go_enter Tryz.func328, Tryz.ntmps328
  go_wp2_with (go_at_call 46; with_reducible refine Calls.mono (HS.out ()) ?_; rintro e w1 ⟨rfl, HR1, HM1⟩)
  go_ret
  exact ⟨rfl, HR1, HM1⟩
/-- May a float be recorded? -/
def mayB (x : Nat) : Bool := decide (x % 9223372036854775808 ≤ 8930638061075693568)
/-- A summary's row. -/
def sRow (n : Int) (s c mn mx : Nat) : List Int := [n, fw64 s, fw64 c, fw64 mn, fw64 mx]
theorem g5_0 (a b c d e : Int) : ([a, b, c, d, e] : List Int)[0] = a := rfl
theorem g5_1 (a b c d e : Int) : ([a, b, c, d, e] : List Int)[1] = b := rfl
theorem g5_2 (a b c d e : Int) : ([a, b, c, d, e] : List Int)[2] = c := rfl
theorem g5_3 (a b c d e : Int) : ([a, b, c, d, e] : List Int)[3] = d := rfl
theorem g5_4 (a b c d e : Int) : ([a, b, c, d, e] : List Int)[4] = e := rfl
theorem sRow_l (n : Int) (s c mn mx : Nat) : (sRow n s c mn mx).length = 5 := rfl
theorem sRow_0 (n n' : Int) (s c mn mx : Nat) : (sRow n s c mn mx).set 0 n' = sRow n' s c mn mx := by simp [sRow]
theorem sRow_1 (n : Int) (s c mn mx r : Nat) : (sRow n s c mn mx).set 1 (fw64 r) = sRow n r c mn mx := by simp [sRow]
theorem sRow_2 (n : Int) (s c mn mx r : Nat) : (sRow n s c mn mx).set 2 (fw64 r) = sRow n s r mn mx := by simp [sRow]
theorem sRow_3 (n : Int) (s c mn mx r : Nat) : (sRow n s c mn mx).set 3 (fw64 r) = sRow n s c r mx := by simp [sRow]
theorem sRow_4 (n : Int) (s c mn mx r : Nat) : (sRow n s c mn mx).set 4 (fw64 r) = sRow n s c mn r := by simp [sRow]
set_option maxHeartbeats 2000000 in
theorem addPair_any (g cap : Nat) (n : Int) (s c mn mx x : Nat) (hs : s < 18446744073709551616) (hc : c < 18446744073709551616) (hx : x < 18446744073709551616) (W : World) (h : RowW W g (sRow n s c mn mx)) :
    Calls Tryz.prog 331 #[.pointer none, .slice (some ⟨g, 0, none⟩) 5 cap, .float .f64 x] W fun e w' => e = .returned (.tuple #[]) ∧ ∃ r d, Hid (RowW w' g (sRow n r d mn mx)) ∧ Hid (Chg (fun y => y = g) W w') ∧ Hid (r < 18446744073709551616 ∧ d < 18446744073709551616 ∧ Soft.one r = Soft.fa s x ∧ Soft.one d = Soft.fa c (Soft.fl s x)) := by
  have HL1 : Hid (∀ _ : Unit, _) := fun _ => loadF_any g 1 (sRow n s c mn mx) s hs W h (by rw [sRow_l]; decide) (g5_1 _ _ _ _ _)
  have HL2 : Hid (∀ _ : Unit, _) := fun _ => loadF_any g 2 (sRow n s c mn mx) c hc W h (by rw [sRow_l]; decide) (g5_2 _ _ _ _ _)
  have HA : Hid (∀ _ : Unit, Calls Tryz.prog 334 #[.complex .f64 s c, .float .f64 x] W fun e w' => ∃ r d, e = .returned (.complex .f64 r d) ∧ Hid (Below W.heap.size W w') ∧ Hid (r < 18446744073709551616 ∧ d < 18446744073709551616 ∧ Soft.one r = Soft.fa s x ∧ Soft.one d = Soft.fa c (Soft.fl s x))) := fun _ => by
    refine Calls.mono (Pr.padd_any s c x hs hc hx W) ?_
    rintro e w' ⟨r, d, m, rfl, rfl, q⟩
    exact ⟨r, d, rfl, ⟨rfl, rfl, rfl, Nat.le_refl _, fun _ _ => rfl⟩, q⟩
  have HS1 : Hid (∀ (V : World) (r : Nat), Below W.heap.size W V → Calls Tryz.prog 333 #[.pointer none, .pointer (some ⟨g, 1, none⟩), .float .f64 r] V fun e w' => e = .returned (.tuple #[]) ∧ Hid (RowW w' g (sRow n r c mn mx)) ∧ Hid (Chg (fun y => y = g) W w')) := fun V r hV => by
    refine Calls.mono (storeF_any g 1 (sRow n s c mn mx) r V (h.below hV h.lt) (by rw [sRow_l]; decide)) ?_
    rintro e w' ⟨rfl, q1, q2⟩
    rw [sRow_1] at q1
    exact ⟨rfl, q1, chg_bm hV q2.out⟩
  have HS2 : Hid (∀ (V : World) (r d : Nat), RowW V g (sRow n r c mn mx) → Chg (fun y => y = g) W V → Calls Tryz.prog 333 #[.pointer none, .pointer (some ⟨g, 2, none⟩), .float .f64 d] V fun e w' => e = .returned (.tuple #[]) ∧ Hid (RowW w' g (sRow n r d mn mx)) ∧ Hid (Chg (fun y => y = g) W w')) := fun V r d hV hc => by
    refine Calls.mono (storeF_any g 2 (sRow n r c mn mx) d V hV (by rw [sRow_l]; decide)) ?_
    rintro e w' ⟨rfl, q1, q2⟩
    rw [sRow_2] at q1
    exact ⟨rfl, q1, hc.trans (Chg.of_mid (S := fun y => y = g) q2.out rfl) (fun x e => Or.inl e)⟩
  clear h hs hc hx
  go_enter Tryz.func331, Tryz.ntmps331
  go_wp2_with (first
    | (go_at_call 332; with_reducible refine Calls.mono (HL1.out ()) ?_; rintro e w1 ⟨rfl, rfl⟩)
    | (go_at_call 332; with_reducible refine Calls.mono (HL2.out ()) ?_; rintro e w1 ⟨rfl, rfl⟩)
    | (go_at_call 334; with_reducible refine Calls.mono (HA.out ()) ?_; rintro e w2 ⟨r, d, rfl, HB2, HQ2⟩)
    | (go_at_call 333; with_reducible refine Calls.mono (HS1.out _ _ HB2.out) ?_; rintro e w3 ⟨rfl, HR3, HC3⟩)
    | (go_at_call 333; with_reducible refine Calls.mono (HS2.out _ _ _ HR3.out HC3.out) ?_; rintro e w4 ⟨rfl, HR4, HC4⟩))
  first | go_end0 | refine bodyPost_ret (results_none rfl _ _ _) rfl ?_
  exact ⟨rfl, r, d, HR4, HC4, HQ2⟩
end Go.Proofs.YtaeapikhhbjlnaaGreatDoor
