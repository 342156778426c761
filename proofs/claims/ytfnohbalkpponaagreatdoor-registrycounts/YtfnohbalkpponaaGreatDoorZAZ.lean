/- RecorderTurns: the state, and what each call makes of it. Own work of the verifier. -/
import Derived.Test.YtfnohbalkpponaaGreatDoorZAY
namespace Go.Proofs.YtfnohbalkpponaaGreatDoor
open Go.RowKit

/-- One buffer's sums, the other's noughts. -/
def CV (a : Nat) (V : Nat → Int) : Nat → Nat → List Int := fun b i => if b = a then cw (V i) else [0, 0]
/-- The blocks that calls may change. -/
abbrev Ds (k p : Nat) (G : Nat → List Nat) : Nat → Prop := fun x => x ∈ G 0 ++ G 1 ∨ x = k ∨ x = p
/-- What recorders share, N recorders, a counter: its buffer ab holds the sums V. -/
structure TS (w0 : World) (k p : Nat) (rc : Nat → Nat) (N s c : Nat) (h : Nat → Nat) (G : Nat → List Nat) (a : Nat) (r0 r1 : Int) (neg : Bool) (m ab : Nat) (V : Nat → Int) (W : World) : Prop where
  sh : Sh W k p a r0 r1
  ph : Pq W p neg m
  rcs : ∀ j, j < N → Rc W (rc j) k (j : Int) false
  slab : SlG 293 s c h G (CV ab V) 2 N W
  bel : Below w0.heap.size w0 W
  gek : w0.heap.size ≤ k
  gep : w0.heap.size ≤ p
  geg : ∀ g ∈ G 0 ++ G 1, w0.heap.size ≤ g
  ap : ∀ x, (x = s ∨ x = c ∨ x = h 0 ∨ x = h 1 ∨ x ∈ G 0 ++ G 1) → x ≠ k ∧ x ≠ p
theorem row_type {W : World} {g : Nat} {xs : List Int} (h : RowW W g xs) {k : Nat} {cs : Array Value} {t : TypeId} {z : Nat × Nat} (hk : W.heap[k]? = some (.cells cs t z)) (ht : t ≠ 90) : k ≠ g := fun e => by
  subst e
  unfold RowW at h
  rw [h] at hk
  injection hk with hk
  injection hk with _ hk
  exact ht hk.symm
theorem SlG.not_row {T : TypeId} {s c : Nat} {h : Nat → Nat} {G : Nat → List Nat} {C : Nat → Nat → List Int} {wd n : Nat} {w : World} (H : SlG T s c h G C wd n w) {k : Nat} {cs : Array Value} {t : TypeId} {z : Nat × Nat} (hk : w.heap[k]? = some (.cells cs t z)) (ht : t ≠ 90) : k ∉ G 0 ++ G 1 := fun hm => by
  rcases List.mem_append.1 hm with hm | hm
  · obtain ⟨i, hi, e⟩ := List.getElem_of_mem hm
    exact row_type (H.left 0 (by decide) i hi) hk ht e.symm
  · obtain ⟨i, hi, e⟩ := List.getElem_of_mem hm
    exact row_type (H.left 1 (by decide) i hi) hk ht e.symm
theorem SlG.lt {T : TypeId} {s c : Nat} {h : Nat → Nat} {G : Nat → List Nat} {C : Nat → Nat → List Int} {wd n : Nat} {w : World} (H : SlG T s c h G C wd n w) {g : Nat} (hm : g ∈ G 0 ++ G 1) : g < w.heap.size := by
  rcases List.mem_append.1 hm with hm | hm
  · obtain ⟨i, hi, rfl⟩ := List.getElem_of_mem hm
    exact (H.left 0 (by decide) i hi).lt
  · obtain ⟨i, hi, rfl⟩ := List.getElem_of_mem hm
    exact (H.left 1 (by decide) i hi).lt
section
variable {w0 : World} {k p : Nat} {rc : Nat → Nat} {N s c : Nat} {h : Nat → Nat} {G : Nat → List Nat} {a : Nat} {r0 r1 : Int} {neg : Bool} {m ab : Nat} {V : Nat → Int} {W : World}
theorem TS.ds (H : TS w0 k p rc N s c h G a r0 r1 neg m ab V W) (x : Nat) (hx : Ds k p G x) : w0.heap.size ≤ x := by
  rcases hx with hx | rfl | rfl
  · exact H.geg x hx
  · exact H.gek
  · exact H.gep
theorem TS.rc_out (H : TS w0 k p rc N s c h G a r0 r1 neg m ab V W) {j : Nat} (hj : j < N) : ¬ Ds k p G (rc j) := fun hx => by
  rcases hx with hx | hx | hx
  · exact H.slab.not_row (H.rcs j hj) (by decide) hx
  · have h1 := H.rcs j hj
    have h2 := H.sh
    unfold Rc at h1; unfold Sh at h2
    rw [hx, h2] at h1
    injection h1 with h1
    injection h1 with h1
    have := congrArg Array.size h1
    simp at this
  · exact rc_ne_ph (H.rcs j hj) H.ph hx
/-- The state behind a change of the blocks that calls may change. -/
theorem TS.next (H : TS w0 k p rc N s c h G a r0 r1 neg m ab V W) {a' : Nat} {r0' r1' : Int} {neg' : Bool} {m' ab' : Nat} {V' : Nat → Int} {W' : World} (hc : Chg (Ds k p G) W W') (hs : Sh W' k p a' r0' r1') (hp : Pq W' p neg' m') (hg : SlG 293 s c h G (CV ab' V') 2 N W') : TS w0 k p rc N s c h G a' r0' r1' neg' m' ab' V' W' :=
  ⟨hs, hp, fun j hj => hc.Rc (H.rcs j hj) (H.rc_out hj), hg, H.bel.trans (hc.below H.bel.size (fun x hx => H.ds x hx)), H.gek, H.gep, H.geg, H.ap⟩
theorem SlG.stay (H : SlG 293 s c h G (CV ab V) 2 N W) (ap : ∀ x, (x = s ∨ x = c ∨ x = h 0 ∨ x = h 1 ∨ x ∈ G 0 ++ G 1) → x ≠ k ∧ x ≠ p) {W' : World} (hc : Chg (fun x => x = k ∨ x = p) W W') : SlG 293 s c h G (CV ab V) 2 N W' := H.chg fun x hx hm => hc.block x hx (fun e => by
  rcases e with e | e
  · exact (ap x hm).1 e
  · exact (ap x hm).2 e)
theorem TS.turn (H : TS w0 k p rc N s c h G a r0 r1 neg m ab V W) (ha : a < 2) (hm : m < 4611686018427387904) :
    Calls Tryz.prog 85 #[.pointer (some ⟨k, 0, none⟩), .pointer none] W fun e w' => e = .returned (.tuple #[.int .i64 (a : Int), .int .i64 0]) ∧ Hid (TS w0 k p rc N s c h G (1 - a) r0 r1 (!neg) 0 ab V w') ∧ Hid (Chg (Ds k p G) W w') := by
  refine Calls.mono (turn_any k p a r0 r1 neg m ha (by omega) (sh_ne_pq H.sh H.ph) W H.sh H.ph) ?_
  rintro e w' ⟨rfl, h1, h2, ⟨w1, h3, h4⟩⟩
  have hc : Chg (fun x => x = k ∨ x = p) W w' := (Chg.of_mid (S := fun x => x = k ∨ x = p) h3 (Or.inl rfl)).trans (Chg.of_mid (S := fun x => x = k ∨ x = p) h4 (Or.inr rfl)) (fun x e => Or.inl e)
  exact ⟨rfl, H.next (hc.mono (fun x e => Or.inr e)) h1 h2 (H.slab.stay H.ap hc), hc.mono (fun x e => Or.inr e)⟩
theorem off_chg {S : Nat → Prop} {gs : List Nat} {W W' : World} (h : Off gs W W') (hs : ∀ x ∈ gs, S x) : Chg S W W' := ⟨h.os, h.tape, h.output, h.size, fun k hk hn => h.block k hk (fun q => hn (hs k q))⟩
/-- What N sums come to. -/
def totN (N : Nat) (V : Nat → Int) : Int := (List.range N).foldl (fun x i => rnd (x + V i)) 0
theorem TS.drain (H : TS w0 k p rc N s c h G a r0 r1 neg m ab V W) (hN : N ≤ 16) {b : Nat} (hb : b < 2) (V' : Nat → Int) (hV : ∀ i, i < N → InR (V' i)) (hC : ∀ i, i < N → CV ab V b i = cw (V' i)) (V2 : Nat → Int) (h2 : ∀ b', b' < 2 → ∀ i, i < N → upB (CV ab V) b (fun _ => [0, 0]) b' i = CV ab V2 b' i) (t : Int) (ht : totN N V' = t) :
    Calls Tryz.prog 86 #[.pointer (some ⟨s, 0, none⟩), .pointer none, .int .i64 (b : Int)] W fun e w' => ∃ ao n cap, e = .returned (.tuple #[.agg #[.int .i64 (hiOf t), .int .u64 (loOf t), .slice ao n cap, .int .u64 0, .complex .f64 0 0, .float .f64 0, .float .f64 0], .int .i64 0]) ∧ Hid (TS w0 k p rc N s c h G a r0 r1 neg m ab V2 w') ∧ Hid (Chg (Ds k p G) W w') := by
  refine Calls.mono (drain_slab_c s c h G (CV ab V) N hN W H.slab b hb V' hV hC) ?_
  rintro e w' ⟨ao, n, cap, t', rfl, h1, h3, h4, h5⟩
  have hc : Chg (Ds k p G) W w' := off_chg h5.out (fun x hx => Or.inl (mem_of hb hx))
  have e1 : t' = t := h1.out.trans ht
  subst e1
  have hg : ∀ x ∈ G 0 ++ G 1, x ≠ k ∧ x ≠ p := fun x hx => H.ap x (Or.inr (Or.inr (Or.inr (Or.inr hx))))
  have hc2 : Chg (fun x => x ∈ G 0 ++ G 1) W w' := off_chg h5.out (fun x hx => mem_of hb hx)
  exact ⟨ao, n, cap, rfl, H.next hc (hc2.Sh H.sh (fun q => (hg _ q).1 rfl)) (hc2.Pq H.ph (fun q => (hg _ q).2 rfl)) (h4.out.same h2), hc⟩
theorem TS.below (H : TS w0 k p rc N s c h G a r0 r1 neg m ab V W) {W' : World} (hb : Below W.heap.size W W') : TS w0 k p rc N s c h G a r0 r1 neg m ab V W' := H.next (Chg.of_below hb) ((Chg.of_below (S := fun _ => False) hb).Sh H.sh (fun q => q)) (H.ph.below hb) (H.slab.below hb)
end
end Go.Proofs.YtfnohbalkpponaaGreatDoor
/- A SLAB WITH ANY CONTENTS: Observe. Own work of the verifier. -/
namespace Go.Proofs.YtfnohbalkpponaaGreatDoor
open Go.RowKit

open Classical in
/-- How many low bits a bucket does not look at. -/
noncomputable def kOf (P v : Nat) : Nat := if h : ∃ k, IsK P v k then h.choose else 0
/-- The bucket of a value. -/
noncomputable def ixF (p v : Nat) : Nat := idx (2 ^ p) v (kOf (2 ^ p) v)
/-- One more in a bucket. -/
def inc (l : List Int) (i : Nat) : List Int := l.set i (wrap64 (l.getD i 0 + 1))
theorem inc_len (l : List Int) (i : Nat) : (inc l i).length = l.length := by simp [inc]
/-- What a row of a histogram becomes. -/
noncomputable def obW (p : Nat) (l : List Int) (v : Nat) : List Int := adW (inc l (2 + ixF p v)) (v : Int)
theorem obW_len (p : Nat) (l : List Int) (v : Nat) : (obW p l v).length = l.length := by unfold obW; rw [adW_len, inc_len]
theorem Chg.mid {g : Nat} {a b : World} (h : Chg (fun x => x = g) a b) : Mid g (g + 1) a b := ⟨h.os, h.tape, h.output, h.size, fun k hk hn => h.block k hk (fun e => hn (by omega))⟩
/-- All of a row are words. -/
def Ws (l : List Int) : Prop := ∀ x ∈ l, In64 x
theorem Ws.set {l : List Int} (h : Ws l) {i : Nat} {x : Int} (hx : In64 x) : Ws (l.set i x) := fun y hy => by
  rcases List.mem_or_eq_of_mem_set hy with hy | rfl
  · exact h y hy
  · exact hx
theorem Ws.inc {l : List Int} (h : Ws l) (i : Nat) : Ws (inc l i) := h.set (in_wrap _)
theorem Ws.adW {l : List Int} (h : Ws l) (n : Int) : Ws (adW l n) := by
  unfold Go.Proofs.YtfnohbalkpponaaGreatDoor.adW
  split
  · intro y hy
    rcases List.mem_cons.1 hy with rfl | hy
    · exact in_wrap _
    · rcases List.mem_cons.1 hy with rfl | hy
      · split
        · exact in_wrap _
        · exact h _ (by simp)
      · exact h _ (by simp [hy])
  · exact h
end Go.Proofs.YtfnohbalkpponaaGreatDoor
/- A SLAB WITH ANY CONTENTS: floats in words; Sample. Own work of the verifier. -/
namespace Go.Proofs.YtfnohbalkpponaaGreatDoor
open Go.RowKit

/-- A float's bits, as a word holds them. -/
def fw64 (b : Nat) : Int := wrap64 (b : Int)
theorem fw64_u (b : Nat) (hb : b < 18446744073709551616) : IntKind.u64.wrap (fw64 b) = (b : Int) := uw_wrap _ (by omega) (by omega)
theorem swapF_any (g i : Nat) (xs : List Int) (b y : Nat) (hy : y < 18446744073709551616) (W : World) (h : RowW W g xs) (hi : i < xs.length) (hx : xs[i] = fw64 y) :
    Calls Tryz.prog 316 #[.pointer none, .pointer (some ⟨g, i, none⟩), .float .f64 b] W fun e w' => e = .returned (.float .f64 y) ∧ Hid (RowW w' g (xs.set i (fw64 b))) ∧ Hid (Mid g (g + 1) W w') := by
  have HS : Hid (∀ _ : Unit, Calls Tryz.prog 133 #[.pointer (some ⟨g, i, none⟩), .pointer none, .int .i64 (wrap64 (b : Int))] W fun e w' => e = .returned (.int .i64 (fw64 y)) ∧ Hid (RowW w' g (xs.set i (fw64 b))) ∧ Hid (Mid g (g + 1) W w')) := fun _ => wswap_row g i xs (fw64 y) (wrap64 (b : Int)) W h hi hx _ rfl
  have h1 := Pr.mf64bits
  have h2 := Pr.mf64from
  have hu := fw64_u y hy
  generalize fw64 y = z at *
  clear h hx
  go_enter Tryz.func316, Tryz.ntmps316
  go_wp2_with (go_at_call 133; with_reducible refine Calls.mono (HS.out ()) ?_; rintro e w1 ⟨rfl, HR1, HM1⟩)
  go_ret
  exact ⟨rfl, HR1, HM1⟩
/-- May a float be recorded? -/
def mayB (x : Nat) : Bool := decide (x % 9223372036854775808 ≤ 8930638061075693568)
/-- A summary's row. -/
def sRow (n : Int) (s c mn mx : Nat) : List Int := [n, fw64 s, fw64 c, fw64 mn, fw64 mx]
theorem g5_0 (a b c d e : Int) : ([a, b, c, d, e] : List Int)[0] = a := rfl
theorem g5_1 (a b c d e : Int) : ([a, b, c, d, e] : List Int)[1] = b := rfl
theorem g5_2 (a b c d e : Int) : ([a, b, c, d, e] : List Int)[2] = c := rfl
theorem g5_3 (a b c d e : Int) : ([a, b, c, d, e] : List Int)[3] = d := rfl
theorem g5_4 (a b c d e : Int) : ([a, b, c, d, e] : List Int)[4] = e := rfl
theorem sRow_l (n : Int) (s c mn mx : Nat) : (sRow n s c mn mx).length = 5 := rfl
theorem sRow_0 (n n' : Int) (s c mn mx : Nat) : (sRow n s c mn mx).set 0 n' = sRow n' s c mn mx := by simp [sRow]
theorem sRow_1 (n : Int) (s c mn mx r : Nat) : (sRow n s c mn mx).set 1 (fw64 r) = sRow n r c mn mx := by simp [sRow]
theorem sRow_2 (n : Int) (s c mn mx r : Nat) : (sRow n s c mn mx).set 2 (fw64 r) = sRow n s r mn mx := by simp [sRow]
theorem sRow_3 (n : Int) (s c mn mx r : Nat) : (sRow n s c mn mx).set 3 (fw64 r) = sRow n s c r mx := by simp [sRow]
theorem sRow_4 (n : Int) (s c mn mx r : Nat) : (sRow n s c mn mx).set 4 (fw64 r) = sRow n s c mn r := by simp [sRow]
end Go.Proofs.YtfnohbalkpponaaGreatDoor
