/- May; the summary's Sample. Own work of the verifier. -/
import Derived.Test.YtfnohbalkpponaaGreatDoorZAZ
namespace Go.Proofs.YtfnohbalkpponaaGreatDoor
open Go.RowKit

theorem clear_sign (x : Nat) (h : x < 18446744073709551616) : bits .andNot .u64 (x : Int) 9223372036854775808 = ((x % 9223372036854775808 : Nat) : Int) := by
  have := u64_andNot_nat x 9223372036854775808 (by omega) (by decide)
  rw [show ((9223372036854775808 : Nat) : Int) = 9223372036854775808 from rfl] at this
  rw [this, show 18446744073709551615 - 9223372036854775808 = 2 ^ 63 - 1 from by decide, Nat.and_two_pow_sub_one_eq_mod]
theorem abs_any (x : Nat) (h : x < 18446744073709551616) (w : World) : Calls Tryz.prog 151 #[.float .f64 x] w fun e w' => e = .returned (.float .f64 (x % 9223372036854775808)) ∧ w' = w := by
  have hc := clear_sign x h
  have h1 := Pr.mf64bits
  have h2 := Pr.mf64from
  generalize x % 9223372036854775808 = y at *
  go_enter Tryz.func151, Tryz.ntmps151
  go_wp2
  go_ret
  exact ⟨rfl, rfl⟩
/-- The lesser end, the greater end. -/
def mnF (x y : Nat) : Nat := if Pr.sg (Pr.rk x) (Pr.rk y) < 0 then x else y
def mxF (x y : Nat) : Nat := if 0 < Pr.sg (Pr.rk x) (Pr.rk y) then x else y
end Go.Proofs.YtfnohbalkpponaaGreatDoor
/- THE HISTOGRAM's row is emptied, whatever it holds. Own work of the verifier. -/
namespace Go.Proofs.YtfnohbalkpponaaGreatDoor
open Go.RowKit

/-- The counts of some words, those that are not 0. -/
def cL : Nat → List Int → List Cn
  | _, [] => []
  | k, x :: r => if x = 0 then cL (k + 1) r else ((k : Int), (uw x).toNat) :: cL (k + 1) r
theorem cL_snoc (l : List Int) (x : Int) : ∀ k, cL k (l ++ [x]) = cL k l ++ (if x = 0 then [] else [(((k + l.length : Nat) : Int), (uw x).toNat)]) := by
  induction l with
  | nil => intro k; by_cases h : x = 0 <;> simp [cL, h]
  | cons y l ih =>
    intro k
    rw [List.cons_append]
    simp only [cL]
    rw [ih (k + 1), List.length_cons, show k + 1 + l.length = k + (l.length + 1) by omega]
    split <;> rfl
theorem cL_len (l : List Int) : ∀ k, (cL k l).length ≤ l.length := by
  induction l with
  | nil => intro k; exact Nat.le_refl _
  | cons y l ih =>
    intro k
    simp only [cL]
    have := ih (k + 1)
    split <;> simp <;> omega
theorem cL_in (l : List Int) : ∀ k, ∀ c ∈ cL k l, (k : Int) ≤ c.1 ∧ c.1 < ((k + l.length : Nat) : Int) ∧ c.2 < 18446744073709551616 ∧ (Ws l → c.2 ≠ 0) := by
  induction l with
  | nil => intro k c hc; cases hc
  | cons y l ih =>
    intro k c hc
    simp only [cL] at hc
    have hcase : c ∈ cL (k + 1) l ∨ (y ≠ 0 ∧ c = ((k : Int), (uw y).toNat)) := by
      split at hc
      · exact Or.inl hc
      · rename_i hy
        rcases List.mem_cons.1 hc with h | h
        · exact Or.inr ⟨hy, h⟩
        · exact Or.inl h
    rcases hcase with h | ⟨hy, rfl⟩
    · obtain ⟨h1, h2, h3, h4⟩ := ih (k + 1) c h
      exact ⟨by omega, by simp only [List.length_cons]; omega, h3, fun hw => h4 (fun x hx => hw x (List.mem_cons_of_mem _ hx))⟩
    · refine ⟨Int.le_refl _, by simp only [List.length_cons]; omega, by have := uw_eq y; omega, fun hw => ?_⟩
      have hy2 := hw y (by simp)
      have := uw_eq y
      unfold In64 at hy2
      omega
theorem cL_rise (l : List Int) : ∀ k, Rise (cL k l) := by
  induction l with
  | nil => intro k; exact List.Pairwise.nil
  | cons y l ih =>
    intro k
    simp only [cL]
    split
    · exact ih _
    · exact List.Pairwise.cons (fun c hc => by have := (cL_in l (k + 1) c hc).1; simp only; omega) (ih _)
/-- How many some words come to. -/
def nS (l : List Int) : Nat := l.foldl (fun t x => (t + (uw x).toNat) % 18446744073709551616) 0
theorem nS_snoc (l : List Int) (x : Int) : nS (l ++ [x]) = (nS l + (uw x).toNat) % 18446744073709551616 := by unfold nS; rw [List.foldl_append]; rfl
theorem nS_lt (l : List Int) : nS l < 18446744073709551616 := by
  rcases List.eq_nil_or_concat l with rfl | ⟨l', x, rfl⟩
  · decide
  · rw [List.concat_eq_append, nS_snoc]; omega
theorem take_snoc {l : List Int} {i : Nat} (h : i < l.length) : l.take (i + 1) = l.take i ++ [l[i]] := List.take_succ_eq_append_getElem h
/-- Where the emptying of a histogram's row stands. -/
structure HdJ (g k : Nat) (hi lo : Int) (cs : List Int) (w : World) (i : Nat) (wr : World) : Prop where
  row : RowW wr g (0 :: 0 :: (List.replicate i 0 ++ cs.drop i))
  mid : Mid g (g + 1) w wr
  res : wr.heap[w.heap.size]? = some (.cells #[.int .i64 0, .int .u64 0, .slice none 0 0, .int .u64 0, .complex .f64 0 0, .float .f64 0, .float .f64 0] 184 (0, 0))
  prt : ∃ ao n cap, wr.heap[k]? = some (.cells #[.int .i64 hi, .int .u64 lo, .slice ao n cap, .int .u64 (nS (cs.take i) : Nat), .complex .f64 0 0, .float .f64 0, .float .f64 0] 184 (0, 0)) ∧ wr.ownsRow w.heap.size 160 2 (.slice ao n cap) (cL 0 (cs.take i)).length (fl (cL 0 (cs.take i)))
theorem own_sl {W : World} {B : Nat} {e : TypeId} {s n : Nat} {v : Value} {xs : List Value} (h : W.ownsRow B e s v n xs) : ∃ ao m cap, v = .slice ao m cap := by
  rcases h.2 with ⟨q, _⟩ | ⟨g, cap, cur, q, _⟩
  · exact ⟨_, _, _, q⟩
  · exact ⟨_, _, _, q⟩
theorem own_nty {W : World} {B p : Nat} {e t : TypeId} {s n : Nat} {v : Value} {xs : List Value} {cs : Array Value} {z : Nat × Nat} (h : W.ownsRow B e s v n xs) (hp : W.heap[p]? = some (.cells cs t z)) (hne : e ≠ t) : v.ownBlock ≠ some p := by
  rcases h.2 with ⟨k, _⟩ | ⟨g1, c1, cur, k, _, hg, _⟩
  · rw [k]; simp [Value.ownBlock]
  · rw [k]
    intro e1
    simp only [Value.ownBlock, Option.some.injEq] at e1
    subst e1
    rw [hg] at hp
    cases hp
    exact hne rfl
theorem own_mid_ne {B n pk s : Nat} {e : TypeId} {w w' : World} {v : Value} {xs : List Value} (h : w.ownsRow B e s v n xs) (hm : Mid pk (pk + 1) w w') (hne : v.ownBlock ≠ some pk) : w'.ownsRow B e s v n xs := by
  refine ⟨h.1, ?_⟩
  rcases h.2 with hn | ⟨g, cap, cur, rfl, hb, hgg, rest⟩
  · exact .inl hn
  · refine .inr ⟨g, cap, cur, rfl, hb, ?_, rest⟩
    have hng : g ≠ pk := fun e => hne (by rw [e]; rfl)
    rw [hm.block g (Array.getElem?_eq_some_iff.1 hgg).1 (by omega)]
    exact hgg
theorem seven_all {W : World} {b : Nat} {u0 u1 u2 u3 u4 u5 u6 : Value} {t : TypeId} (h : Hid (W.heap[b]? = some (.cells #[u0, u1, u2, u3, u4, u5, u6] t (0, 0)))) (o : Obj) : (W.alloc o).cell? ⟨b, 2, none⟩ = some u2 := by
  have h2 : (W.alloc o).heap[b]? = some (.cells #[u0, u1, u2, u3, u4, u5, u6] t (0, 0)) := ((bel1 W o).block b (Array.getElem?_eq_some_iff.1 h.out).1).trans h.out
  exact (seven_cells (W := W.alloc o) h2).2.2.1
theorem rep_drop {cs : List Int} {i : Nat} (h : i < cs.length) : (List.replicate i 0 ++ cs.drop i).set i 0 = List.replicate (i + 1) 0 ++ cs.drop (i + 1) := by
  rw [List.drop_eq_getElem_cons h, List.set_append_right _ _ (by simp), List.length_replicate, Nat.sub_self, List.set_cons_zero, List.replicate_succ', List.append_assoc]
  rfl
theorem rep_get {cs : List Int} {i : Nat} (h : i < cs.length) (hl : i < (List.replicate i 0 ++ cs.drop i).length) : (List.replicate i 0 ++ cs.drop i)[i] = cs[i] := by
  rw [List.getElem_append_right (by simp)]
  simp
/-- A count, as a part gets it. -/
theorem HdJ.grow {g k : Nat} {hi lo : Int} {cs : List Int} {w w2 w' : World} {i : Nat} {ao ao' : Option Addr} {n n' cap cap' : Nat} (hg : g < w.heap.size) (hk : w.heap.size < k)
    (hrow : RowW w2 g (0 :: 0 :: (List.replicate (i + 1) 0 ++ cs.drop (i + 1)))) (hmid : Mid g (g + 1) w w2) (hres : w2.heap[w.heap.size]? = some (.cells #[.int .i64 0, .int .u64 0, .slice none 0 0, .int .u64 0, .complex .f64 0 0, .float .f64 0, .float .f64 0] 184 (0, 0)))
    {N : Int} (hprt : w2.heap[k]? = some (.cells #[.int .i64 hi, .int .u64 lo, .slice ao n cap, .int .u64 N, .complex .f64 0 0, .float .f64 0, .float .f64 0] 184 (0, 0))) {m : Nat} {xs : List Value} (hown : w2.ownsRow w.heap.size 160 2 (.slice ao n cap) m xs) (o : Obj)
    (hown' : w'.ownsRow w.heap.size 160 2 (.slice ao' n' cap') (cL 0 (cs.take (i + 1))).length (fl (cL 0 (cs.take (i + 1))))) (hgr : (w2.alloc o).grownBy w' (Value.slice ao n cap).ownBlock) :
    w'.heap[k]? = some (.cells #[.int .i64 hi, .int .u64 lo, .slice ao n cap, .int .u64 N, .complex .f64 0 0, .float .f64 0, .float .f64 0] 184 (0, 0)) ∧
    HdJ g k hi lo cs w (i + 1) ((w'.setCell ⟨k, 2, none⟩ (.slice ao' n' cap')).setCell ⟨k, 3, none⟩ (.int .u64 (nS (cs.take (i + 1)) : Nat))) := by
  have hs := hmid.size
  have hkl := (Array.getElem?_eq_some_iff.1 hprt).1
  have hne : some k ≠ (Value.slice ao n cap).ownBlock := fun e => own_nty hown hprt (by decide) e.symm
  have hnr : some w.heap.size ≠ (Value.slice ao n cap).ownBlock := fun e => own_nty hown hres (by decide) e.symm
  have hge : ∀ x, (Value.slice ao n cap).ownBlock = some x → w.heap.size ≤ x := fun x hx => (hown.lt x hx).1
  have b1 : ∀ x, x < w2.heap.size → some x ≠ (Value.slice ao n cap).ownBlock → w'.heap[x]? = w2.heap[x]? := fun x hx hn => (hgr.block x (by simp; omega) hn).trans ((bel1 w2 o).block x hx)
  have p1 : w'.heap[k]? = _ := (b1 k hkl hne).trans hprt
  refine ⟨p1, ?_, ?_, ?_, ao', n', cap', ?_, ?_⟩
  · have r1 : RowW w' g (0 :: 0 :: (List.replicate (i + 1) 0 ++ cs.drop (i + 1))) := by
      have := b1 g hrow.lt (fun e => by have := hge g e.symm; omega)
      unfold RowW at *; rw [this]; exact hrow
    exact (r1.other (by show g ≠ k; omega) _).other (by show g ≠ k; omega) _
  · have m1 : Mid g (g + 1) w w' := ⟨hgr.os.trans hmid.os, hgr.tape.trans hmid.tape, hgr.output.trans hmid.output, by have := hgr.size; simp at this; omega, fun x hx hn => (b1 x (by omega) (fun e => by have := hge x e.symm; omega)).trans (hmid.block x hx hn)⟩
    exact (m1.setCell (p := ⟨k, 2, none⟩) (Or.inr (by show w.heap.size ≤ k; omega)) _).setCell (p := ⟨k, 3, none⟩) (Or.inr (by show w.heap.size ≤ k; omega)) _
  · rw [heap_setCell_other _ _ w.heap.size _ (by show w.heap.size ≠ k; omega), heap_setCell_other _ _ w.heap.size _ (by show w.heap.size ≠ k; omega)]
    exact (b1 _ (by omega) hnr).trans hres
  · rw [heap_setCell_same _ k 3 _ _ _ (heap_setCell_same w' k 2 _ _ _ p1)]; rfl
  · have hne' : some k ≠ (Value.slice ao' n' cap').ownBlock := fun e => own_nty hown' p1 (by decide) e.symm
    have hne2 : ∀ (W : World) (u : Value) (j : Nat), W.grownBy (W.setCell ⟨k, j, none⟩ u) (some k) := fun W u j => ⟨rfl, rfl, rfl, by simp, fun x _ hn => heap_setCell_other W _ x _ (fun e => hn (by rw [e]))⟩
    exact World.ownsRow.kept (World.ownsRow.kept hown' (hne2 _ _ _) (Or.inr fun e => hne' e.symm)) (hne2 _ _ _) (Or.inr fun e => hne' e.symm)
end Go.Proofs.YtfnohbalkpponaaGreatDoor
/- THE HISTOGRAM's row is emptied, whatever it holds: the walk. Own work of the verifier. -/
namespace Go.Proofs.YtfnohbalkpponaaGreatDoor
open Go.RowKit

theorem rep_get2 {cs : List Int} {i j : Nat} (h : i < cs.length) (hj : j = i + 1 + 1) (hl : j < (0 :: 0 :: (List.replicate i 0 ++ cs.drop i)).length) : (0 :: 0 :: (List.replicate i 0 ++ cs.drop i))[j] = cs[i] := by
  subst hj
  simp only [List.getElem_cons_succ]
  exact rep_get h _
theorem hdj_next {g k : Nat} {hi lo : Int} {cs : List Int} {w wr w2 : World} {i : Nat} (H : HdJ g k hi lo cs w i wr) (hg : g < w.heap.size) (hk : w.heap.size < k) (_hi' : i < cs.length) (_hrow : RowW w2 g (0 :: 0 :: (List.replicate (i + 1) 0 ++ cs.drop (i + 1)))) (hm : Mid g (g + 1) wr w2) :
    Mid g (g + 1) w w2 ∧ w2.heap[w.heap.size]? = some (.cells #[.int .i64 0, .int .u64 0, .slice none 0 0, .int .u64 0, .complex .f64 0 0, .float .f64 0, .float .f64 0] 184 (0, 0)) ∧ ∃ ao n cap, Hid (w2.heap[k]? = some (.cells #[.int .i64 hi, .int .u64 lo, .slice ao n cap, .int .u64 (nS (cs.take i) : Nat), .complex .f64 0 0, .float .f64 0, .float .f64 0] 184 (0, 0))) ∧ Hid (w2.ownsRow w.heap.size 160 2 (.slice ao n cap) (cL 0 (cs.take i)).length (fl (cL 0 (cs.take i)))) := by
  obtain ⟨ao, n, cap, h1, h2⟩ := H.prt
  have hs := H.mid.size
  have hkl := (Array.getElem?_eq_some_iff.1 h1).1
  refine ⟨H.mid.trans hm, (hm.block _ (Array.getElem?_eq_some_iff.1 H.res).1 (by omega)).trans H.res, ao, n, cap, (hm.block k hkl (by omega)).trans h1, own_mid h2 hm (by omega)⟩
theorem hdj_skip {g k : Nat} {hi lo : Int} {cs : List Int} {w w2 : World} {i : Nat} {ao : Option Addr} {n cap : Nat} (hi' : i < cs.length) (h0 : cs[i] = 0) (hrow : RowW w2 g (0 :: 0 :: (List.replicate (i + 1) 0 ++ cs.drop (i + 1)))) (hm : Mid g (g + 1) w w2) (hres : w2.heap[w.heap.size]? = some (.cells #[.int .i64 0, .int .u64 0, .slice none 0 0, .int .u64 0, .complex .f64 0 0, .float .f64 0, .float .f64 0] 184 (0, 0)))
    (hp : Hid (w2.heap[k]? = some (.cells #[.int .i64 hi, .int .u64 lo, .slice ao n cap, .int .u64 (nS (cs.take i) : Nat), .complex .f64 0 0, .float .f64 0, .float .f64 0] 184 (0, 0)))) (ho : Hid (w2.ownsRow w.heap.size 160 2 (.slice ao n cap) (cL 0 (cs.take i)).length (fl (cL 0 (cs.take i))))) : HdJ g k hi lo cs w (i + 1) w2 := by
  have e1 : cL 0 (cs.take (i + 1)) = cL 0 (cs.take i) := by rw [take_snoc hi', cL_snoc, if_pos h0, List.append_nil]
  have e2 : nS (cs.take (i + 1)) = nS (cs.take i) := by
    have := nS_lt (cs.take i)
    rw [take_snoc hi', nS_snoc, h0, show (uw 0).toNat = 0 by decide, Nat.add_zero, Nat.mod_eq_of_lt this]
  exact ⟨hrow, hm, hres, ao, n, cap, by rw [e2]; exact hp.out, by rw [e1]; exact ho.out⟩
set_option maxRecDepth 10000 in
set_option maxHeartbeats 8000000 in
theorem hdrain_any (p : Value) (g : Nat) (lo hi : Int) (cs : List Int) (hm : cs.length ≤ 16777216) (hws : Ws cs) (w : World) (h : RowW w g (lo :: hi :: cs)) :
    Calls Tryz.prog 306 #[p, .pointer none, .slice (some ⟨g, 0, none⟩) (cs.length + 2) (cs.length + 2)] w fun e w' => ∃ ao n cap, e = .returned (.agg #[.int .i64 hi, .int .u64 (uw lo), .slice ao n cap, .int .u64 (nS cs : Nat), .complex .f64 0 0, .float .f64 0, .float .f64 0]) ∧ Hid (w'.ownsRow w.heap.size 160 2 (.slice ao n cap) (cL 0 cs).length (fl (cL 0 cs))) ∧ Hid (RowW w' g (0 :: 0 :: List.replicate cs.length 0)) ∧ Hid (Mid g (g + 1) w w') := by
  obtain ⟨m, hm0⟩ : ∃ m, m = cs.length := ⟨_, rfl⟩
  have HS : Hid (∀ W, RowW W g (lo :: hi :: cs) → Calls Tryz.prog 304 #[.pointer none, .slice (some ⟨g, 0, none⟩) (m + 2) (m + 2)] W fun e w' => e = .returned (.agg #[.int .i64 hi, .int .u64 (uw lo)]) ∧ Hid (RowW w' g (0 :: 0 :: cs)) ∧ Hid (Mid g (g + 1) W w')) := fun W hW => by
    rw [hm0]; exact drainSum_any g (cs.length + 2) lo hi cs W hW
  have HW : Hid (∀ (W : World) (i : Nat) (hi : i < cs.length), RowW W g (0 :: 0 :: (List.replicate i 0 ++ cs.drop i)) → Calls Tryz.prog 133 #[.pointer (some ⟨g, 2 + i, none⟩), .pointer none, .int .i64 0] W fun e w' => e = .returned (.int .i64 cs[i]) ∧ Hid (RowW w' g (0 :: 0 :: (List.replicate (i + 1) 0 ++ cs.drop (i + 1)))) ∧ Hid (Mid g (g + 1) W w')) := fun W i hi hW => by
    have hl : i < (List.replicate i 0 ++ cs.drop i).length := by simp; omega
    refine wswap_row g (2 + i) _ cs[i] 0 W hW (by simp; omega) ?_ _ ?_
    · exact rep_get2 hi (by omega) _
    · rw [show 2 + i = i + 1 + 1 by omega, List.set_cons_succ, List.set_cons_succ, rep_drop hi]
  have hl := h.lt
  have hn1 : ¬ (g ≤ w.heap.size ∧ w.heap.size < g + 1) := by omega
  have HN : Hid _ := new_1 w (.cells #[.int .i64 0, .int .u64 0, .slice none 0 0, .int .u64 0, .complex .f64 0 0, .float .f64 0, .float .f64 0] 184)
  obtain ⟨w0, hw0⟩ : ∃ w0, w.alloc (.cells #[.int .i64 0, .int .u64 0, .slice none 0 0, .int .u64 0, .complex .f64 0 0, .float .f64 0, .float .f64 0] 184) = w0 := ⟨_, rfl⟩
  have HR : Hid (RowW w0 g (lo :: hi :: cs)) := by rw [← hw0]; exact h.alloc _
  have HM0 : Hid (Mid g (g + 1) w w0) := by rw [← hw0]; exact (Mid.refl _ _ _).alloc _
  have hs0 : w.heap.size < w0.heap.size := by rw [← hw0]; simp
  rw [hw0] at HN
  have sF := store_f
  have sC := store_c
  obtain ⟨i0, hi0, hz0, hz1, hz2⟩ := info_parts infoC
  have HWs : Hid (Ws cs) := hws
  rw [← hm0] at hm ⊢
  have Hm0 : Hid (m = cs.length) := hm0
  clear h hws hm0
  generalize uw lo = lo1 at *
  go_enter Tryz.func306, Tryz.ntmps306
  go_upto_region 2 with (go_at_call 304; with_reducible refine Calls.mono (HS.out _ HR.out) ?_; rintro e w1 ⟨rfl, HR1, HM1⟩)
  clear hw0
  have hs1 : w0.heap.size ≤ w1.heap.size := HM1.out.size
  have HI0 : Hid (HdJ g w1.heap.size hi lo1 cs w 0 (w1.alloc (.cells #[.int .i64 hi, .int .u64 lo1, .slice none 0 0, .int .u64 0, .complex .f64 0 0, .float .f64 0, .float .f64 0] 184))) :=
    ⟨HR1.out.alloc _, (HM0.out.trans HM1.out).alloc _, ((bel1 w1 _).block _ (by omega)).trans ((HM1.out.block _ hs0 hn1).trans HN.out), none, 0, 0, new_1 w1 _, World.ownsRow_nil _ _ _ _⟩
  have hk : w.heap.size < w1.heap.size := by omega
  generalize w1.heap.size = k at *
  go_wp2_with fail
  go_loopw [17] (fun a wr => ∃ i : Nat, i ≤ m ∧ a = .int .i64 (i : Int) ∧ Hid (HdJ g k hi lo1 cs w i wr)) (fun a _ => m - (intOf a).toNat)
  case atStart => exact ⟨0, by omega, rfl, HI0.out⟩
  case round =>
    obtain ⟨i, hi2, rfl, HI⟩ := hrel
    by_cases hlt : i < m
    · have hlt' : (i : Int) < (m : Int) := by omega
      have hltc : i < cs.length := by have := Hm0.out; omega
      have HSw : Hid (∀ _ : Unit, _) := fun _ => HW.out wr i hltc HI.out.row
      have hx := HWs.out _ (List.getElem_mem hltc)
      have HNx : Hid (∀ w2, RowW w2 g (0 :: 0 :: (List.replicate (i + 1) 0 ++ cs.drop (i + 1))) → Mid g (g + 1) wr w2 → _) := fun w2 h1 h2 => hdj_next HI.out hl hk hltc h1 h2
      by_cases h0 : cs[i] = 0
      · have HSk : Hid (∀ (w2 : World) ao n cap, _ → _ → _ → _ → _ → _) := fun w2 ao n cap => hdj_skip (g := g) (k := k) (hi := hi) (lo := lo1) (w := w) (w2 := w2) (ao := ao) (n := n) (cap := cap) hltc h0
        rw [h0] at HSw
        clear hx h0
        go_wp2_with (go_at_call 133; refine Calls.mono (HSw.out ()) ?_; rintro e w2 ⟨rfl, HR2, HM2⟩; obtain ⟨M2, r2, ao, n, cap, P2, O2⟩ := HNx.out _ HR2.out HM2.out)
        exact ⟨⟨i + 1, by omega, by simp, HSk.out _ _ _ _ HR2.out M2 r2 P2 O2⟩, by simp [intOf]; omega⟩
      · obtain ⟨u, hu⟩ : ∃ u : Nat, u = (uw cs[i]).toNat := ⟨_, rfl⟩
        have hu1 : IntKind.u64.wrap cs[i] = (u : Int) := by show uw cs[i] = _; have := uw_eq cs[i]; omega
        have hu2 : ¬ (u : Int) = 0 := by have := uw_eq cs[i]; unfold In64 at hx; omega
        have e1 : cL 0 (cs.take (i + 1)) = cL 0 (cs.take i) ++ [((i : Int), u)] := by rw [take_snoc hltc, cL_snoc, if_neg h0, List.length_take, hu]; simp [Nat.min_eq_left (Nat.le_of_lt hltc)]
        have e2 : nS (cs.take (i + 1)) = (nS (cs.take i) + u) % 18446744073709551616 := by rw [take_snoc hltc, nS_snoc, hu]
        have hlen := cL_len (cs.take i) 0
        rw [List.length_take] at hlen
        have hN := nS_lt (cs.take i)
        have e3 : IntKind.u64.wrap ((nS (cs.take i) : Nat) + (u : Int)) = (nS (cs.take (i + 1)) : Nat) := by rw [IntKind.wrap_u64, e2]; omega
        have HGw : Hid (∀ (w2 w' : World) ao ao' n n' cap cap', RowW w2 g (0 :: 0 :: (List.replicate (i + 1) 0 ++ cs.drop (i + 1))) → Mid g (g + 1) w w2 → w2.heap[w.heap.size]? = some (.cells #[.int .i64 0, .int .u64 0, .slice none 0 0, .int .u64 0, .complex .f64 0 0, .float .f64 0, .float .f64 0] 184 (0, 0)) → w2.heap[k]? = some (.cells #[.int .i64 hi, .int .u64 lo1, .slice ao n cap, .int .u64 (nS (cs.take i) : Nat), .complex .f64 0 0, .float .f64 0, .float .f64 0] 184 (0, 0)) → w2.ownsRow w.heap.size 160 2 (.slice ao n cap) (cL 0 (cs.take i)).length (fl (cL 0 (cs.take i))) → w'.ownsRow w.heap.size 160 2 (.slice ao' n' cap') ((cL 0 (cs.take i)).length + 1) (fl (cL 0 (cs.take i)) ++ fl [((i : Int), u)]) → (w2.alloc (.cells #[.int .i64 (i : Int), .int .u64 (u : Int)] 160)).grownBy w' (Value.slice ao n cap).ownBlock → Hid (w'.heap[k]? = some (.cells #[.int .i64 hi, .int .u64 lo1, .slice ao n cap, .int .u64 (nS (cs.take i) : Nat), .complex .f64 0 0, .float .f64 0, .float .f64 0] 184 (0, 0))) ∧ Hid (HdJ g k hi lo1 cs w (i + 1) ((w'.setCell ⟨k, 2, none⟩ (.slice ao' n' cap')).setCell ⟨k, 3, none⟩ (.int .u64 (nS (cs.take (i + 1)) : Nat))))) := fun w2 w' ao ao' n n' cap cap' a1 a2 a3 a4 a5 a6 a7 => HdJ.grow hl hk a1 a2 a3 a4 a5 _ (by rw [e1, List.length_append, fl_append]; exact a6) a7
        have HLn : Hid ((cL 0 (cs.take i)).length ≤ 16777216) := by unfold Hid; omega
        have HSz : Hid (∀ w2, Mid g (g + 1) w w2 → ∀ o, w.heap.size ≤ (w2.alloc o).heap.size) := fun w2 h o => by have := h.size; simp; omega
        clear hx h0 e1 e2 hlen hN hu
        generalize cs[i] = z at *
        generalize ((nS (cs.take (i + 1)) : Nat) : Int) = N1 at *
        generalize ((nS (cs.take i) : Nat) : Int) = N0 at *
        generalize cL 0 (cs.take i) = CL at *
        go_wp2_with (first
          | (go_at_call 133; refine Calls.mono (HSw.out ()) ?_; rintro e w2 ⟨rfl, HR2, HM2⟩; obtain ⟨M2, r2, ao, n, cap, P2, O2⟩ := HNx.out _ HR2.out HM2.out; have hM2 : Hid _ := M2; have hr2 : Hid _ := r2; clear M2 r2; obtain ⟨q0, q1, q2, q3, q4, q5, q6⟩ := seven_cells P2; have qa := seven_all P2)
          | (at_builtin; refine wpList_append_own _ rfl _ _ 71 rfl w.heap.size 160 i0 (.agg #[.int .i64 0, .int .u64 0]) 2 16 Tryz.underlying71 hi0 hz0 hz1 hz2 rfl (by decide) (.slice ao n cap) _ _ rfl (O2.out.alloc _) ⟨w2.heap.size, 0, none⟩ 1 1 (fl [((i : Int), u)]) rfl rfl (World.news_of_block (cs := #[.int .i64 (i : Int), .int .u64 (u : Int)]) (new_1 w2 _)) (fl_one _) (by have := HLn.out; unfold maxLen; omega) (by have := HLn.out; omega) (HSz.out _ hM2.out _) ?_; intro v' w' hown hgr hnil; obtain ⟨ao', n', cap', rfl⟩ := own_sl hown; obtain ⟨G1, G2⟩ := HGw.out _ _ _ _ _ _ _ _ HR2.out hM2.out hr2.out P2.out O2.out hown hgr; obtain ⟨y0, y1, y2, y3, y4, y5, y6⟩ := seven_cells G1; obtain ⟨f0, f1, f2, f3, f4, f5, f6⟩ := seven_fr G1; clear hown hgr hnil))
        exact ⟨⟨i + 1, by omega, by simp, G2⟩, by simp [intOf]; omega⟩
    · obtain rfl : i = m := by omega
      have hlt' : ¬ (i : Int) < (i : Int) := by omega
      have HRs : Hid _ := HI.out.res
      obtain ⟨ao, n, cap, hP, hO⟩ := HI.out.prt
      rw [Hm0.out, List.take_length] at hP hO
      obtain ⟨N, hN⟩ : ∃ N : Int, N = ((nS cs : Nat) : Int) := ⟨_, rfl⟩
      rw [← hN] at hP
      have HNe : Hid (N = ((nS cs : Nat) : Int)) := hN
      have HPt : Hid _ := hP
      have HOw : Hid _ := hO
      obtain ⟨q0, q1, q2, q3, q4, q5, q6⟩ := seven_cells HPt
      obtain ⟨p0, p1, p2, p3, p4, p5, p6⟩ := seven_cells HRs
      obtain ⟨f0, f1, f2, f3, f4, f5, f6⟩ := seven_fr HRs
      have HRw : Hid (RowW wr g (0 :: 0 :: List.replicate i 0)) := by
        have := HI.out.row
        rw [Hm0.out, List.drop_length, List.append_nil, ← Hm0.out] at this
        exact this
      have HMd : Hid (Mid g (g + 1) w wr) := HI.out.mid
      clear hP hO hN
      go_wp2_with fail
      rw [put7_eq]
      have HE := set_seven (v0 := .int .i64 hi) (v1 := .int .u64 lo1) (v2 := .slice ao n cap) (v3 := .int .u64 N) (v4 := .complex .f64 0 0) (v5 := .float .f64 0) (v6 := .float .f64 0) HRs.out
      obtain ⟨z0, z1, z2, z3, z4, z5, z6⟩ := seven_cells HE
      simp [bodyPost, results, Tryz.results306, go_sem, z0, z1, z2, z3, z4, z5, z6]
      refine ⟨ao, n, cap, ⟨⟨rfl, rfl, rfl⟩, HNe.out⟩, ?_, HRw.out.put7 (by omega) _ _ _ _ _ _ _, HMd.out.put7 (Nat.le_refl _) _ _ _ _ _ _ _⟩
      exact own_mid_ne HOw.out (mid_put7 _ _ _ _ _ _ _ _ _) (own_nty HOw.out HRs.out (by decide))
end Go.Proofs.YtfnohbalkpponaaGreatDoor
