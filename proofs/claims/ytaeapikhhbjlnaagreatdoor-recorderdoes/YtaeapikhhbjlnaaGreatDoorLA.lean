/- RecorderDoes: the slabs are made. Own work of the verifier. -/
import Derived.Test.YtaeapikhhbjlnaaGreatDoorKZb
namespace Go.Proofs.YtaeapikhhbjlnaaGreatDoor
open Go.RowKit

/-- No interface, no slice. -/
def NoSl (v : Value) : Prop := (∀ T u, v ≠ .iface T u) ∧ ∀ a n c, v ≠ .slice a n c
theorem nosl_ptr (x : Option Addr) : NoSl (.pointer x) := ⟨(fun _ _ h => by cases h), (fun _ _ _ h => by cases h)⟩
theorem nosl_int (x : Int) : NoSl (.int .i64 x) := ⟨(fun _ _ h => by cases h), (fun _ _ _ h => by cases h)⟩
/-- Where the making of slabs stands. -/
structure Mk (w0 : World) (k ph wb : Nat) (st pi : Int) (slv mv : Value) (SL : List SlK) (W : World) : Prop where
  bel : Below w0.heap.size w0 W
  sh : Sh W k ph 0 0 0
  phs : Ph W ph 0 0 (-9223372036854775808)
  wbk : W.heap[wb]? = some (.cells #[ptr k, .slice none 0 0, slv, .int .i64 pi, .pointer none, .slice none 0 0] 33 (0, 0))
  slo : W.ownsRow w0.heap.size 34 1 slv SL.length (SL.map fun X => ptr X.s)
  mdo : W.ownsRow w0.heap.size 3 1 mv SL.length (SL.map fun X => .int .i64 X.kd)
  few : SL.length ≤ 20
  dim : 0 < SL.length → st = (st.toNat : Int) ∧ pi = (pi.toNat : Int) ∧ 0 < st.toNat ∧ st.toNat ≤ 16 ∧ 1 ≤ pi.toNat ∧ pi.toNat ≤ 14
  sl : ∀ j (hj : j < SL.length), SlW SL[j] pi.toNat st.toNat (fun _ _ => frst SL[j].kd (pi.toNat : Int)) W
  ap : ∀ j (hj : j < SL.length) x, SL[j].Blk x → x ≠ k ∧ x ≠ ph ∧ x ≠ wb
  apj : ∀ i j (hi : i < SL.length) (hj : j < SL.length), i ≠ j → ∀ g, g ∈ SL[i].G 0 ++ SL[i].G 1 → ¬ SL[j].Blk g
  gge : ∀ j (hj : j < SL.length) g, g ∈ SL[j].G 0 ++ SL[j].G 1 → w0.heap.size ≤ g
  kge : w0.heap.size ≤ k ∧ w0.heap.size ≤ ph ∧ w0.heap.size ≤ wb
  c1 : ∀ x, slv.ownBlock = some x → ∀ v, W.cell? ⟨x, 0, none⟩ = some v → NoSl v
  c2 : ∀ x, mv.ownBlock = some x → ∀ v, W.cell? ⟨x, 0, none⟩ = some v → NoSl v
/-- A block whose first cell is no interface and no slice, and that is no row of words, is no slab's. -/
theorem SlW.apart {X : SlK} {p n : Nat} {C : Nat → Nat → List Int} {W : World} (H : SlW X p n C W) (hn : 0 < n) {x : Nat} {cs : Array Value} {T : TypeId} {z : Nat × Nat} (hx : W.heap[x]? = some (.cells cs T z)) (hT : T ≠ 108) (h1 : ∀ v, W.cell? ⟨x, 0, none⟩ = some v → NoSl v) {y : Nat} (hy : X.Blk y) : y ≠ x := by
  rcases hy with rfl | rfl | rfl | rfl | hy
  · intro e
    have h := H.g.slab
    rw [e] at h
    exact (h1 _ h).1 _ _ rfl
  · intro e
    obtain ⟨cap, h⟩ := H.g.held 0 (by decide)
    rw [e] at h
    exact (h1 _ h).2 _ _ _ rfl
  · intro e
    have h := H.g.rows 0 (by decide) 0 (by rw [H.g.len 0 (by decide)]; exact hn)
    rw [e] at h
    exact (h1 _ h).2 _ _ _ rfl
  · intro e
    have h := H.g.rows 1 (by decide) 0 (by rw [H.g.len 1 (by decide)]; exact hn)
    rw [e] at h
    exact (h1 _ h).2 _ _ _ rfl
  · exact fun e => hT ((ty_of hx).eq (by rw [← e]; exact H.gty hy))
/-- Another slab's rows are none of a slab's own blocks but its rows. -/
theorem SlW.rows_apart {X Y : SlK} {p n : Nat} {C C' : Nat → Nat → List Int} {W : World} (H : SlW X p n C W) (hn : 0 < n) (HY : SlW Y p n C' W) {g : Nat} (hg : g ∈ Y.G 0 ++ Y.G 1) {y : Nat} (hy : X.Blk y) (hr : y ∉ X.G 0 ++ X.G 1) : y ≠ g := by
  have hc : ∀ v, W.cell? ⟨g, 0, none⟩ = some v → ∃ x, v = .int .i64 x := fun v hv => by
    have key : ∀ b, b < 2 → g ∈ Y.G b → ∃ x, v = .int .i64 x := fun b hb hm => by
      obtain ⟨i, hi, e⟩ := List.getElem_of_mem hm
      have h := HY.g.left b hb i hi
      rw [e] at h
      unfold RowW at h
      simp only [World.cell?, h] at hv
      simp at hv
      rcases hh : (C' b i)[0]? with _ | x
      · simp [hh] at hv
      · simp [hh] at hv
        exact ⟨x, hv.symm⟩
    rcases List.mem_append.1 hg with q | q
    · exact key 0 (by decide) q
    · exact key 1 (by decide) q
  rcases hy with rfl | rfl | rfl | rfl | hy
  · intro e
    have h := H.g.slab
    rw [e] at h
    obtain ⟨x, hx⟩ := hc _ h
    cases hx
  · intro e
    obtain ⟨cap, h⟩ := H.g.held 0 (by decide)
    rw [e] at h
    obtain ⟨x, hx⟩ := hc _ h
    cases hx
  · intro e
    have h := H.g.rows 0 (by decide) 0 (by rw [H.g.len 0 (by decide)]; exact hn)
    rw [e] at h
    obtain ⟨x, hx⟩ := hc _ h
    cases hx
  · intro e
    have h := H.g.rows 1 (by decide) 0 (by rw [H.g.len 1 (by decide)]; exact hn)
    rw [e] at h
    obtain ⟨x, hx⟩ := hc _ h
    cases hx
  · exact absurd hy hr
section
variable {w0 W W' : World} {k ph wb : Nat} {st pi : Int} {slv mv : Value} {SL : List SlK}
/-- Nothing that stands here has changed. -/
theorem Mk.keep (H : Mk w0 k ph wb st pi slv mv SL W) {S : Nat → Prop} (hc : Chg S W W') (hge : ∀ x, S x → w0.heap.size ≤ x) (h1 : ¬ S k) (h2 : ¬ S ph) (h3 : ¬ S wb) (h4 : ∀ x, slv.ownBlock = some x → ¬ S x) (h5 : ∀ x, mv.ownBlock = some x → ¬ S x) (h6 : ∀ j (hj : j < SL.length) x, SL[j].Blk x → ¬ S x) : Mk w0 k ph wb st pi slv mv SL W' :=
  ⟨bel_chg H.bel (Nat.le_refl _) hc hge, hc.Sh H.sh h1, hc.Ph H.phs h2, hc.at_ H.wbk h3, hc.row H.slo h4, hc.row H.mdo h5, H.few, H.dim, fun j hj => (H.sl j hj).chg hc (h6 j hj), H.ap, H.apj, H.gge, H.kge, fun x hx v hv => H.c1 x hx v (by rw [← hv]; exact (World.cell?_of_block (hc.block x (H.slo.lt x hx).2 (h4 x hx))).symm), fun x hx v hv => H.c2 x hx v (by rw [← hv]; exact (World.cell?_of_block (hc.block x (H.mdo.lt x hx).2 (h5 x hx))).symm)⟩
theorem Mk.below (H : Mk w0 k ph wb st pi slv mv SL W) (hb : Below W.heap.size W W') : Mk w0 k ph wb st pi slv mv SL W' := H.keep (S := fun _ => False) (Chg.of_below hb) (fun _ k => k.elim) (fun k => k) (fun k => k) (fun k => k) (fun _ _ k => k) (fun _ _ k => k) (fun _ _ _ _ k => k)
/-- One slab more: both lists have it. -/
theorem Mk.push (H : Mk w0 k ph wb st pi slv mv SL W) (hf : SL.length < 20) {X : SlK} {w1 w2 w3 : World} {n p : Nat} (hn : st = (n : Int)) (hp : pi = (p : Int)) (n0 : 0 < n) (n16 : n ≤ 16) (p1 : 1 ≤ p) (p14 : p ≤ 14) (hX : SlW X p n (fun _ _ => frst X.kd (p : Int)) w1) (hb : Below W.heap.size W w1) (hgX : ∀ g, g ∈ X.G 0 ++ X.G 1 → W.heap.size ≤ g) {o o2 : Obj} {slv' mv' : Value} (own1 : w2.ownsRow w0.heap.size 34 1 slv' (SL.length + 1) ((SL.map fun X => ptr X.s) ++ [ptr X.s])) (gr1 : (w1.alloc o).grownBy w2 slv.ownBlock)
    (own2 : w3.ownsRow w0.heap.size 3 1 mv' (SL.length + 1) ((SL.map fun X => .int .i64 X.kd) ++ [.int .i64 X.kd])) (gr2 : ((w2.setCell ⟨wb, 2, none⟩ slv').alloc o2).grownBy w3 mv.ownBlock) : (w2.cell? ⟨wb, 2, none⟩ = some slv ∧ w2.frozen? ⟨wb, 2, none⟩ = false) ∧ Mk w0 k ph wb st pi slv' mv' (SL ++ [X]) w3 := by
  subst hn
  subst hp
  have e1 : ((n : Int)).toNat = n := Int.toNat_natCast n
  have e2 : ((p : Int)).toNat = p := Int.toNat_natCast p
  have H1 := H.below hb
  have hs0 := H.bel.size
  have hs1 := hb.size
  have b1 := bel1 w1 o
  have nwb : some wb ≠ slv.ownBlock := fun e => absurd ((own_ty H1.slo e.symm).eq (ty_of H1.wbk)) (by decide)
  have hw2 : w2.heap[wb]? = _ := (gr1.block wb (by have := (Array.getElem?_eq_some_iff.1 H1.wbk).1; simp; omega) nwb).trans ((b1.block wb (Array.getElem?_eq_some_iff.1 H1.wbk).1).trans H1.wbk)
  have hc1 : Chg (fun x => some x = slv.ownBlock ∨ x = wb) w1 (w2.setCell ⟨wb, 2, none⟩ slv') := ⟨gr1.os, gr1.tape, gr1.output, by rw [World.size_setCell]; have := gr1.size; simp at this; omega, fun x hx hn => by
    rw [heap_setCell_other _ _ _ _ (by show x ≠ wb; exact fun e => hn (Or.inr e)), gr1.block x (by simp; omega) (fun e => hn (Or.inl e))]
    exact b1.block x hx⟩
  have hw2s : (w2.setCell ⟨wb, 2, none⟩ slv').heap[wb]? = some (.cells #[ptr k, .slice none 0 0, slv', .int .i64 (p : Int), .pointer none, .slice none 0 0] 33 (0, 0)) := by
    rw [heap_setCell_same _ wb 2 _ _ _ hw2]
    rfl
  have mdo2 : (w2.setCell ⟨wb, 2, none⟩ slv').ownsRow w0.heap.size 3 1 mv SL.length (SL.map fun X => .int .i64 X.kd) := hc1.row H1.mdo (fun x hx q => by
    rcases q with q | q
    · exact absurd ((own_ty H1.mdo hx).eq (own_ty H1.slo q.symm)) (by decide)
    · exact absurd ((own_ty H1.mdo hx).eq (by rw [q]; exact ty_of H1.wbk)) (by decide))
  have hc2 : Chg (fun x => some x = mv.ownBlock) (w2.setCell ⟨wb, 2, none⟩ slv') w3 := by
    have b2 := bel1 (w2.setCell ⟨wb, 2, none⟩ slv') o2
    exact ⟨gr2.os, gr2.tape, gr2.output, by have := gr2.size; simp at this ⊢; omega, fun x hx hn => by rw [gr2.block x (by simp at hx ⊢; omega) hn]; exact b2.block x hx⟩
  have hc : Chg (fun x => some x = slv.ownBlock ∨ x = wb ∨ some x = mv.ownBlock) w1 w3 := (hc1.mono (fun x q => by rcases q with q | q; exact Or.inl q; exact Or.inr (Or.inl q))).trans hc2 (fun x q => Or.inl (Or.inr (Or.inr q)))
  have hge : ∀ x, (some x = slv.ownBlock ∨ x = wb ∨ some x = mv.ownBlock) → w0.heap.size ≤ x := fun x q => by
    rcases q with q | q | q
    · exact (H1.slo.lt x q.symm).1
    · rw [q]; exact H.kge.2.2
    · exact (H1.mdo.lt x q.symm).1
  have tyS : ∀ x, (some x = slv.ownBlock ∨ x = wb ∨ some x = mv.ownBlock) → Ty w1 x 34 ∨ Ty w1 x 33 ∨ Ty w1 x 3 := fun x q => by
    rcases q with q | q | q
    · exact Or.inl (own_ty H1.slo q.symm)
    · exact Or.inr (Or.inl (by rw [q]; exact ty_of H1.wbk))
    · exact Or.inr (Or.inr (own_ty H1.mdo q.symm))
  have noS : ∀ {x : Nat} {T : TypeId}, Ty w1 x T → T ≠ 34 → T ≠ 33 → T ≠ 3 → ¬ (some x = slv.ownBlock ∨ x = wb ∨ some x = mv.ownBlock) := fun h t1 t2 t3 q => by
    rcases tyS _ q with r | r | r
    · exact t1 (h.eq r)
    · exact t2 (h.eq r)
    · exact t3 (h.eq r)
  have ex : ∀ {x : Nat} {T : TypeId}, Ty w1 x T → ∃ cs z, w1.heap[x]? = some (.cells cs T z) := fun h => h
  have blkNo : ∀ (Y : SlK) (C : Nat → Nat → List Int), SlW Y p n C w1 → ∀ y, Y.Blk y → ¬ (some y = slv.ownBlock ∨ y = wb ∨ some y = mv.ownBlock) := fun Y C hY y hy q => by
    rcases q with q | q | q
    · obtain ⟨cs, z, h⟩ := own_ty H1.slo q.symm
      exact hY.apart n0 h (by decide) (fun v hv => H1.c1 y q.symm v hv) hy rfl
    · exact hY.apart n0 H1.wbk (by decide) (fun v hv => by
        simp [World.cell?, H1.wbk] at hv
        rw [← hv]; exact nosl_ptr _) hy q
    · obtain ⟨cs, z, h⟩ := own_ty H1.mdo q.symm
      exact hY.apart n0 h (by decide) (fun v hv => H1.c2 y q.symm v hv) hy rfl
  have hsl : ∀ j (hj : j < SL.length), SlW SL[j] p n (fun _ _ => frst SL[j].kd (p : Int)) w1 := fun j hj => by
    have := H1.sl j hj
    rw [e1, e2] at this
    exact this
  have hlt : ∀ j (hj : j < SL.length) y, SL[j].Blk y → y < W.heap.size := fun j hj y hy => by
    have := H.sl j hj
    rw [e1, e2] at this
    exact this.lt n0 hy
  have slo3 : w3.ownsRow w0.heap.size 34 1 slv' (SL.length + 1) ((SL.map fun X => ptr X.s) ++ [ptr X.s]) := by
    have o1 : (w2.setCell ⟨wb, 2, none⟩ slv').ownsRow w0.heap.size 34 1 slv' (SL.length + 1) ((SL.map fun X => ptr X.s) ++ [ptr X.s]) := own_mid_ne own1 (mid_set wb 2 _) (own_nty own1 hw2 (by decide))
    exact hc2.row o1 (fun x hx q => absurd ((own_ty o1 hx).eq (own_ty mdo2 q.symm)) (by decide))
  have key : ∀ (P : Nat → SlK → Prop), (∀ i (hi : i < SL.length), P i SL[i]) → P SL.length X → ∀ i (hi : i < (SL ++ [X]).length), P i (SL ++ [X])[i] := fun P h1 h2 i hi => by
    by_cases h : i < SL.length
    · rw [List.getElem_append_left h]; exact h1 i h
    · have h3 : i = SL.length := by simp at hi; omega
      subst h3
      rw [List.getElem_append_right (Nat.le_refl _)]
      simp only [Nat.sub_self, List.getElem_cons_zero]
      exact h2
  refine ⟨⟨by simp [World.cell?, hw2], by simp [World.frozen?, hw2]⟩, ⟨bel_chg H1.bel (Nat.le_refl _) hc hge, hc.Sh H1.sh (noS (ty_of H1.sh) (by decide) (by decide) (by decide)), hc.Ph H1.phs (noS (ty_of H1.phs) (by decide) (by decide) (by decide)), hc2.at_ hw2s (fun q => absurd ((own_ty mdo2 q.symm).eq (ty_of hw2s)) (by decide)), ?_, ?_, by simp; omega, fun _ => ?_, ?_, ?_, ?_, ?_, H.kge, ?_, ?_⟩⟩
  · rw [List.length_append, List.map_append]; exact slo3
  · rw [List.length_append, List.map_append]; exact own2
  · rw [e1, e2]; exact ⟨rfl, rfl, n0, n16, p1, p14⟩
  · rw [e1, e2]
    exact key (fun _ Y => SlW Y p n (fun _ _ => frst Y.kd (p : Int)) w3) (fun i hi => (hsl i hi).chg hc (blkNo _ _ (hsl i hi))) (hX.chg hc (blkNo _ _ hX))
  · exact key (fun _ Y => ∀ x, Y.Blk x → x ≠ k ∧ x ≠ ph ∧ x ≠ wb) H.ap (fun x hx => ⟨hX.apart n0 H1.sh (by decide) (fun v hv => by
      simp [World.cell?, show w1.heap[k]? = _ from H1.sh] at hv
      rw [← hv]; exact nosl_ptr _) hx, hX.apart n0 H1.phs (by decide) (fun v hv => by
      simp [World.cell?, show w1.heap[ph]? = _ from H1.phs] at hv
      rw [← hv]; exact nosl_int _) hx, fun e => blkNo _ _ hX x hx (Or.inr (Or.inl e))⟩)
  · intro i j hi hj hij g hg hb2
    simp at hi hj
    by_cases h1 : i < SL.length
    · rw [List.getElem_append_left h1] at hg
      by_cases h2 : j < SL.length
      · rw [List.getElem_append_left h2] at hb2
        exact H.apj i j h1 h2 hij g hg hb2
      · rw [List.getElem_append_right (by omega)] at hb2
        simp only [show j - SL.length = 0 by omega, List.getElem_cons_zero] at hb2
        have hgl := hlt i h1 g (Or.inr (Or.inr (Or.inr (Or.inr hg))))
        by_cases h3 : g ∈ X.G 0 ++ X.G 1
        · have := hgX g h3
          omega
        · exact hX.rows_apart n0 (hsl i h1) hg hb2 h3 rfl
    · rw [List.getElem_append_right (by omega)] at hg
      simp only [show i - SL.length = 0 by omega, List.getElem_cons_zero] at hg
      have h2 : j < SL.length := by omega
      rw [List.getElem_append_left h2] at hb2
      have := hlt j h2 g hb2
      have := hgX g hg
      omega
  · exact key (fun _ Y => ∀ g, g ∈ Y.G 0 ++ Y.G 1 → w0.heap.size ≤ g) H.gge (fun g hg2 => Nat.le_trans hs0 (hgX g hg2))
  · intro x hx v hv
    obtain ⟨ao, cap, rfl⟩ := own_len slo3
    obtain ⟨g, rfl, hat⟩ := own_at slo3 (Nat.succ_pos _)
    have hxg : g = x := by simpa [Value.ownBlock] using hx
    subst hxg
    have h0 := hat w3 slo3 0 (by simp)
    rw [h0] at hv
    injection hv with hv
    rw [← hv]
    rcases SL with _ | ⟨Y, r⟩
    · exact nosl_ptr _
    · exact nosl_ptr _
  · intro x hx v hv
    obtain ⟨ao, cap, rfl⟩ := own_len own2
    obtain ⟨g, rfl, hat⟩ := own_at own2 (Nat.succ_pos _)
    have hxg : g = x := by simpa [Value.ownBlock] using hx
    subst hxg
    have h0 := hat w3 own2 0 (by simp)
    rw [h0] at hv
    injection hv with hv
    rw [← hv]
    rcases SL with _ | ⟨Y, r⟩
    · exact nosl_int _
    · exact nosl_int _
end
end Go.Proofs.YtaeapikhhbjlnaaGreatDoor
