/- THE RING'S copied. Own work of the verifier. -/
import Derived.Test.YtgkdggcpplmnaaaGreatZBE
import Derived.Laws.OwnMore
namespace Go.Proofs.YtgkdggcpplmnaaaGreat.Ri
open Go.RowKit Me

theorem flV_put : ∀ (J : List Rv) (m j : Nat) (u : Value) (r : Rv) (hm : m < J.length) (_ : j < 11) (_ : (cl J[m]).set j u = cl r), (flV J).set (m * 11 + j) u = flV (J.set m r)
  | [], m, _, _, _, hm, _, _ => absurd hm (by simp)
  | c :: L, 0, j, u, r, _, hj, h => by
    show (cl c ++ flV L).set (0 * 11 + j) u = cl r ++ flV L
    rw [show 0 * 11 + j = j by omega, List.set_append_left _ _ (by simp; omega)]
    have h' : (cl c).set j u = cl r := h
    rw [h']
  | c :: L, m + 1, j, u, r, hm, hj, h => by
    show (cl c ++ flV L).set ((m + 1) * 11 + j) u = cl c ++ flV (L.set m r)
    rw [List.set_append_right _ _ (by simp; omega), show (m + 1) * 11 + j - (cl c).length = m * 11 + j by simp; omega]
    have hm' : m < L.length := by simpa using hm
    have h' : (cl L[m]).set j u = cl r := h
    rw [flV_put L m j u r hm' hj h']
/-- The copy under way: labels are new up to i, counts up to c. -/
structure Cq (w : World) (s : Sn) (v : Value) (J : List Rv) (i c : Nat) (W : World) : Prop where
  g1 : W.heap[w.heap.size]? = some (.cells #[.int .i64 s.p, v, .int .u64 (s.r : Int)] 31 (0, 0))
  g2 : W.heap[w.heap.size + 1]? = some (.cells #[.int .i64 0, .slice none 0 0, .int .u64 0] 31 (0, 0))
  own : W.ownsRow (w.heap.size + 2) 45 11 v J.length (flV J)
  nl : ∀ j (h : j < J.length), j < i → OwnL (w.heap.size + 2) J[j].2.1 J[j].1.d.labels W
  nc : ∀ j (h : j < J.length), j < c → OwnC (w.heap.size + 2) J[j].2.2 J[j].1.cs W
  ol : ∀ j (h : j < J.length), i ≤ j → SLb w J[j].2.1 J[j].1.d.labels
  oc : ∀ j (h : j < J.length), c ≤ j → SN w J[j].2.2 J[j].1.cs
  dl : ∀ a b (ha : a < J.length) (hb : b < J.length), a < i → b < i → a ≠ b → Ap J[a].2.1 J[b].2.1
  dc : ∀ a b (ha : a < J.length) (hb : b < J.length), a < c → b < c → a ≠ b → Ap J[a].2.2 J[b].2.2
  mp : J.map (·.1) = s.vs
  bl : Below w.heap.size w W
theorem Cq.size {w W : World} {s : Sn} {v : Value} {J : List Rv} {i c : Nat} (h : Cq w s v J i c W) : w.heap.size + 2 ≤ W.heap.size := (Array.getElem?_eq_some_iff.1 h.g2).1
theorem Cq.g {w W : World} {s : Sn} {J : List Rv} {i c g cap : Nat} (h : Cq w s (.slice (some ⟨g, 0, none⟩) J.length cap) J i c W) : w.heap.size + 2 ≤ g ∧ g < W.heap.size := h.own.lt g rfl
theorem map_set {J : List Rv} {i : Nat} {r : Rv} (hi : i < J.length) (e : r.1 = J[i].1) : (J.set i r).map (·.1) = J.map (·.1) := by
  apply List.ext_getElem
  · simp
  · intro j h1 h2
    simp only [List.getElem_map, List.getElem_set]
    split
    · next q => subst q; exact e
    · rfl
theorem Cq.lab {w W W5 : World} {s : Sn} {J : List Rv} {i c g cap : Nat} {u : Value} (h : Cq w s (.slice (some ⟨g, 0, none⟩) J.length cap) J i c W) (hi : i < J.length) (hb : Below W.heap.size W W5) (hl : OwnL W.heap.size u J[i].1.d.labels W5) :
    Cq w s (.slice (some ⟨g, 0, none⟩) (J.set i (J[i].1, u, J[i].2.2)).length cap) (J.set i (J[i].1, u, J[i].2.2)) (i + 1) c (W5.setCell ⟨g, i * 11 + 3, none⟩ u) := by
  obtain ⟨hg1, hg2⟩ := h.g
  have own5 := own_belG h.own hb
  obtain ⟨s0, -⟩ := own5.stored (i * 11 + 3) u
  rw [flV_put J i 3 u (J[i].1, u, J[i].2.2) hi (by omega) rfl] at s0
  have key : ∀ {e : TypeId} {v : Value} {n : Nat} {xs : List Value}, W5.ownsRow (w.heap.size + 2) e 2 v n xs → e ≠ 45 → (W5.setCell ⟨g, i * 11 + 3, none⟩ u).ownsRow (w.heap.size + 2) e 2 v n xs := fun {e v n xs} k ke => by
    refine own_set k ?_ u
    rcases own_apart k own5 ke with q | q
    · rw [q]; simp
    · exact q
  have hz : ∀ j (hj : j < (J.set i (J[i].1, u, J[i].2.2)).length), (J.set i (J[i].1, u, J[i].2.2))[j].1 = (J[j]'(by simpa using hj)).1 ∧ (J.set i (J[i].1, u, J[i].2.2))[j].2.2 = (J[j]'(by simpa using hj)).2.2 ∧ (j ≠ i → (J.set i (J[i].1, u, J[i].2.2))[j].2.1 = (J[j]'(by simpa using hj)).2.1) ∧ (j = i → (J.set i (J[i].1, u, J[i].2.2))[j].2.1 = u) := fun j hj => by
    rw [List.getElem_set]
    split
    · next q => subst q; exact ⟨rfl, rfl, fun k => absurd rfl k, fun _ => rfl⟩
    · next q => exact ⟨rfl, rfl, fun _ => rfl, fun k => absurd k.symm q⟩
  refine ⟨?_, ?_, by rw [List.length_set]; exact s0, fun j hj hlt => ?_, fun j hj hlt => ?_, fun j hj hle => ?_, fun j hj hle => ?_, fun a b ha hb' h1 h2 hne => ?_, fun a b ha hb' h1 h2 hne => ?_, ?_, ?_⟩
  · rw [heap_other _ _ _ _ (by show _ ≠ g; omega), List.length_set]
    exact hkN h.g1 hb
  · rw [heap_other _ _ _ _ (by show _ ≠ g; omega)]
    exact hkN h.g2 hb
  · obtain ⟨e1, -, e3, e4⟩ := hz j hj
    rw [e1]
    by_cases q : j = i
    · subst q
      rw [e4 rfl]
      exact key (own_leG hl h.size) typesLV
    · rw [e3 q]
      exact key (own_belG (h.nl j (by simpa using hj) (by omega)) hb) typesLV
  · obtain ⟨e1, e2, -, -⟩ := hz j hj
    rw [e1, e2]
    exact key (own_belG (h.nc j (by simpa using hj) hlt) hb) typesCV
  · obtain ⟨e1, -, e3, -⟩ := hz j hj
    rw [e1, e3 (by omega)]
    exact h.ol j (by simpa using hj) (by omega)
  · obtain ⟨e1, e2, -, -⟩ := hz j hj
    rw [e1, e2]
    exact h.oc j (by simpa using hj) hle
  · obtain ⟨-, -, a3, a4⟩ := hz a ha
    obtain ⟨-, -, b3, b4⟩ := hz b hb'
    by_cases qa : a = i
    · rw [a4 qa, b3 (by omega)]
      exact ap_sym (ap_of (h.nl b (by simpa using hb') (by omega)) hl)
    · rw [a3 qa]
      by_cases qb : b = i
      · rw [b4 qb]
        exact ap_of (h.nl a (by simpa using ha) (by omega)) hl
      · rw [b3 qb]
        exact h.dl a b _ _ (by omega) (by omega) hne
  · obtain ⟨-, a2, -, -⟩ := hz a ha
    obtain ⟨-, b2, -, -⟩ := hz b hb'
    rw [a2, b2]
    exact h.dc a b _ _ h1 h2 hne
  · exact (map_set (r := (J[i].1, u, J[i].2.2)) hi rfl).trans h.mp
  · exact Below.setCell (p := ⟨g, i * 11 + 3, none⟩) (bt h.bl hb) (by show w.heap.size ≤ g; omega) u
theorem Cq.cnt {w W W5 : World} {s : Sn} {J : List Rv} {i c g cap : Nat} {u : Value} (h : Cq w s (.slice (some ⟨g, 0, none⟩) J.length cap) J i c W) (hi : c < J.length) (hb : Below W.heap.size W W5) (hl : OwnC W.heap.size u J[c].1.cs W5) :
    Cq w s (.slice (some ⟨g, 0, none⟩) (J.set c (J[c].1, J[c].2.1, u)).length cap) (J.set c (J[c].1, J[c].2.1, u)) i (c + 1) (W5.setCell ⟨g, c * 11 + 6, none⟩ u) := by
  obtain ⟨hg1, hg2⟩ := h.g
  have own5 := own_belG h.own hb
  obtain ⟨s0, -⟩ := own5.stored (c * 11 + 6) u
  rw [flV_put J c 6 u (J[c].1, J[c].2.1, u) hi (by omega) rfl] at s0
  have key : ∀ {e : TypeId} {v : Value} {n : Nat} {xs : List Value}, W5.ownsRow (w.heap.size + 2) e 2 v n xs → e ≠ 45 → (W5.setCell ⟨g, c * 11 + 6, none⟩ u).ownsRow (w.heap.size + 2) e 2 v n xs := fun {e v n xs} k ke => by
    refine own_set k ?_ u
    rcases own_apart k own5 ke with q | q
    · rw [q]; simp
    · exact q
  have hz : ∀ j (hj : j < (J.set c (J[c].1, J[c].2.1, u)).length), (J.set c (J[c].1, J[c].2.1, u))[j].1 = (J[j]'(by simpa using hj)).1 ∧ (J.set c (J[c].1, J[c].2.1, u))[j].2.1 = (J[j]'(by simpa using hj)).2.1 ∧ (j ≠ c → (J.set c (J[c].1, J[c].2.1, u))[j].2.2 = (J[j]'(by simpa using hj)).2.2) ∧ (j = c → (J.set c (J[c].1, J[c].2.1, u))[j].2.2 = u) := fun j hj => by
    rw [List.getElem_set]
    split
    · next q => subst q; exact ⟨rfl, rfl, fun k => absurd rfl k, fun _ => rfl⟩
    · next q => exact ⟨rfl, rfl, fun _ => rfl, fun k => absurd k.symm q⟩
  refine ⟨?_, ?_, by rw [List.length_set]; exact s0, fun j hj hlt => ?_, fun j hj hlt => ?_, fun j hj hle => ?_, fun j hj hle => ?_, fun a b ha hb' h1 h2 hne => ?_, fun a b ha hb' h1 h2 hne => ?_, ?_, ?_⟩
  · rw [heap_other _ _ _ _ (by show _ ≠ g; omega), List.length_set]
    exact hkN h.g1 hb
  · rw [heap_other _ _ _ _ (by show _ ≠ g; omega)]
    exact hkN h.g2 hb
  · obtain ⟨e1, e2, -, -⟩ := hz j hj
    rw [e1, e2]
    exact key (own_belG (h.nl j (by simpa using hj) hlt) hb) typesLV
  · obtain ⟨e1, -, e3, e4⟩ := hz j hj
    rw [e1]
    by_cases q : j = c
    · subst q
      rw [e4 rfl]
      exact key (own_leG hl h.size) typesCV
    · rw [e3 q]
      exact key (own_belG (h.nc j (by simpa using hj) (by omega)) hb) typesCV
  · obtain ⟨e1, e2, -, -⟩ := hz j hj
    rw [e1, e2]
    exact h.ol j (by simpa using hj) hle
  · obtain ⟨e1, -, e3, -⟩ := hz j hj
    rw [e1, e3 (by omega)]
    exact h.oc j (by simpa using hj) (by omega)
  · obtain ⟨-, a2, -, -⟩ := hz a ha
    obtain ⟨-, b2, -, -⟩ := hz b hb'
    rw [a2, b2]
    exact h.dl a b _ _ h1 h2 hne
  · obtain ⟨-, -, a3, a4⟩ := hz a ha
    obtain ⟨-, -, b3, b4⟩ := hz b hb'
    by_cases qa : a = c
    · rw [a4 qa, b3 (by omega)]
      exact ap_sym (ap_of (h.nc b (by simpa using hb') (by omega)) hl)
    · rw [a3 qa]
      by_cases qb : b = c
      · rw [b4 qb]
        exact ap_of (h.nc a (by simpa using ha) (by omega)) hl
      · rw [b3 qb]
        exact h.dc a b _ _ (by omega) (by omega) hne
  · exact (map_set (r := (J[c].1, J[c].2.1, u)) hi rfl).trans h.mp
  · exact Below.setCell (p := ⟨g, c * 11 + 6, none⟩) (bt h.bl hb) (by show w.heap.size ≤ g; omega) u
/-- All is new. -/
theorem Cq.fin {w W : World} {s : Sn} {v : Value} {J : List Rv} (h : Cq w s v J J.length J.length W) (x y z : Value) : JV w v J (put3 W (w.heap.size + 1) x y z) := by
  have hs := h.size
  have hsz : (put3 W (w.heap.size + 1) x y z).heap.size = W.heap.size := by
    unfold put3
    simp only [World.setCell, Array.size_modify]
  refine ⟨⟨own_leG (own_put3 h.own (own_ne h.own (by omega)) x y z) (by omega), put3_bel h.bl (by omega) x y z, by rw [hsz]; omega⟩, fun r hr => ?_, fun i j hi hj hne => ⟨h.dl i j hi hj hi hj hne, h.dc i j hi hj hi hj hne⟩⟩
  obtain ⟨i, hi, rfl⟩ := List.mem_iff_getElem.1 hr
  have k1 := h.nl i hi hi
  have k2 := h.nc i hi hi
  exact ⟨own_leG (own_put3 k1 (own_ne k1 (by omega)) x y z) (by omega), own_leG (own_put3 k2 (own_ne k2 (by omega)) x y z) (by omega)⟩
end Go.Proofs.YtgkdggcpplmnaaaGreat.Ri
/- THE RING'S copied: the walk. Own work of the verifier. -/
namespace Go.Proofs.YtgkdggcpplmnaaaGreat.Ri
open Go.RowKit Me

theorem Cq.start {w W : World} {s : Sn} {v : Value} {J : List Rv} {us : Value} (g1 : W.heap[w.heap.size]? = some (.cells #[.int .i64 s.p, us, .int .u64 (s.r : Int)] 31 (0, 0))) (g2 : W.heap[w.heap.size + 1]? = some (.cells #[.int .i64 0, .slice none 0 0, .int .u64 0] 31 (0, 0)))
    (own : W.ownsRow (w.heap.size + 2) 45 11 v J.length (flV J)) (hl : Ls w J) (mp : J.map (·.1) = s.vs) (bl : Below w.heap.size w W) : Cq w s v J 0 0 (W.setCell ⟨w.heap.size, 1, none⟩ v) := by
  refine ⟨?_, ?_, own_set own (own_ne own (by show w.heap.size < _; omega)) v, fun j _ h => absurd h (Nat.not_lt_zero _), fun j _ h => absurd h (Nat.not_lt_zero _), fun j hj _ => (hl _ (List.getElem_mem hj)).1, fun j hj _ => (hl _ (List.getElem_mem hj)).2, fun _ _ _ _ h => absurd h (Nat.not_lt_zero _), fun _ _ _ _ h => absurd h (Nat.not_lt_zero _), mp, bl.setCell (p := ⟨w.heap.size, 1, none⟩) (Nat.le_refl _) v⟩
  · rw [heap_setCell_same _ _ 1 _ _ _ g1]
    rfl
  · rw [heap_other _ _ _ _ (by show _ ≠ w.heap.size; omega)]
    exact g2
theorem Cq.cells {w W : World} {s : Sn} {J : List Rv} {i c g cap : Nat} (h : Cq w s (.slice (some ⟨g, 0, none⟩) J.length cap) J i c W) (m j : Nat) (hm : m < J.length) (hj : j < 11) : W.cell? ⟨g, m * 11 + j, none⟩ = (cl J[m])[j]? := by
  rw [h.own.cellAt (m * 11 + j) (by omega), flV_get J m j hm hj]
theorem sv_open {W : World} {v : Value} {L : List Vl} (h : SV W v L) : ∃ ao b o cap, v = .slice ao L.length cap ∧ (L ≠ [] → ao = some ⟨b, o, none⟩) ∧ (ao = none → cap = 0) ∧ RowV W b o L := by
  rcases h with ⟨rfl, rfl⟩ | ⟨b, o, cap, rfl, h2, h3, hr⟩
  · exact ⟨none, 0, 0, 0, rfl, fun k => absurd rfl k, fun _ => rfl, fun i hi => by simp at hi⟩
  · exact ⟨_, b, o, cap, rfl, fun _ => rfl, (fun k => by cases k), hr⟩
set_option maxRecDepth 100000 in
set_option maxHeartbeats 8000000 in
theorem rcopied_any (s : Sn) (v : Value) (w : World) (hv : SnAt w s v) (hl : s.vs.length ≤ 1048576) (hx : ∀ x ∈ s.vs, x.d.labels.length ≤ 1048576 ∧ x.cs.length ≤ 1048576) :
    Calls Tryz.prog 15 #[v] w fun e w' => CyQ w s e w' := by
  obtain ⟨us, rfl, su⟩ := hv
  obtain ⟨ao, b1, o1, cap, rfl, hao, hcap, hr⟩ := sv_open su
  obtain ⟨Z, hZ, hZr, hZl⟩ := hr.raw
  have hZn : Z.length = s.vs.length := by rw [← hZ]; simp
  have n1 := new_1 w (.cells #[.int .i64 s.p, .slice ao s.vs.length cap, .int .u64 (s.r : Int)] 31)
  have n2 := new_1 (w.alloc (.cells #[.int .i64 s.p, .slice ao s.vs.length cap, .int .u64 (s.r : Int)] 31)) (.cells #[.int .i64 0, .slice none 0 0, .int .u64 0] 31)
  rw [show (w.alloc (.cells #[.int .i64 s.p, .slice ao s.vs.length cap, .int .u64 (s.r : Int)] 31)).heap.size = w.heap.size + 1 by simp] at n2
  have n1' := hkN n1 (bel1 _ (.cells #[.int .i64 0, .slice none 0 0, .int .u64 0] 31))
  have HB := hid_of (bt (bel1 w (.cells #[.int .i64 s.p, .slice ao s.vs.length cap, .int .u64 (s.r : Int)] 31)) (bel1 _ (.cells #[.int .i64 0, .slice none 0 0, .int .u64 0] 31)))
  have HS : Hid (((w.alloc (.cells #[.int .i64 s.p, .slice ao s.vs.length cap, .int .u64 (s.r : Int)] 31)).alloc (.cells #[.int .i64 0, .slice none 0 0, .int .u64 0] 31)).heap.size = w.heap.size + 2) := by unfold Hid; simp
  have HX := hid_of hx
  clear n1 hr su
  go_enter Tryz.func15, Tryz.ntmps15
  go_upto_region 1 with fail
  obtain ⟨w0, hw0⟩ : ∃ w0, (w.alloc (.cells #[.int .i64 s.p, .slice ao s.vs.length cap, .int .u64 (s.r : Int)] 31)).alloc (.cells #[.int .i64 0, .slice none 0 0, .int .u64 0] 31) = w0 := ⟨_, rfl⟩
  rw [hw0] at n1' n2 HB HS ⊢
  clear hw0
  go_cut [] from 5 to 8 (fun W => ∃ v J, Hid (J.length = s.vs.length ∧ Cq w s v J 0 0 W))
  case first =>
    obtain ⟨c0, c1, c2, _, _, _⟩ := three_cells n1'
    have HR := hid_of (fun ty => run_vals (w := w0) (W0 := w0) (B := w.heap.size + 2) (R := []) (Z := Z) (v := .slice none 0 0) (u := .slice ao s.vs.length cap) (b := b1) (o := o1) (GV.nil (Below.refl _ _) (by rw [HS.out]; exact Nat.le_refl _)) rfl hZn.symm (by
      intro e
      cases ao with
      | none => exact Or.inl ⟨rfl, hcap rfl⟩
      | some a => exact Or.inr ⟨a, rfl⟩) (fun e => hao (fun q => by rw [q] at e; simp at e)) (hZr.below HB.out) hZl.lz (by simp; omega) ty)
    go_wp2_with (first
      | (at_builtin; refine wpList_run _ rfl _ _ 28 rfl _ _ rfl rfl (HR.out _) ?_; intro v5 w5 hG5; obtain ⟨a5, b5, n5, rfl, -⟩ := own_slice hG5.own; obtain ⟨d0, d1, d2, f0, f1, f2⟩ := three_cells ((hG5.below.block _ (by omega)).trans n1')))
    rw [List.nil_append] at hG5
    go_meet
    have hO := hG5.own
    refine ⟨_, Z, hZn, Cq.start (us := .slice ao s.vs.length cap) ((hG5.below.block _ (by omega)).trans n1') ((hG5.below.block _ (by omega)).trans n2) ?_ hZl hZ (HB.out.trans (hG5.below.mono (by omega)))⟩
    rw [List.nil_append, hZn] at *
    exact hO
  case rest =>
  obtain ⟨v0, J0, HC0⟩ := hcut
  obtain ⟨a0, g0, cp0, rfl, ha0, -⟩ := own_slice HC0.out.2.own
  obtain ⟨hJ0, hC0⟩ := HC0.out
  rw [hJ0] at hC0 ha0
  have HC1 := hid_of hC0
  obtain ⟨c0, c1, c2, _, _, _⟩ := three_cells hC0.g1
  clear n1' n2 hZ hZr hZl hZn hao hC0 HC0
  go_upto_region 3 with fail
  go_loopw [12] (fun x W => ∃ (i : Nat) (J : List Rv), i ≤ s.vs.length ∧ x = .int .i64 (i : Int) ∧ Hid (J.length = s.vs.length ∧ Cq w s (.slice a0 s.vs.length cp0) J i i W)) (fun x _ => s.vs.length - (intOf x).toNat)
  case atStart => exact ⟨0, J0, Nat.zero_le _, rfl, hJ0, HC1.out⟩
  case round =>
    clear HC1 c0 c1 c2 hJ0
    obtain ⟨i, J, hi, rfl, HC⟩ := hrel
    obtain ⟨c0, c1, c2, _, _, _⟩ := three_cells HC.out.2.g1
    by_cases hlt : i < s.vs.length
    · have hlt' : (i : Int) < (s.vs.length : Int) := by omega
      obtain rfl := ha0 (by omega)
      have hJl : i < J.length := by rw [HC.out.1]; exact hlt
      have hix := index_val g0 0 s.vs.length cp0 i (i : Int) rfl hlt
      go_upto_region 6 with fail
      go_cut [] from 19 to 28 (fun W => ∃ J', Hid (J'.length = s.vs.length ∧ Cq w s (.slice (some ⟨g0, 0, none⟩) s.vs.length cp0) J' (i + 1) i W))
      case first =>
        have hC := HC.out.2
        rw [← HC.out.1] at hC
        have d3 := hC.cells i 3 hJl (by omega)
        have e3 : (cl J[i])[3]? = some J[i].2.1 := rfl
        rw [e3] at d3
        obtain ⟨la, lc, hla⟩ := (hC.ol i hJl (Nat.le_refl _)).form
        have hxi : J[i].1.d.labels.length ≤ 1048576 := (HX.out J[i].1 (by rw [← hC.mp]; exact List.mem_map.2 ⟨_, List.getElem_mem hJl, rfl⟩)).1
        have HR := hid_of (fun ty => run_copyL ((hC.ol i hJl (Nat.le_refl _)).below hC.bl) hxi ty)
        rw [hla] at d3 HR
        have HCC := hid_of hC
        clear hC e3 hla c0 c1 c2 hix
        go_wp2_with (first
          | (at_builtin; refine wpList_run _ rfl _ _ 40 rfl _ _ rfl rfl (HR.out _) ?_; intro v5 w5 hG5; obtain ⟨a5, b5, n5, rfl, -⟩ := own_slice hG5.1; have hz5 := own_belG HCC.out.own hG5.2; have d5 : w5.cell? ⟨g0, i * 11 + 3, none⟩ = some (.slice la J[i].1.d.labels.length lc) := cellB hG5.2 d3; have f5 := hz5.frozenAt (i * 11 + 3)))
        go_meet
        refine ⟨J.set i (J[i].1, .slice a5 J[i].1.d.labels.length n5, J[i].2.2), by rw [List.length_set]; exact HC.out.1, ?_⟩
        have := HCC.out.lab hJl hG5.2 hG5.1
        rw [List.length_set, HC.out.1] at this
        exact this
      case rest =>
      obtain ⟨J', HC'⟩ := hcut
      clear HC
      have hJl' : i < J'.length := by rw [HC'.out.1]; exact hlt
      go_upto_region 7 with fail
      have hC := HC'.out.2
      rw [← HC'.out.1] at hC
      have d3 := hC.cells i 6 hJl' (by omega)
      have e3 : (cl J'[i])[6]? = some J'[i].2.2 := rfl
      rw [e3] at d3
      obtain ⟨la, lc, hla⟩ := (hC.oc i hJl' (Nat.le_refl _)).form
      have hxi : J'[i].1.cs.length ≤ 1048576 := (HX.out J'[i].1 (by rw [← hC.mp]; exact List.mem_map.2 ⟨_, List.getElem_mem hJl', rfl⟩)).2
      have HR := hid_of (fun ty => run_copyC ((hC.oc i hJl' (Nat.le_refl _)).below hC.bl) hxi ty)
      rw [hla] at d3 HR
      have HCC := hid_of hC
      clear hC e3 hla c0 c1 c2 hix
      go_wp2_with (first
        | (at_builtin; refine wpList_run _ rfl _ _ 43 rfl _ _ rfl rfl (HR.out _) ?_; intro v5 w5 hG5; obtain ⟨a5, b5, n5, rfl, -⟩ := own_slice hG5.1; have hz5 := own_belG HCC.out.own hG5.2; have d5 : w5.cell? ⟨g0, i * 11 + 6, none⟩ = some (.slice la J'[i].1.cs.length lc) := cellB hG5.2 d3; have f5 := hz5.frozenAt (i * 11 + 6)))
      refine ⟨⟨i + 1, J'.set i (J'[i].1, J'[i].2.1, .slice a5 J'[i].1.cs.length n5), by omega, by go_num, by rw [List.length_set]; exact HC'.out.1, ?_⟩, by simp [intOf]; omega⟩
      have := HCC.out.cnt hJl' hG5.2 hG5.1
      rw [List.length_set, HC'.out.1] at this
      exact this
    · have hlt' : ¬ (i : Int) < (s.vs.length : Int) := by omega
      have hie : i = s.vs.length := by omega
      subst hie
      obtain ⟨z0, z1, z2, f0, f1, f2⟩ := three_cells HC.out.2.g2
      have HS := hid_of (set_three (x := .int .i64 s.p) (y := .slice a0 s.vs.length cp0) (z := .int .u64 (s.r : Int)) HC.out.2.g2)
      have hF := HC.out.2
      rw [← HC.out.1] at hF
      have HF := hid_of (hF.fin (.int .i64 s.p) (.slice a0 J.length cp0) (.int .u64 (s.r : Int)))
      rw [HC.out.1] at HF
      have HJe := hid_of HC.out.2.mp
      clear HC HX hF
      go_wp2_with fail
      rw [put3_eq]
      obtain ⟨y0, y1, y2, _, _, _⟩ := three_cells HS.out
      simp [bodyPost, results, go_sem, y0, y1, y2]
      exact ⟨_, J, rfl, HF.out.g.below, HF.out, HJe.out⟩
end Go.Proofs.YtgkdggcpplmnaaaGreat.Ri
