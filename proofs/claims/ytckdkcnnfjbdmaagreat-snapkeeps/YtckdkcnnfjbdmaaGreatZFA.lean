/- SnapFollows: what the law's calls tell. Own work of the verifier. -/
import Derived.Test.YtckdkcnnfjbdmaaGreatZK3
import Derived.Test.YtckdkcnnfjbdmaaGreatZD5
import Derived.Test.YtckdkcnnfjbdmaaGreatZD7
import Derived.Test.YtckdkcnnfjbdmaaGreatZD3
import Derived.Test.YtckdkcnnfjbdmaaGreatZD9
import Derived.Test.YtckdkcnnfjbdmaaGreatZP7
import Derived.Test.YtckdkcnnfjbdmaaGreatZQE
import Derived.Test.YtckdkcnnfjbdmaaGreatZH4
import Derived.OwnWalk
namespace Go.Proofs.YtckdkcnnfjbdmaaGreat
open Go.RowKit Me

/-- A snapshot that may be has lists that can be copied. -/
theorem chk_len {s : Sn} (hw : SnW s) (h : (chkS s).1 = 0) : s.vs.length ≤ 256 ∧ ∀ x ∈ s.vs, x.d.labels.length ≤ 1048576 ∧ x.cs.length ≤ 1048576 := by
  obtain ⟨_, _, l, k⟩ := chkS_ok h
  refine ⟨l, fun x hx => ?_⟩
  obtain ⟨i, hi, rfl⟩ := List.mem_iff_getElem.1 hx
  have f := fit_of (hw.vs _ hx) (k i hi)
  exact ⟨f.l, f.c⟩
end Go.Proofs.YtckdkcnnfjbdmaaGreat
/- COPIES OF SNAPSHOTS: the document's Copy. Own work of the verifier. -/
namespace Go.Proofs.YtckdkcnnfjbdmaaGreat
open Go.RowKit Me

theorem bel_gn {a b : World} (h : a.grownBy b none) : Below a.heap.size a b := ⟨h.os, h.tape, h.output, h.size, fun k hk => h.block k hk (by simp)⟩
/-- Where a list that is copied lies. -/
theorem SLb.src {W : World} {la : Option Addr} {lc : Nat} {L : List La.Lb} (h : SLb W (.slice la L.length lc) L) : (la = none → L.length = 0 ∧ lc = 0) ∧ ∀ ad, la = some ad → ∀ j u, (flL L)[j]? = some u → W.cell? (ad.add j) = some u := by
  rcases h with ⟨h1, h2⟩ | ⟨b, o, cap, h1, _, _, hr⟩ | ⟨a, cap, h1, _, h2⟩
  · subst h2
    cases h1
    exact ⟨fun _ => ⟨rfl, rfl⟩, (fun ad e => by cases e)⟩
  · cases h1
    exact ⟨(fun e => by cases e), (fun ad e => by cases e; exact rowL_cells hr)⟩
  · subst h2
    cases h1
    exact ⟨(fun e => by cases e), (fun ad e j u hu => by simp [flL] at hu)⟩
theorem SN.src {W : World} {la : Option Addr} {lc : Nat} {L : List Cn} (h : SN W (.slice la L.length lc) L) : (la = none → L.length = 0 ∧ lc = 0) ∧ ∀ ad, la = some ad → ∀ j u, (fl L)[j]? = some u → W.cell? (ad.add j) = some u := by
  rcases h with ⟨h1, h2⟩ | ⟨a, cap, h1, _, hr⟩
  · subst h2
    cases h1
    exact ⟨fun _ => ⟨rfl, rfl⟩, (fun ad e => by cases e)⟩
  · cases h1
    exact ⟨(fun e => by cases e), (fun ad e => by cases e; exact hr)⟩
/-- The copy at its start. -/
structure Cy0 (w : World) (s : Sn) (us : Value) (W : World) : Prop where
  g1 : W.heap[w.heap.size]? = some (.cells #[.int .i64 s.p, us, .int .u64 (s.r : Int)] 26 (0, 0))
  g2 : W.heap[w.heap.size + 1]? = some (.cells #[.int .i64 0, .slice none 0 0, .int .u64 0] 26 (0, 0))
  g3 : W.heap[w.heap.size + 2]? = some (.cells #[.int .i64 s.p, us, .int .u64 (s.r : Int)] 26 (0, 0))
  sz : W.heap.size = w.heap.size + 3
  bl : Below w.heap.size w W
theorem Cy0.new (w : World) (s : Sn) (us : Value) : Cy0 w s us (((w.alloc (.cells #[.int .i64 s.p, us, .int .u64 (s.r : Int)] 26)).alloc (.cells #[.int .i64 0, .slice none 0 0, .int .u64 0] 26)).alloc (.cells #[.int .i64 s.p, us, .int .u64 (s.r : Int)] 26)) := by
  have n1 := new_1 w (.cells #[.int .i64 s.p, us, .int .u64 (s.r : Int)] 26)
  have n2 := new_1 (w.alloc (.cells #[.int .i64 s.p, us, .int .u64 (s.r : Int)] 26)) (.cells #[.int .i64 0, .slice none 0 0, .int .u64 0] 26)
  have n3 := new_1 ((w.alloc (.cells #[.int .i64 s.p, us, .int .u64 (s.r : Int)] 26)).alloc (.cells #[.int .i64 0, .slice none 0 0, .int .u64 0] 26)) (.cells #[.int .i64 s.p, us, .int .u64 (s.r : Int)] 26)
  have e1 : (w.alloc (.cells #[.int .i64 s.p, us, .int .u64 (s.r : Int)] 26)).heap.size = w.heap.size + 1 := by simp
  have e2 : ((w.alloc (.cells #[.int .i64 s.p, us, .int .u64 (s.r : Int)] 26)).alloc (.cells #[.int .i64 0, .slice none 0 0, .int .u64 0] 26)).heap.size = w.heap.size + 2 := by simp
  rw [e1] at n2
  rw [e2] at n3
  exact ⟨hkN (hkN n1 (bel1 _ _)) (bel1 _ _), hkN n2 (bel1 _ _), n3, by simp, bt (bt (bel1 _ _) (bel1 _ _)) (bel1 _ _)⟩
/-- The copy while it comes to be. -/
structure Cy (w : World) (s : Sn) (us v : Value) (J : List Rv) (W : World) : Prop where
  g1 : W.heap[w.heap.size]? = some (.cells #[.int .i64 s.p, us, .int .u64 (s.r : Int)] 26 (0, 0))
  g2 : W.heap[w.heap.size + 1]? = some (.cells #[.int .i64 0, .slice none 0 0, .int .u64 0] 26 (0, 0))
  g3 : W.heap[w.heap.size + 2]? = some (.cells #[.int .i64 s.p, v, .int .u64 (s.r : Int)] 26 (0, 0))
  own : W.ownsRow (w.heap.size + 3) 45 11 v J.length (flV J)
  el : ∀ r ∈ J, OwnL (w.heap.size + 3) r.2.1 r.1.d.labels W ∧ OwnC (w.heap.size + 3) r.2.2 r.1.cs W
  dj : Dj J
  bl : Below w.heap.size w W
theorem Cy.size {w W : World} {s : Sn} {us v : Value} {J : List Rv} (h : Cy w s us v J W) : w.heap.size + 3 ≤ W.heap.size := (Array.getElem?_eq_some_iff.1 h.g3).1
theorem Cy.start {w w0 W : World} {s : Sn} {us v : Value} (h : Cy0 w s us w0) (hb : Below w0.heap.size w0 W) (hown : W.ownsRow (w.heap.size + 3) 45 11 v 0 []) : Cy w s us v [] (W.setCell ⟨w.heap.size + 2, 1, none⟩ v) := by
  refine ⟨?_, ?_, ?_, ?_, (fun r hr => by cases hr), Dj.nil, ?_⟩
  · rw [heap_other _ _ _ _ (by show _ ≠ w.heap.size + 2; omega)]
    exact hkN h.g1 hb
  · rw [heap_other _ _ _ _ (by show _ ≠ w.heap.size + 2; omega)]
    exact hkN h.g2 hb
  · rw [heap_setCell_same _ _ 1 _ _ _ (hkN h.g3 hb)]
    rfl
  · exact own_set hown (own_ne hown (by show w.heap.size + 2 < _; omega)) v
  · exact Below.setCell (p := ⟨w.heap.size + 2, 1, none⟩) (bt h.bl hb) (by show w.heap.size ≤ w.heap.size + 2; omega) v
/-- What stays of the blocks while the row grows. -/
theorem Cy.block {w W0 W1 W' : World} {s : Sn} {us v : Value} {J : List Rv} (h : Cy w s us v J W0) (hb : Below W0.heap.size W0 W1) (hg : W1.grownBy W' v.ownBlock) {k : Nat} {o : Obj} (hk : k < w.heap.size + 3) (e : W0.heap[k]? = some o) : W'.heap[k]? = some o := by
  rw [hg.block k (by have := hb.size; have := h.size; omega) (fun q => own_ne h.own hk q.symm)]
  exact hkN e hb
/-- One more value, stored. -/
theorem Cy.push {w W0 W1 W' : World} {s : Sn} {us v v' : Value} {J : List Rv} {r : Rv} (h : Cy w s us v J W0) (hb : Below W0.heap.size W0 W1) (hl : OwnL W0.heap.size r.2.1 r.1.d.labels W1) (hc : OwnC W0.heap.size r.2.2 r.1.cs W1) (hown : W'.ownsRow (w.heap.size + 3) 45 11 v' (J.length + 1) (flV J ++ flV [r])) (hg : W1.grownBy W' v.ownBlock) : Cy w s us v' (J ++ [r]) (W'.setCell ⟨w.heap.size + 2, 1, none⟩ v') := by
  have hs := h.size
  have h1 := own_belG h.own hb
  have key : ∀ (e : TypeId) (u : Value) (n : Nat) (xs : List Value), e ≠ 45 → W1.ownsRow (w.heap.size + 3) e 2 u n xs → (W'.setCell ⟨w.heap.size + 2, 1, none⟩ v').ownsRow (w.heap.size + 3) e 2 u n xs := fun e u n xs hne k => by
    have k1 := World.ownsRow.kept k hg (own_apart k h1 hne)
    exact own_set k1 (own_ne k1 (by show w.heap.size + 2 < _; omega)) v'
  refine ⟨?_, ?_, ?_, ?_, fun q hq => ?_, ?_, ?_⟩
  · rw [heap_other _ _ _ _ (by show _ ≠ w.heap.size + 2; omega)]
    exact h.block hb hg (by omega) h.g1
  · rw [heap_other _ _ _ _ (by show _ ≠ w.heap.size + 2; omega)]
    exact h.block hb hg (by omega) h.g2
  · rw [heap_setCell_same _ _ 1 _ _ _ (h.block hb hg (by omega) h.g3)]
    rfl
  · rw [List.length_append, flV_append]
    exact own_set hown (own_ne hown (by show w.heap.size + 2 < _; omega)) v'
  · rcases List.mem_append.1 hq with k | k
    · exact ⟨key _ _ _ _ typesLV (own_belG (h.el q k).1 hb), key _ _ _ _ typesCV (own_belG (h.el q k).2 hb)⟩
    · rw [List.mem_singleton] at k
      subst k
      exact ⟨key _ _ _ _ typesLV (own_leG hl hs), key _ _ _ _ typesCV (own_leG hc hs)⟩
  · exact h.dj.push (fun x hx => ⟨ap_of (h.el x hx).1 hl, ap_of (h.el x hx).2 hc⟩)
  · refine Below.setCell (p := ⟨w.heap.size + 2, 1, none⟩) ((bt h.bl hb).grown hg (by have := hb.size; omega) (fun k e => ?_)) (by show w.heap.size ≤ w.heap.size + 2; omega) v'
    rcases own_atG h.own with q | ⟨g, q, q1, _⟩
    · rw [q] at e; cases e
    · rw [q] at e; cases e; omega
/-- What Copy tells. -/
def CyQ (w : World) (s : Sn) (e : Ending) (w' : World) : Prop := ∃ u J, e = .returned (.agg #[.int .i64 s.p, u, .int .u64 (s.r : Int)]) ∧ Below w.heap.size w w' ∧ JV w u J w' ∧ J.map (·.1) = s.vs
theorem Cy.fin {w W : World} {s : Sn} {us v : Value} {J : List Rv} (h : Cy w s us v J W) (x y z : Value) : JV w v J (put3 W (w.heap.size + 1) x y z) := by
  have hs := h.size
  have hsz : (put3 W (w.heap.size + 1) x y z).heap.size = W.heap.size := by
    unfold put3
    simp only [World.setCell, Array.size_modify]
  refine ⟨⟨own_leG (own_put3 h.own (own_ne h.own (by omega)) x y z) (by omega), put3_bel h.bl (by omega) x y z, by rw [hsz]; omega⟩, fun r hr => ?_, h.dj⟩
  obtain ⟨k1, k2⟩ := h.el r hr
  exact ⟨own_leG (own_put3 k1 (own_ne k1 (by omega)) x y z) (by omega), own_leG (own_put3 k2 (own_ne k2 (by omega)) x y z) (by omega)⟩
/-- A value on its way. -/
structure Ci (W0 : World) (x : Vl) (lv cv : Value) (W : World) : Prop where
  g5 : W.heap[W0.heap.size]? = some (.cells (vc x lv cv) 45 (0, 0))
  bl : Below W0.heap.size W0 W
theorem Ci.below {W0 W W1 : World} {x : Vl} {lv cv : Value} (h : Ci W0 x lv cv W) (hb : Below W.heap.size W W1) : Ci W0 x lv cv W1 := ⟨hkN h.g5 hb, bt h.bl hb⟩
theorem Ci.size {W0 W : World} {x : Vl} {lv cv : Value} (h : Ci W0 x lv cv W) : W0.heap.size + 1 ≤ W.heap.size := (Array.getElem?_eq_some_iff.1 h.g5).1
theorem Ci.grow {W0 W W1 : World} {x : Vl} {lv cv : Value} {g : Nat} (h : Ci W0 x lv cv W) (hg : W.grownBy W1 (some g)) (hl : W0.heap.size < g) : Ci W0 x lv cv W1 :=
  ⟨(hg.block _ (Array.getElem?_eq_some_iff.1 h.g5).1 (fun e => by cases e; omega)).trans h.g5, h.bl.grown hg (by have := h.size; omega) (fun k e => by cases e; omega)⟩
theorem Ci.set3 {W0 W : World} {x : Vl} {lv cv u : Value} (h : Ci W0 x lv cv W) : Ci W0 x u cv (W.setCell ⟨W0.heap.size, 3, none⟩ u) := ⟨set3_heap h.g5, h.bl.setCell (p := ⟨W0.heap.size, 3, none⟩) (Nat.le_refl _) u⟩
theorem Ci.set6 {W0 W : World} {x : Vl} {lv cv u : Value} (h : Ci W0 x lv cv W) : Ci W0 x lv u (W.setCell ⟨W0.heap.size, 6, none⟩ u) := ⟨set6_heap h.g5, h.bl.setCell (p := ⟨W0.heap.size, 6, none⟩) (Nat.le_refl _) u⟩
/-- append of one value to the copies. -/
theorem wpList_cy {w0 W0 w : World} {ops : Array Oper} {rest : List Oper} {o : Oper} {a : Act} {Q : Exit → Act → World → Prop} (hgd : o.guard = none) (s x : Operand)
    (ho : o.op = .call { callee := .builtin .append, args := #[s, x], argTypes := #[23, 23] }) {sn : Sn} {us v : Value} {J : List Rv} (hs : a.eval s = v) (hC : Cy w0 sn us v J W0) (hb : Below W0.heap.size W0 w) (hl : J.length ≤ 1048576) (k : Nat) (hx : a.eval x = .slice (some ⟨k, 0, none⟩) 1 1) (r : Rv) (h1 : OwnL W0.heap.size r.2.1 r.1.d.labels w) (h2 : OwnC W0.heap.size r.2.2 r.1.cs w)
    (hk : w.heap[k]? = some (.cells (cl r).toArray 45 (0, 0)))
    (h : ∀ v' w', w'.ownsRow (w0.heap.size + 3) 45 11 v' (J.length + 1) (flV J ++ flV [r]) → w.grownBy w' v.ownBlock → wpList Tryz.prog ops Q rest (a.put o.dst v') w') : wpList Tryz.prog ops Q (o :: rest) a w := by
  obtain ⟨i0, hi, hz0, hz1, hz2⟩ := info_parts infoV
  have hz : Lz [r] := by
    obtain ⟨_, _, _, e1, _⟩ := own_slice h1
    obtain ⟨_, _, _, e2, _⟩ := own_slice h2
    exact lz_one ⟨by rw [e1]; rfl, by rw [e2]; rfl⟩
  refine wpList_append_own w hgd s x _ ho (w0.heap.size + 3) 45 i0 _ 11 136 Tryz.underlying23 hi hz0 hz1 hz2 rfl (by decide) v J.length (flV J) hs (own_belG hC.own hb) ⟨k, 0, none⟩ 1 1 (flV [r]) hx (by rw [flV_length]; rfl) (World.news_of_block (by simpa [flV] using hk)) (flV_one _ hz) (by unfold maxLen; omega) (by omega) (by have := hC.size; have := hb.size; omega) ?_
  intro v' w' h3 h4 _
  exact h v' w' h3 h4
set_option maxRecDepth 100000 in
set_option maxHeartbeats 8000000 in
theorem copy_any (s : Sn) (v : Value) (w : World) (hv : SnAt w s v) (hl : s.vs.length ≤ 1048576) (hx : ∀ x ∈ s.vs, x.d.labels.length ≤ 1048576 ∧ x.cs.length ≤ 1048576) :
    Calls Tryz.prog 24 #[v] w fun e w' => CyQ w s e w' := by
  obtain ⟨us, rfl, su⟩ := hv
  obtain ⟨ao, b1, o1, cap, rfl, hao, -, -, hr⟩ := su.open
  have HR := hid_of hr
  have HX := hid_of hx
  have HN := hid_of (Cy0.new w s (.slice ao s.vs.length cap))
  have hwl : IntKind.i64.wrap ((s.vs.length : Int) + 2) = (s.vs.length : Int) + 2 := by rw [IntKind.wrap_i64]; omega
  have sF := store_f
  clear su hr hx
  go_enter Tryz.func24, Tryz.ntmps24
  go_upto_region 2 with fail
  generalize ((w.alloc (.cells #[.int .i64 s.p, .slice ao s.vs.length cap, .int .u64 (s.r : Int)] 26)).alloc (.cells #[.int .i64 0, .slice none 0 0, .int .u64 0] 26)).alloc (.cells #[.int .i64 s.p, .slice ao s.vs.length cap, .int .u64 (s.r : Int)] 26) = w0 at HN ⊢
  go_cut [] from 8 to 14 (fun W => ∃ v, Hid (Cy w s (.slice ao s.vs.length cap) v [] W))
  case first =>
    obtain ⟨c0, c1, c2, _, _, _⟩ := three_cells HN.out.g1
    obtain ⟨i0, hi0, hz0, hz1, hz2⟩ := info_parts infoV
    have hz0' := hid_of hz0
    have hz1' := hid_of hz1
    have hz2' := hid_of hz2
    clear hz0 hz1 hz2
    go_wp2_with (first
      | (refine wpList_make_own _ rfl _ _ 23 rfl (w.heap.size + 3) 45 i0 _ 11 Tryz.underlying23 hi0 hz0'.out hz1'.out .i64 .i64 _ (s.vs.length + 2) rfl rfl (by first | rfl | omega | simp) (by rw [hz2'.out]; omega) (by unfold maxLen; omega) (by have := HN.out.sz; omega) ?_; intro w3 hown hgr; obtain ⟨e0, e1, e2, f0, f1, f2⟩ := three_cells (hkN HN.out.g3 (bel_gn hgr))))
    go_meet
    exact ⟨_, Cy.start HN.out (bel_gn hgr) hown⟩
  case rest =>
  obtain ⟨v0, HC0⟩ := hcut
  clear HN
  go_upto_region 4 with fail
  go_loopw [4] (fun x W => ∃ (i : Nat) (v : Value) (J : List Rv), i ≤ s.vs.length ∧ x = .int .i64 (i : Int) ∧ Hid (J.map (·.1) = s.vs.take i) ∧ Hid (Cy w s (.slice ao s.vs.length cap) v J W)) (fun x _ => s.vs.length - (intOf x).toNat)
  case atStart => exact ⟨0, v0, [], by omega, rfl, hid_of rfl, HC0⟩
  case round =>
    clear HC0
    obtain ⟨i, v, J, hi, rfl, HJ, HC⟩ := hrel
    obtain ⟨c0, c1, c2, _, _, _⟩ := three_cells HC.out.g1
    by_cases hlt : i < s.vs.length
    · have hlt' : (i : Int) < (s.vs.length : Int) := by omega
      obtain rfl := hao (by intro e; rw [e] at hlt; simp at hlt)
      obtain ⟨lv, cv, g1, g2, g3⟩ := HR.out.below HC.out.bl i hlt
      obtain ⟨la, lc, rfl⟩ := g2.form
      obtain ⟨ca, cc, rfl⟩ := g3.form
      have hix := index_val b1 o1 s.vs.length cap i (i : Int) rfl hlt
      obtain ⟨r0, r1, r2, r3, r4, r5, r6, r7, r8, r9, r10⟩ := g1.cC
      have HL := hid_of g2
      have HCn := hid_of g3
      have HXi := hid_of (HX.out _ (List.getElem_mem hlt))
      have HN5 : Hid (Ci wr s.vs[i] (.slice la s.vs[i].d.labels.length lc) (.slice ca s.vs[i].cs.length cc) (wr.alloc (.cells (vc s.vs[i] (.slice la s.vs[i].d.labels.length lc) (.slice ca s.vs[i].cs.length cc)) 45))) := ⟨new_1 _ _, bel1 _ _⟩
      clear g1 g2 g3
      go_upto_region 7 with fail
      obtain ⟨w5, hw5⟩ : ∃ w5, wr.alloc (.cells (vc s.vs[i] (.slice la s.vs[i].d.labels.length lc) (.slice ca s.vs[i].cs.length cc)) 45) = w5 := ⟨_, rfl⟩
      rw [hw5] at HN5
      simp only [vc] at hw5
      rw [hw5]
      clear hw5 c0 c1 c2 r0 r1 r2 r3 r4 r5 r6 r7 r8 r9 r10 hix
      go_cut [6] from 27 to 32 (fun x W => ∃ g, x = .slice (some ⟨g, 0, none⟩) 0 (s.vs[i].d.labels.length + 2) ∧ Hid (wr.heap.size < g) ∧ Hid (Ci wr s.vs[i] (.slice la s.vs[i].d.labels.length lc) (.slice ca s.vs[i].cs.length cc) W) ∧ Hid (W.ownsRow (wr.heap.size + 1) 79 2 (.slice (some ⟨g, 0, none⟩) 0 (s.vs[i].d.labels.length + 2)) 0 []))
      case first =>
        obtain ⟨k0, k1, k2, k3, k4, k5, k6, k7, k8, k9, k10⟩ := eleven_cells (hid_of HN5.out.g5)
        obtain ⟨i0, hi0, hz0, hz1, hz2⟩ := info_parts infoLabel
        have hz0' := hid_of hz0
        have hz1' := hid_of hz1
        have hz2' := hid_of hz2
        clear hz0 hz1 hz2
        obtain ⟨q1, q2⟩ := HXi.out
        have hw2 : IntKind.i64.wrap ((s.vs[i].d.labels.length : Int) + 2) = (s.vs[i].d.labels.length : Int) + 2 := by rw [IntKind.wrap_i64]; omega
        go_wp2_with (first
          | (refine wpList_make_own _ rfl _ _ 34 rfl (wr.heap.size + 1) 79 i0 _ 2 Tryz.underlying34 hi0 hz0'.out hz1'.out .i64 .i64 _ (s.vs[i].d.labels.length + 2) rfl rfl (by first | rfl | omega | simp) (by rw [hz2'.out]; omega) (by unfold maxLen; omega) (HN5.out.size) ?_; intro w6 hown hgr))
        go_meet
        exact ⟨_, rfl, HN5.out.size, HN5.out.below (bel_gn hgr), hown⟩
      case rest =>
      obtain ⟨gl, rfl, Hgl, HI1, HO1⟩ := hcut
      clear HN5
      go_upto_region 8 with fail
      go_cut [7] from 33 to 37 (fun x W => ∃ g, x = .slice (some ⟨g, 0, none⟩) 0 (s.vs[i].cs.length + 2) ∧ Hid (wr.heap.size < g) ∧ Hid (Ci wr s.vs[i] (.slice la s.vs[i].d.labels.length lc) (.slice ca s.vs[i].cs.length cc) W) ∧ Hid (W.ownsRow (wr.heap.size + 1) 79 2 (.slice (some ⟨gl, 0, none⟩) 0 (s.vs[i].d.labels.length + 2)) 0 []) ∧ Hid (W.ownsRow (wr.heap.size + 1) 57 2 (.slice (some ⟨g, 0, none⟩) 0 (s.vs[i].cs.length + 2)) 0 []))
      case first =>
        obtain ⟨k0, k1, k2, k3, k4, k5, k6, k7, k8, k9, k10⟩ := eleven_cells (hid_of HI1.out.g5)
        obtain ⟨i0, hi0, hz0, hz1, hz2⟩ := info_parts infoC
        have hz0' := hid_of hz0
        have hz1' := hid_of hz1
        have hz2' := hid_of hz2
        clear hz0 hz1 hz2
        obtain ⟨q1, q2⟩ := HXi.out
        have hw2 : IntKind.i64.wrap ((s.vs[i].cs.length : Int) + 2) = (s.vs[i].cs.length : Int) + 2 := by rw [IntKind.wrap_i64]; omega
        go_wp2_with (first
          | (refine wpList_make_own _ rfl _ _ 42 rfl (wr.heap.size + 1) 57 i0 _ 2 Tryz.underlying42 hi0 hz0'.out hz1'.out .i64 .i64 _ (s.vs[i].cs.length + 2) rfl rfl (by first | rfl | omega | simp) (by rw [hz2'.out]; omega) (by unfold maxLen; omega) (HI1.out.size) ?_; intro w6 hown hgr))
        go_meet
        exact ⟨_, rfl, HI1.out.size, HI1.out.below (bel_gn hgr), own_belG HO1.out (bel_gn hgr), hown⟩
      case rest =>
      obtain ⟨gc, rfl, Hgc, HI2, HO2, HP2⟩ := hcut
      clear HI1 HO1
      go_upto_region 9 with fail
      go_cut [] from 38 to 44 (fun W => Hid (Ci wr s.vs[i] (.slice (some ⟨gl, 0, none⟩) s.vs[i].d.labels.length (s.vs[i].d.labels.length + 2)) (.slice ca s.vs[i].cs.length cc) W) ∧ Hid (OwnL (wr.heap.size + 1) (.slice (some ⟨gl, 0, none⟩) s.vs[i].d.labels.length (s.vs[i].d.labels.length + 2)) s.vs[i].d.labels W) ∧ Hid (W.ownsRow (wr.heap.size + 1) 57 2 (.slice (some ⟨gc, 0, none⟩) 0 (s.vs[i].cs.length + 2)) 0 []))
      case first =>
        obtain ⟨k0, k1, k2, k3, k4, k5, k6, k7, k8, k9, k10⟩ := eleven_cells (hid_of HI2.out.g5)
        obtain ⟨i0, hi0, hz0, hz1, hz2⟩ := info_parts infoLabel
        have hz1' := hid_of hz1
        clear hz0 hz1 hz2
        have HSr := hid_of (HL.out.below HI2.out.bl).src
        go_wp2_with (first
          | (at_builtin; refine wpList_append_fits_any _ rfl _ _ 34 rfl (wr.heap.size + 1) 79 i0 2 Tryz.underlying34 hi0 hz1'.out gl 0 (s.vs[i].d.labels.length + 2) [] rfl HO2.out la s.vs[i].d.labels.length lc (flL s.vs[i].d.labels) rfl (flL_length _) HSr.out.1 HSr.out.2 (flL_one _) (by omega) ?_; intro w6 hown hgr; have hI6 := HI2.out.grow hgr Hgl.out; have f3 := hid_fr (hid_of hI6.g5) 3; obtain ⟨y0, y1, y2, y3, y4, y5, y6, y7, y8, y9, y10⟩ := eleven_cells (hid_of hI6.g5)))
        go_meet
        rw [Nat.zero_add, List.nil_append] at hown
        refine ⟨hI6.set3, own_set hown (own_ne hown (Nat.lt_succ_self _)) _, ?_⟩
        have hk := World.ownsRow.kept HP2.out hgr (own_apart HP2.out HO2.out (by decide))
        exact own_set hk (own_ne hk (Nat.lt_succ_self _)) _
      case rest =>
      obtain ⟨HI3, HO3, HP3⟩ := hcut
      clear HI2 HO2 HP2
      go_upto_region 10 with fail
      go_cut [] from 45 to 49 (fun W => Hid (Ci wr s.vs[i] (.slice (some ⟨gl, 0, none⟩) s.vs[i].d.labels.length (s.vs[i].d.labels.length + 2)) (.slice (some ⟨gc, 0, none⟩) s.vs[i].cs.length (s.vs[i].cs.length + 2)) W) ∧ Hid (OwnL (wr.heap.size + 1) (.slice (some ⟨gl, 0, none⟩) s.vs[i].d.labels.length (s.vs[i].d.labels.length + 2)) s.vs[i].d.labels W) ∧ Hid (OwnC (wr.heap.size + 1) (.slice (some ⟨gc, 0, none⟩) s.vs[i].cs.length (s.vs[i].cs.length + 2)) s.vs[i].cs W))
      case first =>
        obtain ⟨k0, k1, k2, k3, k4, k5, k6, k7, k8, k9, k10⟩ := eleven_cells (hid_of HI3.out.g5)
        obtain ⟨i0, hi0, hz0, hz1, hz2⟩ := info_parts infoC
        have hz1' := hid_of hz1
        clear hz0 hz1 hz2
        have HSr := hid_of (HCn.out.below HI3.out.bl).src
        go_wp2_with (first
          | (at_builtin; refine wpList_append_fits_any _ rfl _ _ 42 rfl (wr.heap.size + 1) 57 i0 2 Tryz.underlying42 hi0 hz1'.out gc 0 (s.vs[i].cs.length + 2) [] rfl HP3.out ca s.vs[i].cs.length cc (fl s.vs[i].cs) rfl (fl_length _) HSr.out.1 HSr.out.2 (fl_one _) (by omega) ?_; intro w6 hown hgr; have hI6 := HI3.out.grow hgr Hgc.out; have f6 := hid_fr (hid_of hI6.g5) 6; obtain ⟨y0, y1, y2, y3, y4, y5, y6, y7, y8, y9, y10⟩ := eleven_cells (hid_of hI6.g5)))
        go_meet
        rw [Nat.zero_add, List.nil_append] at hown
        have hk := World.ownsRow.kept HO3.out hgr (own_apart HO3.out HP3.out (by decide))
        exact ⟨hI6.set6, own_set hk (own_ne hk (Nat.lt_succ_self _)) _, own_set hown (own_ne hown (Nat.lt_succ_self _)) _⟩
      case rest =>
      obtain ⟨HI4, HO4, HP4⟩ := hcut
      clear HI3 HO3 HP3 Hgl Hgc HL HCn
      go_upto_region 11 with fail
      obtain ⟨av, gv, cpv, rfl, -⟩ := own_slice HC.out.own
      obtain ⟨c0, c1, c2, _, _, _⟩ := three_cells (hkN HC.out.g3 HI4.out.bl)
      obtain ⟨k0, k1, k2, k3, k4, k5, k6, k7, k8, k9, k10⟩ := eleven_cells (hid_of HI4.out.g5)
      have HJl : Hid (J.length ≤ 1048576) := by
        have := congrArg List.length HJ.out
        rw [List.length_map, List.length_take] at this
        unfold Hid
        omega
      go_wp2_with (first
        | (at_builtin; refine wpList_cy rfl _ _ rfl rfl HC.out (bt HI4.out.bl (bel1 _ _)) HJl.out _ rfl (s.vs[i], .slice (some ⟨gl, 0, none⟩) s.vs[i].d.labels.length (s.vs[i].d.labels.length + 2), .slice (some ⟨gc, 0, none⟩) s.vs[i].cs.length (s.vs[i].cs.length + 2)) (own_leG (own_belG HO4.out (bel1 _ _)) (Nat.le_succ _)) (own_leG (own_belG HP4.out (bel1 _ _)) (Nat.le_succ _)) (new_1 _ _) ?_; intro v8 w8 hown8 hg8; obtain ⟨a8, g8, n8, rfl, -⟩ := own_slice hown8; obtain ⟨y0, y1, y2, f0, f1, f2⟩ := three_cells (HC.out.block (bt HI4.out.bl (bel1 _ _)) hg8 (by omega) HC.out.g3)))
      refine ⟨⟨i + 1, .slice a8 (J.length + 1) n8, J ++ [(s.vs[i], .slice (some ⟨gl, 0, none⟩) s.vs[i].d.labels.length (s.vs[i].d.labels.length + 2), .slice (some ⟨gc, 0, none⟩) s.vs[i].cs.length (s.vs[i].cs.length + 2))], by omega, by go_num, ?_, ?_⟩, by simp [intOf]; omega⟩
      · unfold Hid
        rw [List.map_append, HJ.out, List.take_succ_eq_append_getElem hlt]
        rfl
      · exact HC.out.push (bt HI4.out.bl (bel1 _ _)) (own_leG (own_belG HO4.out (bel1 _ _)) (Nat.le_succ _)) (own_leG (own_belG HP4.out (bel1 _ _)) (Nat.le_succ _)) hown8 hg8
    · have hlt' : ¬ (i : Int) < (s.vs.length : Int) := by omega
      obtain ⟨av, gv, cpv, rfl, -⟩ := own_slice HC.out.own
      obtain ⟨d0, d1, d2, _, _, _⟩ := three_cells HC.out.g3
      obtain ⟨z0, z1, z2, f0, f1, f2⟩ := three_cells HC.out.g2
      have HS := hid_of (set_three (x := .int .i64 s.p) (y := .slice av J.length cpv) (z := .int .u64 (s.r : Int)) HC.out.g2)
      have HF := hid_of (HC.out.fin (.int .i64 s.p) (.slice av J.length cpv) (.int .u64 (s.r : Int)))
      have HJe : Hid (J.map (·.1) = s.vs) := by
        have := HJ.out
        rw [List.take_of_length_le (by omega)] at this
        exact this
      clear HJ HC HR HX
      go_wp2_with fail
      rw [put3_eq]
      obtain ⟨y0, y1, y2, _, _, _⟩ := three_cells HS.out
      simp [bodyPost, results, go_sem, y0, y1, y2]
      exact ⟨_, J, rfl, HF.out.g.below, HF.out, HJe.out⟩
end Go.Proofs.YtckdkcnnfjbdmaaGreat
/- THE LAW'S alike: two snapshots but for their sums. Own work of the verifier. -/
namespace Go.Proofs.YtckdkcnnfjbdmaaGreat
open Go.RowKit Me

/-- Values with lists of their own. -/
structure OR (B : Nat) (v : Value) (J : List Rv) (W : World) : Prop where
  own : W.ownsRow B 45 11 v J.length (flV J)
  el : ∀ r ∈ J, OwnL B r.2.1 r.1.d.labels W ∧ OwnC B r.2.2 r.1.cs W
theorem JV.or {w W : World} {v : Value} {J : List Rv} (h : JV w v J W) : OR w.heap.size v J W := ⟨h.g.own, h.el⟩
theorem OR.below {B : Nat} {v : Value} {J : List Rv} {W W1 : World} (h : OR B v J W) (hb : Below W.heap.size W W1) : OR B v J W1 := ⟨own_belG h.own hb, fun r hr => ⟨own_belG (h.el r hr).1 hb, own_belG (h.el r hr).2 hb⟩⟩
theorem OR.mono {B B' : Nat} {v : Value} {J : List Rv} {W : World} (h : OR B v J W) (hb : B' ≤ B) : OR B' v J W := ⟨own_leG h.own hb, fun r hr => ⟨own_leG (h.el r hr).1 hb, own_leG (h.el r hr).2 hb⟩⟩
theorem OR.sv {B : Nat} {v : Value} {J : List Rv} {W : World} (h : OR B v J W) (hB : B ≤ W.heap.size) : SV W v (J.map (·.1)) := GV.sv (B := B) (W0 := W) ⟨h.own, ⟨rfl, rfl, rfl, Nat.le_refl _, fun _ _ => rfl⟩, hB⟩ (fun r hr => ⟨(h.el r hr).1.slb, (h.el r hr).2.sn hB⟩)
/-- .. while a block is written that lies ahead of them. -/
theorem OR.put3 {B b : Nat} {v : Value} {J : List Rv} {W : World} (h : OR B v J W) (hb : b < B) (x y z : Value) : OR B v J (put3 W b x y z) := ⟨own_put3 h.own (own_ne h.own hb) x y z, fun r hr => ⟨own_put3 (h.el r hr).1 (own_ne (h.el r hr).1 hb) x y z, own_put3 (h.el r hr).2 (own_ne (h.el r hr).2 hb) x y z⟩⟩
theorem flV_put : ∀ (J : List Rv) (m j : Nat) (u : Value) (r : Rv) (hm : m < J.length) (_ : j < 11) (_ : (cl J[m]).set j u = cl r), (flV J).set (m * 11 + j) u = flV (J.set m r)
  | [], m, _, _, _, hm, _, _ => absurd hm (by simp)
  | c :: L, 0, j, u, r, _, hj, h => by
    show (cl c ++ flV L).set (0 * 11 + j) u = cl r ++ flV L
    rw [show 0 * 11 + j = j by omega, List.set_append_left _ _ (by simp; omega)]
    have h' : (cl c).set j u = cl r := h
    rw [h']
  | c :: L, m + 1, j, u, r, hm, hj, h => by
    show (cl c ++ flV L).set ((m + 1) * 11 + j) u = cl c ++ flV (L.set m r)
    rw [List.set_append_right _ _ (by simp; omega), show (m + 1) * 11 + j - (cl c).length = m * 11 + j by simp; omega]
    have hm' : m < L.length := by simpa using hm
    have h' : (cl L[m]).set j u = cl r := h
    rw [flV_put L m j u r hm' hj h']
/-- A cell of one of them is written. -/
theorem OR.cell {B g cap m j : Nat} {J : List Rv} {W : World} {u : Value} {r : Rv} (h : OR B (.slice (some ⟨g, 0, none⟩) J.length cap) J W) (hm : m < J.length) (hj : j < 11) (e : (cl J[m]).set j u = cl r) (e1 : r.2 = J[m].2) (e2 : r.1.d.labels = J[m].1.d.labels) (e3 : r.1.cs = J[m].1.cs) : OR B (.slice (some ⟨g, 0, none⟩) J.length cap) (J.set m r) (W.setCell ⟨g, m * 11 + j, none⟩ u) := by
  obtain ⟨s0, _⟩ := h.own.stored (m * 11 + j) u
  rw [flV_put J m j u r hm hj e] at s0
  have hne : ∀ {e : TypeId} {n : Nat} {v : Value} {xs : List Value}, W.ownsRow B e 2 v n xs → e ≠ 45 → (W.setCell ⟨g, m * 11 + j, none⟩ u).ownsRow B e 2 v n xs := fun {e n v xs} k ke => by
    refine own_set k ?_ u
    rcases own_apart k h.own ke with q | q
    · rw [q]; simp
    · exact q
  refine ⟨by rw [List.length_set]; exact s0, fun q hq => ?_⟩
  rcases List.mem_or_eq_of_mem_set hq with k | k
  · exact ⟨hne (h.el q k).1 typesLV, hne (h.el q k).2 typesCV⟩
  · subst k
    obtain ⟨k1, k2⟩ := h.el J[m] (List.getElem_mem hm)
    rw [e1, e2, e3]
    exact ⟨hne k1 typesLV, hne k2 typesCV⟩
/-- Others stay then. -/
theorem OR.other {B g n k cap : Nat} {v u : Value} {J : List Rv} {W : World} {xs : List Value} (h : OR B v J W) (hv : Ap (.slice (some ⟨g, 0, none⟩) n cap) v) (hg : W.ownsRow B 45 11 (.slice (some ⟨g, 0, none⟩) n cap) n xs) : OR B v J (W.setCell ⟨g, k, none⟩ u) := by
  have hne : ∀ {e : TypeId} {n : Nat} {v : Value} {xs : List Value}, W.ownsRow B e 2 v n xs → e ≠ 45 → (W.setCell ⟨g, k, none⟩ u).ownsRow B e 2 v n xs := fun {e n v xs} k ke => by
    refine own_set k ?_ u
    rcases own_apart k hg ke with q | q
    · rw [q]; simp
    · exact q
  exact ⟨own_set h.own (hv g rfl) u, fun r hr => ⟨hne (h.el r hr).1 typesLV, hne (h.el r hr).2 typesCV⟩⟩
/-- The two copies. -/
structure Al (w : World) (x y : Sn) (ua ub : Value) (J K : List Rv) (W : World) : Prop where
  g1 : W.heap[w.heap.size]? = some (.cells #[.int .i64 x.p, ua, .int .u64 (x.r : Int)] 26 (0, 0))
  g2 : W.heap[w.heap.size + 1]? = some (.cells #[.int .i64 y.p, ub, .int .u64 (y.r : Int)] 26 (0, 0))
  oa : OR (w.heap.size + 2) ua J W
  ob : OR (w.heap.size + 2) ub K W
  ne : Ap ua ub
  bl : Below w.heap.size w W
theorem Al.size {w W : World} {x y : Sn} {ua ub : Value} {J K : List Rv} (h : Al w x y ua ub J K W) : w.heap.size + 2 ≤ W.heap.size := (Array.getElem?_eq_some_iff.1 h.g2).1
theorem Al.new {w W : World} {x y : Sn} {va vb ua ub : Value} {J K : List Rv} (h : Sb w x y va vb W) (hA : OR (w.heap.size + 2) ua J W) (hB : OR (w.heap.size + 2) ub K W) (ne : Ap ua ub) : Al w x y ua ub J K (put3 (put3 W w.heap.size (.int .i64 x.p) ua (.int .u64 (x.r : Int))) (w.heap.size + 1) (.int .i64 y.p) ub (.int .u64 (y.r : Int))) := by
  have ho : ∀ (W : World) (b k : Nat) (x y z : Value), k ≠ b → (put3 W b x y z).heap[k]? = W.heap[k]? := fun W b k x y z hk => by
    unfold put3
    rw [heap_other _ _ _ _ hk, heap_other _ _ _ _ hk, heap_other _ _ _ _ hk]
  refine ⟨?_, ?_, ?_, ?_, ne, ?_⟩
  · rw [ho _ _ _ _ _ _ (by omega)]
    exact set_three h.g1
  · exact set_three (by rw [ho _ _ _ _ _ _ (by omega)]; exact h.g2)
  · exact (hA.put3 (by omega) _ _ _).put3 (by omega) _ _ _
  · exact (hB.put3 (by omega) _ _ _).put3 (by omega) _ _ _
  · exact put3_bel (put3_bel h.bl (Nat.le_refl _) _ _ _) (by omega) _ _ _
/-- How far the sums are struck out. -/
def Zd (L : List Vl) (i : Nat) (J : List Rv) : Prop := J.map (·.1) = (L.take i).map z0 ++ L.drop i
theorem Zd.len {L : List Vl} {i : Nat} {J : List Rv} (h : Zd L i J) : J.length = L.length := by
  have := congrArg List.length h
  simp only [List.length_map, List.length_append, List.length_take, List.length_drop] at this
  omega
theorem Zd.step {L : List Vl} {i : Nat} {J : List Rv} (h : Zd L i J) (hi : i < L.length) (hj : i < J.length) : Zd L (i + 1) (J.set i (z0 J[i].1, J[i].2)) := by
  unfold Zd at *
  have e : J[i].1 = L[i] := by
    have h1 : (J.map (·.1))[i]? = some J[i].1 := by simp [hj]
    rw [h, List.getElem?_append_right (by simp; omega)] at h1
    simp only [List.length_map, List.length_take] at h1
    rw [show i - min i L.length = 0 by omega, List.getElem?_drop, Nat.add_zero, List.getElem?_eq_getElem hi] at h1
    exact (Option.some.inj h1).symm
  rw [List.map_set, h, e, List.set_append_right _ _ (by simp; omega)]
  simp only [List.length_map, List.length_take]
  rw [show i - min i L.length = 0 by omega, List.drop_eq_getElem_cons hi, List.set_cons_zero, List.take_succ_eq_append_getElem hi, List.map_append, List.append_assoc]
  rfl
theorem Zd.end {L : List Vl} {i : Nat} {J : List Rv} (h : Zd L i J) (hi : L.length ≤ i) : J.map (·.1) = L.map z0 := by
  unfold Zd at h
  rw [h, List.take_of_length_le hi, List.drop_eq_nil_of_le hi, List.append_nil]
end Go.Proofs.YtckdkcnnfjbdmaaGreat
