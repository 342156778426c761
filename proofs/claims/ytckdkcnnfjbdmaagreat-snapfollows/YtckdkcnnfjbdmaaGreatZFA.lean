/- SnapFollows: what the law's calls tell. Own work of the verifier. -/
import Derived.Test.YtckdkcnnfjbdmaaGreatZK3
import Derived.Test.YtckdkcnnfjbdmaaGreatZD5
import Derived.Test.YtckdkcnnfjbdmaaGreatZD7
import Derived.Test.YtckdkcnnfjbdmaaGreatZD3
import Derived.Test.YtckdkcnnfjbdmaaGreatZD9
import Derived.Test.YtckdkcnnfjbdmaaGreatZP7
import Derived.Test.YtckdkcnnfjbdmaaGreatZQD
import Derived.Test.YtckdkcnnfjbdmaaGreatZH4
import Derived.OwnWalk
import Derived.Test.YtckdkcnnfjbdmaaGreatZQA
namespace Go.Proofs.YtckdkcnnfjbdmaaGreat
open Go.RowKit Me

theorem mg_bad {a b : Sn} (h : (chkS a).1 ≠ 0 ∨ (chkS b).1 ≠ 0) : (mgS a b).2 ≠ 0 := fun k => by
  have i := mg_inv k
  rcases h with h | h
  · exact h i.1
  · exact h i.2.1
theorem mg_swap {a b : Sn} (ha : SnW a) (hb : SnW b) (h : (mgS a b).2 ≠ 0) : (mgS b a).2 ≠ 0 := fun k => h (by rw [mg_sym hb ha k]; exact k)
/-- Whichever comes first, with or without an error. -/
theorem mg_swap1 {a b : Sn} (ha : SnW a) (hb : SnW b) : (mgS b a).1 = (mgS a b).1 := by
  by_cases h : (mgS a b).2 = 0
  · rw [mg_sym ha hb h]
  · rw [mg_not h, mg_not (mg_swap ha hb h)]
/-- A snapshot without its sums. -/
def z0S (s : Sn) : Sn := ⟨s.p, s.vs.map z0, s.r⟩
theorem z0_same {a b c : Sn} (h1 : (mgS a b).2 = 0) (h2 : (mgS (mgS a b).1 c).2 = 0) (h3 : (mgS b c).2 = 0) (h4 : (mgS a (mgS b c).1).2 = 0) : z0S (mgS (mgS a b).1 c).1 = z0S (mgS a (mgS b c).1).1 := by
  obtain ⟨e1, e2, e3⟩ := mg_assoc h1 h2 h3 h4
  unfold z0S
  rw [e1, e2, e3]
theorem z0_vw {x : Vl} (h : VW x) : VW (z0 x) := ⟨h.t, h.cs, h.cl, h.n, by show 0 < _; omega, h.mn, h.mx, h.d⟩
theorem z0_w {s : Sn} (h : SnW s) : SnW (z0S s) := ⟨fun x hx => by
  obtain ⟨y, hy, rfl⟩ := List.mem_map.1 hx
  exact z0_vw (h.vs y hy), h.r⟩
/-- A snapshot that may be has lists that can be copied. -/
theorem chk_len {s : Sn} (hw : SnW s) (h : (chkS s).1 = 0) : s.vs.length ≤ 256 ∧ ∀ x ∈ s.vs, x.d.labels.length ≤ 1048576 ∧ x.cs.length ≤ 1048576 := by
  obtain ⟨_, _, l, k⟩ := chkS_ok h
  refine ⟨l, fun x hx => ?_⟩
  obtain ⟨i, hi, rfl⟩ := List.mem_iff_getElem.1 hx
  have f := fit_of (hw.vs _ hx) (k i hi)
  exact ⟨f.l, f.c⟩
/-- The code's Merge: where what it tells lies. -/
theorem smerge_any (a b : Sn) (v u : Value) (ha : SnW a) (hb : SnW b) (w : World) (hv : SnAt w a v) (hu : SnAt w b u) : Calls Tryz.prog 12 #[v, u] w fun e w' => RmQ w a b e w' :=
  (merge_any a b v u ha hb w hv hu).mono (by
    rintro e w' ⟨x, J, rfl, hb1, hJ, hm⟩
    exact ⟨x, rfl, by rw [← hm]; exact hJ.svA, hb1⟩)
/-- The document's sum. -/
theorem radd_any (s t : Int) (hs : InR s) (ht : InR t) (W : World) : Calls Tryz.prog 45 #[.agg #[.int .i64 (hiOf s), .int .u64 (loOf s)], .agg #[.int .i64 (hiOf t), .int .u64 (loOf t)]] W fun e w' => e = .returned (.agg #[.int .i64 (hiOf (rnd (s + t))), .int .u64 (loOf (rnd (s + t)))]) ∧ Below W.heap.size W w' := by
  have := refadd_any _ _ _ _ (wf_of hs) (wf_of ht) W
  rw [val_hl, val_hl] at this
  exact this
/-- The document's counts as one. -/
theorem rmrg_any (W : World) (v v' : Value) (A C : List Cn) (hA : SN W v A) (hC : SN W v' C) (hW : Wc A) (hW' : Wc C) (lA : A.length ≤ 1048576) (lC : C.length ≤ 1048576) : Calls Tryz.prog 46 #[v, v'] W fun e w' => ∃ x, e = .returned x ∧ SN w' x (mrgC A C) ∧ Below W.heap.size W w' :=
  (rmerge_sn W v v' A C hA hC (fun c hc => by rcases List.mem_append.1 hc with h | h; exact hW c h; exact hW' c h) lA lC).mono (by
    rintro e w' ⟨x, O, rfl, hO, hG⟩
    exact ⟨x, rfl, by rw [mrgC_eq hO]; exact hG.sn, hG.below⟩)
end Go.Proofs.YtckdkcnnfjbdmaaGreat
/- COPIES OF SNAPSHOTS: the document's Copy. Own work of the verifier. -/
namespace Go.Proofs.YtckdkcnnfjbdmaaGreat
open Go.RowKit Me

theorem bel_gn {a b : World} (h : a.grownBy b none) : Below a.heap.size a b := ⟨h.os, h.tape, h.output, h.size, fun k hk => h.block k hk (by simp)⟩
/-- Where a list that is copied lies. -/
theorem SLb.src {W : World} {la : Option Addr} {lc : Nat} {L : List La.Lb} (h : SLb W (.slice la L.length lc) L) : (la = none → L.length = 0 ∧ lc = 0) ∧ ∀ ad, la = some ad → ∀ j u, (flL L)[j]? = some u → W.cell? (ad.add j) = some u := by
  rcases h with ⟨h1, h2⟩ | ⟨b, o, cap, h1, _, _, hr⟩ | ⟨a, cap, h1, _, h2⟩
  · subst h2
    cases h1
    exact ⟨fun _ => ⟨rfl, rfl⟩, (fun ad e => by cases e)⟩
  · cases h1
    exact ⟨(fun e => by cases e), (fun ad e => by cases e; exact rowL_cells hr)⟩
  · subst h2
    cases h1
    exact ⟨(fun e => by cases e), (fun ad e j u hu => by simp [flL] at hu)⟩
theorem SN.src {W : World} {la : Option Addr} {lc : Nat} {L : List Cn} (h : SN W (.slice la L.length lc) L) : (la = none → L.length = 0 ∧ lc = 0) ∧ ∀ ad, la = some ad → ∀ j u, (fl L)[j]? = some u → W.cell? (ad.add j) = some u := by
  rcases h with ⟨h1, h2⟩ | ⟨a, cap, h1, _, hr⟩
  · subst h2
    cases h1
    exact ⟨fun _ => ⟨rfl, rfl⟩, (fun ad e => by cases e)⟩
  · cases h1
    exact ⟨(fun e => by cases e), (fun ad e => by cases e; exact hr)⟩
/-- The copy at its start. -/
structure Cy0 (w : World) (s : Sn) (us : Value) (W : World) : Prop where
  g1 : W.heap[w.heap.size]? = some (.cells #[.int .i64 s.p, us, .int .u64 (s.r : Int)] 26 (0, 0))
  g2 : W.heap[w.heap.size + 1]? = some (.cells #[.int .i64 0, .slice none 0 0, .int .u64 0] 26 (0, 0))
  g3 : W.heap[w.heap.size + 2]? = some (.cells #[.int .i64 s.p, us, .int .u64 (s.r : Int)] 26 (0, 0))
  sz : W.heap.size = w.heap.size + 3
  bl : Below w.heap.size w W
theorem Cy0.new (w : World) (s : Sn) (us : Value) : Cy0 w s us (((w.alloc (.cells #[.int .i64 s.p, us, .int .u64 (s.r : Int)] 26)).alloc (.cells #[.int .i64 0, .slice none 0 0, .int .u64 0] 26)).alloc (.cells #[.int .i64 s.p, us, .int .u64 (s.r : Int)] 26)) := by
  have n1 := new_1 w (.cells #[.int .i64 s.p, us, .int .u64 (s.r : Int)] 26)
  have n2 := new_1 (w.alloc (.cells #[.int .i64 s.p, us, .int .u64 (s.r : Int)] 26)) (.cells #[.int .i64 0, .slice none 0 0, .int .u64 0] 26)
  have n3 := new_1 ((w.alloc (.cells #[.int .i64 s.p, us, .int .u64 (s.r : Int)] 26)).alloc (.cells #[.int .i64 0, .slice none 0 0, .int .u64 0] 26)) (.cells #[.int .i64 s.p, us, .int .u64 (s.r : Int)] 26)
  have e1 : (w.alloc (.cells #[.int .i64 s.p, us, .int .u64 (s.r : Int)] 26)).heap.size = w.heap.size + 1 := by simp
  have e2 : ((w.alloc (.cells #[.int .i64 s.p, us, .int .u64 (s.r : Int)] 26)).alloc (.cells #[.int .i64 0, .slice none 0 0, .int .u64 0] 26)).heap.size = w.heap.size + 2 := by simp
  rw [e1] at n2
  rw [e2] at n3
  exact ⟨hkN (hkN n1 (bel1 _ _)) (bel1 _ _), hkN n2 (bel1 _ _), n3, by simp, bt (bt (bel1 _ _) (bel1 _ _)) (bel1 _ _)⟩
/-- The copy while it comes to be. -/
structure Cy (w : World) (s : Sn) (us v : Value) (J : List Rv) (W : World) : Prop where
  g1 : W.heap[w.heap.size]? = some (.cells #[.int .i64 s.p, us, .int .u64 (s.r : Int)] 26 (0, 0))
  g2 : W.heap[w.heap.size + 1]? = some (.cells #[.int .i64 0, .slice none 0 0, .int .u64 0] 26 (0, 0))
  g3 : W.heap[w.heap.size + 2]? = some (.cells #[.int .i64 s.p, v, .int .u64 (s.r : Int)] 26 (0, 0))
  own : W.ownsRow (w.heap.size + 3) 45 11 v J.length (flV J)
  el : ∀ r ∈ J, OwnL (w.heap.size + 3) r.2.1 r.1.d.labels W ∧ OwnC (w.heap.size + 3) r.2.2 r.1.cs W
  dj : Dj J
  bl : Below w.heap.size w W
theorem Cy.size {w W : World} {s : Sn} {us v : Value} {J : List Rv} (h : Cy w s us v J W) : w.heap.size + 3 ≤ W.heap.size := (Array.getElem?_eq_some_iff.1 h.g3).1
theorem Cy.start {w w0 W : World} {s : Sn} {us v : Value} (h : Cy0 w s us w0) (hb : Below w0.heap.size w0 W) (hown : W.ownsRow (w.heap.size + 3) 45 11 v 0 []) : Cy w s us v [] (W.setCell ⟨w.heap.size + 2, 1, none⟩ v) := by
  refine ⟨?_, ?_, ?_, ?_, (fun r hr => by cases hr), Dj.nil, ?_⟩
  · rw [heap_other _ _ _ _ (by show _ ≠ w.heap.size + 2; omega)]
    exact hkN h.g1 hb
  · rw [heap_other _ _ _ _ (by show _ ≠ w.heap.size + 2; omega)]
    exact hkN h.g2 hb
  · rw [heap_setCell_same _ _ 1 _ _ _ (hkN h.g3 hb)]
    rfl
  · exact own_set hown (own_ne hown (by show w.heap.size + 2 < _; omega)) v
  · exact Below.setCell (p := ⟨w.heap.size + 2, 1, none⟩) (bt h.bl hb) (by show w.heap.size ≤ w.heap.size + 2; omega) v
/-- What stays of the blocks while the row grows. -/
theorem Cy.block {w W0 W1 W' : World} {s : Sn} {us v : Value} {J : List Rv} (h : Cy w s us v J W0) (hb : Below W0.heap.size W0 W1) (hg : W1.grownBy W' v.ownBlock) {k : Nat} {o : Obj} (hk : k < w.heap.size + 3) (e : W0.heap[k]? = some o) : W'.heap[k]? = some o := by
  rw [hg.block k (by have := hb.size; have := h.size; omega) (fun q => own_ne h.own hk q.symm)]
  exact hkN e hb
/-- One more value, stored. -/
theorem Cy.push {w W0 W1 W' : World} {s : Sn} {us v v' : Value} {J : List Rv} {r : Rv} (h : Cy w s us v J W0) (hb : Below W0.heap.size W0 W1) (hl : OwnL W0.heap.size r.2.1 r.1.d.labels W1) (hc : OwnC W0.heap.size r.2.2 r.1.cs W1) (hown : W'.ownsRow (w.heap.size + 3) 45 11 v' (J.length + 1) (flV J ++ flV [r])) (hg : W1.grownBy W' v.ownBlock) : Cy w s us v' (J ++ [r]) (W'.setCell ⟨w.heap.size + 2, 1, none⟩ v') := by
  have hs := h.size
  have h1 := own_belG h.own hb
  have key : ∀ (e : TypeId) (u : Value) (n : Nat) (xs : List Value), e ≠ 45 → W1.ownsRow (w.heap.size + 3) e 2 u n xs → (W'.setCell ⟨w.heap.size + 2, 1, none⟩ v').ownsRow (w.heap.size + 3) e 2 u n xs := fun e u n xs hne k => by
    have k1 := World.ownsRow.kept k hg (own_apart k h1 hne)
    exact own_set k1 (own_ne k1 (by show w.heap.size + 2 < _; omega)) v'
  refine ⟨?_, ?_, ?_, ?_, fun q hq => ?_, ?_, ?_⟩
  · rw [heap_other _ _ _ _ (by show _ ≠ w.heap.size + 2; omega)]
    exact h.block hb hg (by omega) h.g1
  · rw [heap_other _ _ _ _ (by show _ ≠ w.heap.size + 2; omega)]
    exact h.block hb hg (by omega) h.g2
  · rw [heap_setCell_same _ _ 1 _ _ _ (h.block hb hg (by omega) h.g3)]
    rfl
  · rw [List.length_append, flV_append]
    exact own_set hown (own_ne hown (by show w.heap.size + 2 < _; omega)) v'
  · rcases List.mem_append.1 hq with k | k
    · exact ⟨key _ _ _ _ typesLV (own_belG (h.el q k).1 hb), key _ _ _ _ typesCV (own_belG (h.el q k).2 hb)⟩
    · rw [List.mem_singleton] at k
      subst k
      exact ⟨key _ _ _ _ typesLV (own_leG hl hs), key _ _ _ _ typesCV (own_leG hc hs)⟩
  · exact h.dj.push (fun x hx => ⟨ap_of (h.el x hx).1 hl, ap_of (h.el x hx).2 hc⟩)
  · refine Below.setCell (p := ⟨w.heap.size + 2, 1, none⟩) ((bt h.bl hb).grown hg (by have := hb.size; omega) (fun k e => ?_)) (by show w.heap.size ≤ w.heap.size + 2; omega) v'
    rcases own_atG h.own with q | ⟨g, q, q1, _⟩
    · rw [q] at e; cases e
    · rw [q] at e; cases e; omega
/-- What Copy tells. -/
def CyQ (w : World) (s : Sn) (e : Ending) (w' : World) : Prop := ∃ u J, e = .returned (.agg #[.int .i64 s.p, u, .int .u64 (s.r : Int)]) ∧ Below w.heap.size w w' ∧ JV w u J w' ∧ J.map (·.1) = s.vs
theorem Cy.fin {w W : World} {s : Sn} {us v : Value} {J : List Rv} (h : Cy w s us v J W) (x y z : Value) : JV w v J (put3 W (w.heap.size + 1) x y z) := by
  have hs := h.size
  have hsz : (put3 W (w.heap.size + 1) x y z).heap.size = W.heap.size := by
    unfold put3
    simp only [World.setCell, Array.size_modify]
  refine ⟨⟨own_leG (own_put3 h.own (own_ne h.own (by omega)) x y z) (by omega), put3_bel h.bl (by omega) x y z, by rw [hsz]; omega⟩, fun r hr => ?_, h.dj⟩
  obtain ⟨k1, k2⟩ := h.el r hr
  exact ⟨own_leG (own_put3 k1 (own_ne k1 (by omega)) x y z) (by omega), own_leG (own_put3 k2 (own_ne k2 (by omega)) x y z) (by omega)⟩
/-- A value on its way. -/
structure Ci (W0 : World) (x : Vl) (lv cv : Value) (W : World) : Prop where
  g5 : W.heap[W0.heap.size]? = some (.cells (vc x lv cv) 45 (0, 0))
  bl : Below W0.heap.size W0 W
theorem Ci.below {W0 W W1 : World} {x : Vl} {lv cv : Value} (h : Ci W0 x lv cv W) (hb : Below W.heap.size W W1) : Ci W0 x lv cv W1 := ⟨hkN h.g5 hb, bt h.bl hb⟩
theorem Ci.size {W0 W : World} {x : Vl} {lv cv : Value} (h : Ci W0 x lv cv W) : W0.heap.size + 1 ≤ W.heap.size := (Array.getElem?_eq_some_iff.1 h.g5).1
theorem Ci.grow {W0 W W1 : World} {x : Vl} {lv cv : Value} {g : Nat} (h : Ci W0 x lv cv W) (hg : W.grownBy W1 (some g)) (hl : W0.heap.size < g) : Ci W0 x lv cv W1 :=
  ⟨(hg.block _ (Array.getElem?_eq_some_iff.1 h.g5).1 (fun e => by cases e; omega)).trans h.g5, h.bl.grown hg (by have := h.size; omega) (fun k e => by cases e; omega)⟩
theorem Ci.set3 {W0 W : World} {x : Vl} {lv cv u : Value} (h : Ci W0 x lv cv W) : Ci W0 x u cv (W.setCell ⟨W0.heap.size, 3, none⟩ u) := ⟨set3_heap h.g5, h.bl.setCell (p := ⟨W0.heap.size, 3, none⟩) (Nat.le_refl _) u⟩
theorem Ci.set6 {W0 W : World} {x : Vl} {lv cv u : Value} (h : Ci W0 x lv cv W) : Ci W0 x lv u (W.setCell ⟨W0.heap.size, 6, none⟩ u) := ⟨set6_heap h.g5, h.bl.setCell (p := ⟨W0.heap.size, 6, none⟩) (Nat.le_refl _) u⟩
/-- append of one value to the copies. -/
theorem wpList_cy {w0 W0 w : World} {ops : Array Oper} {rest : List Oper} {o : Oper} {a : Act} {Q : Exit → Act → World → Prop} (hgd : o.guard = none) (s x : Operand)
    (ho : o.op = .call { callee := .builtin .append, args := #[s, x], argTypes := #[23, 23] }) {sn : Sn} {us v : Value} {J : List Rv} (hs : a.eval s = v) (hC : Cy w0 sn us v J W0) (hb : Below W0.heap.size W0 w) (hl : J.length ≤ 1048576) (k : Nat) (hx : a.eval x = .slice (some ⟨k, 0, none⟩) 1 1) (r : Rv) (h1 : OwnL W0.heap.size r.2.1 r.1.d.labels w) (h2 : OwnC W0.heap.size r.2.2 r.1.cs w)
    (hk : w.heap[k]? = some (.cells (cl r).toArray 45 (0, 0)))
    (h : ∀ v' w', w'.ownsRow (w0.heap.size + 3) 45 11 v' (J.length + 1) (flV J ++ flV [r]) → w.grownBy w' v.ownBlock → wpList Tryz.prog ops Q rest (a.put o.dst v') w') : wpList Tryz.prog ops Q (o :: rest) a w := by
  obtain ⟨i0, hi, hz0, hz1, hz2⟩ := info_parts infoV
  have hz : Lz [r] := by
    obtain ⟨_, _, _, e1, _⟩ := own_slice h1
    obtain ⟨_, _, _, e2, _⟩ := own_slice h2
    exact lz_one ⟨by rw [e1]; rfl, by rw [e2]; rfl⟩
  refine wpList_append_own w hgd s x _ ho (w0.heap.size + 3) 45 i0 _ 11 136 Tryz.underlying23 hi hz0 hz1 hz2 rfl (by decide) v J.length (flV J) hs (own_belG hC.own hb) ⟨k, 0, none⟩ 1 1 (flV [r]) hx (by rw [flV_length]; rfl) (World.news_of_block (by simpa [flV] using hk)) (flV_one _ hz) (by unfold maxLen; omega) (by omega) (by have := hC.size; have := hb.size; omega) ?_
  intro v' w' h3 h4 _
  exact h v' w' h3 h4
set_option maxRecDepth 100000 in
set_option maxHeartbeats 8000000 in
theorem copy_any (s : Sn) (v : Value) (w : World) (hv : SnAt w s v) (hl : s.vs.length ≤ 1048576) (hx : ∀ x ∈ s.vs, x.d.labels.length ≤ 1048576 ∧ x.cs.length ≤ 1048576) :
    Calls Tryz.prog 24 #[v] w fun e w' => CyQ w s e w' := by
  obtain ⟨us, rfl, su⟩ := hv
  obtain ⟨ao, b1, o1, cap, rfl, hao, -, -, hr⟩ := su.open
  have HR := hid_of hr
  have HX := hid_of hx
  have HN := hid_of (Cy0.new w s (.slice ao s.vs.length cap))
  have hwl : IntKind.i64.wrap ((s.vs.length : Int) + 2) = (s.vs.length : Int) + 2 := by rw [IntKind.wrap_i64]; omega
  have sF := store_f
  clear su hr hx
  go_enter Tryz.func24, Tryz.ntmps24
  go_upto_region 2 with fail
  generalize ((w.alloc (.cells #[.int .i64 s.p, .slice ao s.vs.length cap, .int .u64 (s.r : Int)] 26)).alloc (.cells #[.int .i64 0, .slice none 0 0, .int .u64 0] 26)).alloc (.cells #[.int .i64 s.p, .slice ao s.vs.length cap, .int .u64 (s.r : Int)] 26) = w0 at HN ⊢
  go_cut [] from 8 to 14 (fun W => ∃ v, Hid (Cy w s (.slice ao s.vs.length cap) v [] W))
  case first =>
    obtain ⟨c0, c1, c2, _, _, _⟩ := three_cells HN.out.g1
    obtain ⟨i0, hi0, hz0, hz1, hz2⟩ := info_parts infoV
    have hz0' := hid_of hz0
    have hz1' := hid_of hz1
    have hz2' := hid_of hz2
    clear hz0 hz1 hz2
    go_wp2_with (first
      | (refine wpList_make_own _ rfl _ _ 23 rfl (w.heap.size + 3) 45 i0 _ 11 Tryz.underlying23 hi0 hz0'.out hz1'.out .i64 .i64 _ (s.vs.length + 2) rfl rfl (by first | rfl | omega | simp) (by rw [hz2'.out]; omega) (by unfold maxLen; omega) (by have := HN.out.sz; omega) ?_; intro w3 hown hgr; obtain ⟨e0, e1, e2, f0, f1, f2⟩ := three_cells (hkN HN.out.g3 (bel_gn hgr))))
    go_meet
    exact ⟨_, Cy.start HN.out (bel_gn hgr) hown⟩
  case rest =>
  obtain ⟨v0, HC0⟩ := hcut
  clear HN
  go_upto_region 4 with fail
  go_loopw [4] (fun x W => ∃ (i : Nat) (v : Value) (J : List Rv), i ≤ s.vs.length ∧ x = .int .i64 (i : Int) ∧ Hid (J.map (·.1) = s.vs.take i) ∧ Hid (Cy w s (.slice ao s.vs.length cap) v J W)) (fun x _ => s.vs.length - (intOf x).toNat)
  case atStart => exact ⟨0, v0, [], by omega, rfl, hid_of rfl, HC0⟩
  case round =>
    clear HC0
    obtain ⟨i, v, J, hi, rfl, HJ, HC⟩ := hrel
    obtain ⟨c0, c1, c2, _, _, _⟩ := three_cells HC.out.g1
    by_cases hlt : i < s.vs.length
    · have hlt' : (i : Int) < (s.vs.length : Int) := by omega
      obtain rfl := hao (by intro e; rw [e] at hlt; simp at hlt)
      obtain ⟨lv, cv, g1, g2, g3⟩ := HR.out.below HC.out.bl i hlt
      obtain ⟨la, lc, rfl⟩ := g2.form
      obtain ⟨ca, cc, rfl⟩ := g3.form
      have hix := index_val b1 o1 s.vs.length cap i (i : Int) rfl hlt
      obtain ⟨r0, r1, r2, r3, r4, r5, r6, r7, r8, r9, r10⟩ := g1.cC
      have HL := hid_of g2
      have HCn := hid_of g3
      have HXi := hid_of (HX.out _ (List.getElem_mem hlt))
      have HN5 : Hid (Ci wr s.vs[i] (.slice la s.vs[i].d.labels.length lc) (.slice ca s.vs[i].cs.length cc) (wr.alloc (.cells (vc s.vs[i] (.slice la s.vs[i].d.labels.length lc) (.slice ca s.vs[i].cs.length cc)) 45))) := ⟨new_1 _ _, bel1 _ _⟩
      clear g1 g2 g3
      go_upto_region 7 with fail
      obtain ⟨w5, hw5⟩ : ∃ w5, wr.alloc (.cells (vc s.vs[i] (.slice la s.vs[i].d.labels.length lc) (.slice ca s.vs[i].cs.length cc)) 45) = w5 := ⟨_, rfl⟩
      rw [hw5] at HN5
      simp only [vc] at hw5
      rw [hw5]
      clear hw5 c0 c1 c2 r0 r1 r2 r3 r4 r5 r6 r7 r8 r9 r10 hix
      go_cut [6] from 27 to 32 (fun x W => ∃ g, x = .slice (some ⟨g, 0, none⟩) 0 (s.vs[i].d.labels.length + 2) ∧ Hid (wr.heap.size < g) ∧ Hid (Ci wr s.vs[i] (.slice la s.vs[i].d.labels.length lc) (.slice ca s.vs[i].cs.length cc) W) ∧ Hid (W.ownsRow (wr.heap.size + 1) 79 2 (.slice (some ⟨g, 0, none⟩) 0 (s.vs[i].d.labels.length + 2)) 0 []))
      case first =>
        obtain ⟨k0, k1, k2, k3, k4, k5, k6, k7, k8, k9, k10⟩ := eleven_cells (hid_of HN5.out.g5)
        obtain ⟨i0, hi0, hz0, hz1, hz2⟩ := info_parts infoLabel
        have hz0' := hid_of hz0
        have hz1' := hid_of hz1
        have hz2' := hid_of hz2
        clear hz0 hz1 hz2
        obtain ⟨q1, q2⟩ := HXi.out
        have hw2 : IntKind.i64.wrap ((s.vs[i].d.labels.length : Int) + 2) = (s.vs[i].d.labels.length : Int) + 2 := by rw [IntKind.wrap_i64]; omega
        go_wp2_with (first
          | (refine wpList_make_own _ rfl _ _ 34 rfl (wr.heap.size + 1) 79 i0 _ 2 Tryz.underlying34 hi0 hz0'.out hz1'.out .i64 .i64 _ (s.vs[i].d.labels.length + 2) rfl rfl (by first | rfl | omega | simp) (by rw [hz2'.out]; omega) (by unfold maxLen; omega) (HN5.out.size) ?_; intro w6 hown hgr))
        go_meet
        exact ⟨_, rfl, HN5.out.size, HN5.out.below (bel_gn hgr), hown⟩
      case rest =>
      obtain ⟨gl, rfl, Hgl, HI1, HO1⟩ := hcut
      clear HN5
      go_upto_region 8 with fail
      go_cut [7] from 33 to 37 (fun x W => ∃ g, x = .slice (some ⟨g, 0, none⟩) 0 (s.vs[i].cs.length + 2) ∧ Hid (wr.heap.size < g) ∧ Hid (Ci wr s.vs[i] (.slice la s.vs[i].d.labels.length lc) (.slice ca s.vs[i].cs.length cc) W) ∧ Hid (W.ownsRow (wr.heap.size + 1) 79 2 (.slice (some ⟨gl, 0, none⟩) 0 (s.vs[i].d.labels.length + 2)) 0 []) ∧ Hid (W.ownsRow (wr.heap.size + 1) 57 2 (.slice (some ⟨g, 0, none⟩) 0 (s.vs[i].cs.length + 2)) 0 []))
      case first =>
        obtain ⟨k0, k1, k2, k3, k4, k5, k6, k7, k8, k9, k10⟩ := eleven_cells (hid_of HI1.out.g5)
        obtain ⟨i0, hi0, hz0, hz1, hz2⟩ := info_parts infoC
        have hz0' := hid_of hz0
        have hz1' := hid_of hz1
        have hz2' := hid_of hz2
        clear hz0 hz1 hz2
        obtain ⟨q1, q2⟩ := HXi.out
        have hw2 : IntKind.i64.wrap ((s.vs[i].cs.length : Int) + 2) = (s.vs[i].cs.length : Int) + 2 := by rw [IntKind.wrap_i64]; omega
        go_wp2_with (first
          | (refine wpList_make_own _ rfl _ _ 42 rfl (wr.heap.size + 1) 57 i0 _ 2 Tryz.underlying42 hi0 hz0'.out hz1'.out .i64 .i64 _ (s.vs[i].cs.length + 2) rfl rfl (by first | rfl | omega | simp) (by rw [hz2'.out]; omega) (by unfold maxLen; omega) (HI1.out.size) ?_; intro w6 hown hgr))
        go_meet
        exact ⟨_, rfl, HI1.out.size, HI1.out.below (bel_gn hgr), own_belG HO1.out (bel_gn hgr), hown⟩
      case rest =>
      obtain ⟨gc, rfl, Hgc, HI2, HO2, HP2⟩ := hcut
      clear HI1 HO1
      go_upto_region 9 with fail
      go_cut [] from 38 to 44 (fun W => Hid (Ci wr s.vs[i] (.slice (some ⟨gl, 0, none⟩) s.vs[i].d.labels.length (s.vs[i].d.labels.length + 2)) (.slice ca s.vs[i].cs.length cc) W) ∧ Hid (OwnL (wr.heap.size + 1) (.slice (some ⟨gl, 0, none⟩) s.vs[i].d.labels.length (s.vs[i].d.labels.length + 2)) s.vs[i].d.labels W) ∧ Hid (W.ownsRow (wr.heap.size + 1) 57 2 (.slice (some ⟨gc, 0, none⟩) 0 (s.vs[i].cs.length + 2)) 0 []))
      case first =>
        obtain ⟨k0, k1, k2, k3, k4, k5, k6, k7, k8, k9, k10⟩ := eleven_cells (hid_of HI2.out.g5)
        obtain ⟨i0, hi0, hz0, hz1, hz2⟩ := info_parts infoLabel
        have hz1' := hid_of hz1
        clear hz0 hz1 hz2
        have HSr := hid_of (HL.out.below HI2.out.bl).src
        go_wp2_with (first
          | (at_builtin; refine wpList_append_fits_any _ rfl _ _ 34 rfl (wr.heap.size + 1) 79 i0 2 Tryz.underlying34 hi0 hz1'.out gl 0 (s.vs[i].d.labels.length + 2) [] rfl HO2.out la s.vs[i].d.labels.length lc (flL s.vs[i].d.labels) rfl (flL_length _) HSr.out.1 HSr.out.2 (flL_one _) (by omega) ?_; intro w6 hown hgr; have hI6 := HI2.out.grow hgr Hgl.out; have f3 := hid_fr (hid_of hI6.g5) 3; obtain ⟨y0, y1, y2, y3, y4, y5, y6, y7, y8, y9, y10⟩ := eleven_cells (hid_of hI6.g5)))
        go_meet
        rw [Nat.zero_add, List.nil_append] at hown
        refine ⟨hI6.set3, own_set hown (own_ne hown (Nat.lt_succ_self _)) _, ?_⟩
        have hk := World.ownsRow.kept HP2.out hgr (own_apart HP2.out HO2.out (by decide))
        exact own_set hk (own_ne hk (Nat.lt_succ_self _)) _
      case rest =>
      obtain ⟨HI3, HO3, HP3⟩ := hcut
      clear HI2 HO2 HP2
      go_upto_region 10 with fail
      go_cut [] from 45 to 49 (fun W => Hid (Ci wr s.vs[i] (.slice (some ⟨gl, 0, none⟩) s.vs[i].d.labels.length (s.vs[i].d.labels.length + 2)) (.slice (some ⟨gc, 0, none⟩) s.vs[i].cs.length (s.vs[i].cs.length + 2)) W) ∧ Hid (OwnL (wr.heap.size + 1) (.slice (some ⟨gl, 0, none⟩) s.vs[i].d.labels.length (s.vs[i].d.labels.length + 2)) s.vs[i].d.labels W) ∧ Hid (OwnC (wr.heap.size + 1) (.slice (some ⟨gc, 0, none⟩) s.vs[i].cs.length (s.vs[i].cs.length + 2)) s.vs[i].cs W))
      case first =>
        obtain ⟨k0, k1, k2, k3, k4, k5, k6, k7, k8, k9, k10⟩ := eleven_cells (hid_of HI3.out.g5)
        obtain ⟨i0, hi0, hz0, hz1, hz2⟩ := info_parts infoC
        have hz1' := hid_of hz1
        clear hz0 hz1 hz2
        have HSr := hid_of (HCn.out.below HI3.out.bl).src
        go_wp2_with (first
          | (at_builtin; refine wpList_append_fits_any _ rfl _ _ 42 rfl (wr.heap.size + 1) 57 i0 2 Tryz.underlying42 hi0 hz1'.out gc 0 (s.vs[i].cs.length + 2) [] rfl HP3.out ca s.vs[i].cs.length cc (fl s.vs[i].cs) rfl (fl_length _) HSr.out.1 HSr.out.2 (fl_one _) (by omega) ?_; intro w6 hown hgr; have hI6 := HI3.out.grow hgr Hgc.out; have f6 := hid_fr (hid_of hI6.g5) 6; obtain ⟨y0, y1, y2, y3, y4, y5, y6, y7, y8, y9, y10⟩ := eleven_cells (hid_of hI6.g5)))
        go_meet
        rw [Nat.zero_add, List.nil_append] at hown
        have hk := World.ownsRow.kept HO3.out hgr (own_apart HO3.out HP3.out (by decide))
        exact ⟨hI6.set6, own_set hk (own_ne hk (Nat.lt_succ_self _)) _, own_set hown (own_ne hown (Nat.lt_succ_self _)) _⟩
      case rest =>
      obtain ⟨HI4, HO4, HP4⟩ := hcut
      clear HI3 HO3 HP3 Hgl Hgc HL HCn
      go_upto_region 11 with fail
      obtain ⟨av, gv, cpv, rfl, -⟩ := own_slice HC.out.own
      obtain ⟨c0, c1, c2, _, _, _⟩ := three_cells (hkN HC.out.g3 HI4.out.bl)
      obtain ⟨k0, k1, k2, k3, k4, k5, k6, k7, k8, k9, k10⟩ := eleven_cells (hid_of HI4.out.g5)
      have HJl : Hid (J.length ≤ 1048576) := by
        have := congrArg List.length HJ.out
        rw [List.length_map, List.length_take] at this
        unfold Hid
        omega
      go_wp2_with (first
        | (at_builtin; refine wpList_cy rfl _ _ rfl rfl HC.out (bt HI4.out.bl (bel1 _ _)) HJl.out _ rfl (s.vs[i], .slice (some ⟨gl, 0, none⟩) s.vs[i].d.labels.length (s.vs[i].d.labels.length + 2), .slice (some ⟨gc, 0, none⟩) s.vs[i].cs.length (s.vs[i].cs.length + 2)) (own_leG (own_belG HO4.out (bel1 _ _)) (Nat.le_succ _)) (own_leG (own_belG HP4.out (bel1 _ _)) (Nat.le_succ _)) (new_1 _ _) ?_; intro v8 w8 hown8 hg8; obtain ⟨a8, g8, n8, rfl, -⟩ := own_slice hown8; obtain ⟨y0, y1, y2, f0, f1, f2⟩ := three_cells (HC.out.block (bt HI4.out.bl (bel1 _ _)) hg8 (by omega) HC.out.g3)))
      refine ⟨⟨i + 1, .slice a8 (J.length + 1) n8, J ++ [(s.vs[i], .slice (some ⟨gl, 0, none⟩) s.vs[i].d.labels.length (s.vs[i].d.labels.length + 2), .slice (some ⟨gc, 0, none⟩) s.vs[i].cs.length (s.vs[i].cs.length + 2))], by omega, by go_num, ?_, ?_⟩, by simp [intOf]; omega⟩
      · unfold Hid
        rw [List.map_append, HJ.out, List.take_succ_eq_append_getElem hlt]
        rfl
      · exact HC.out.push (bt HI4.out.bl (bel1 _ _)) (own_leG (own_belG HO4.out (bel1 _ _)) (Nat.le_succ _)) (own_leG (own_belG HP4.out (bel1 _ _)) (Nat.le_succ _)) hown8 hg8
    · have hlt' : ¬ (i : Int) < (s.vs.length : Int) := by omega
      obtain ⟨av, gv, cpv, rfl, -⟩ := own_slice HC.out.own
      obtain ⟨d0, d1, d2, _, _, _⟩ := three_cells HC.out.g3
      obtain ⟨z0, z1, z2, f0, f1, f2⟩ := three_cells HC.out.g2
      have HS := hid_of (set_three (x := .int .i64 s.p) (y := .slice av J.length cpv) (z := .int .u64 (s.r : Int)) HC.out.g2)
      have HF := hid_of (HC.out.fin (.int .i64 s.p) (.slice av J.length cpv) (.int .u64 (s.r : Int)))
      have HJe : Hid (J.map (·.1) = s.vs) := by
        have := HJ.out
        rw [List.take_of_length_le (by omega)] at this
        exact this
      clear HJ HC HR HX
      go_wp2_with fail
      rw [put3_eq]
      obtain ⟨y0, y1, y2, _, _, _⟩ := three_cells HS.out
      simp [bodyPost, results, go_sem, y0, y1, y2]
      exact ⟨_, J, rfl, HF.out.g.below, HF.out, HJe.out⟩
end Go.Proofs.YtckdkcnnfjbdmaaGreat
/- THE LAW'S alike: two snapshots but for their sums. Own work of the verifier. -/
namespace Go.Proofs.YtckdkcnnfjbdmaaGreat
open Go.RowKit Me

/-- Values with lists of their own. -/
structure OR (B : Nat) (v : Value) (J : List Rv) (W : World) : Prop where
  own : W.ownsRow B 45 11 v J.length (flV J)
  el : ∀ r ∈ J, OwnL B r.2.1 r.1.d.labels W ∧ OwnC B r.2.2 r.1.cs W
theorem JV.or {w W : World} {v : Value} {J : List Rv} (h : JV w v J W) : OR w.heap.size v J W := ⟨h.g.own, h.el⟩
theorem OR.below {B : Nat} {v : Value} {J : List Rv} {W W1 : World} (h : OR B v J W) (hb : Below W.heap.size W W1) : OR B v J W1 := ⟨own_belG h.own hb, fun r hr => ⟨own_belG (h.el r hr).1 hb, own_belG (h.el r hr).2 hb⟩⟩
theorem OR.mono {B B' : Nat} {v : Value} {J : List Rv} {W : World} (h : OR B v J W) (hb : B' ≤ B) : OR B' v J W := ⟨own_leG h.own hb, fun r hr => ⟨own_leG (h.el r hr).1 hb, own_leG (h.el r hr).2 hb⟩⟩
theorem OR.sv {B : Nat} {v : Value} {J : List Rv} {W : World} (h : OR B v J W) (hB : B ≤ W.heap.size) : SV W v (J.map (·.1)) := GV.sv (B := B) (W0 := W) ⟨h.own, ⟨rfl, rfl, rfl, Nat.le_refl _, fun _ _ => rfl⟩, hB⟩ (fun r hr => ⟨(h.el r hr).1.slb, (h.el r hr).2.sn hB⟩)
/-- .. while a block is written that lies ahead of them. -/
theorem OR.put3 {B b : Nat} {v : Value} {J : List Rv} {W : World} (h : OR B v J W) (hb : b < B) (x y z : Value) : OR B v J (put3 W b x y z) := ⟨own_put3 h.own (own_ne h.own hb) x y z, fun r hr => ⟨own_put3 (h.el r hr).1 (own_ne (h.el r hr).1 hb) x y z, own_put3 (h.el r hr).2 (own_ne (h.el r hr).2 hb) x y z⟩⟩
theorem flV_put : ∀ (J : List Rv) (m j : Nat) (u : Value) (r : Rv) (hm : m < J.length) (_ : j < 11) (_ : (cl J[m]).set j u = cl r), (flV J).set (m * 11 + j) u = flV (J.set m r)
  | [], m, _, _, _, hm, _, _ => absurd hm (by simp)
  | c :: L, 0, j, u, r, _, hj, h => by
    show (cl c ++ flV L).set (0 * 11 + j) u = cl r ++ flV L
    rw [show 0 * 11 + j = j by omega, List.set_append_left _ _ (by simp; omega)]
    have h' : (cl c).set j u = cl r := h
    rw [h']
  | c :: L, m + 1, j, u, r, hm, hj, h => by
    show (cl c ++ flV L).set ((m + 1) * 11 + j) u = cl c ++ flV (L.set m r)
    rw [List.set_append_right _ _ (by simp; omega), show (m + 1) * 11 + j - (cl c).length = m * 11 + j by simp; omega]
    have hm' : m < L.length := by simpa using hm
    have h' : (cl L[m]).set j u = cl r := h
    rw [flV_put L m j u r hm' hj h']
/-- A cell of one of them is written. -/
theorem OR.cell {B g cap m j : Nat} {J : List Rv} {W : World} {u : Value} {r : Rv} (h : OR B (.slice (some ⟨g, 0, none⟩) J.length cap) J W) (hm : m < J.length) (hj : j < 11) (e : (cl J[m]).set j u = cl r) (e1 : r.2 = J[m].2) (e2 : r.1.d.labels = J[m].1.d.labels) (e3 : r.1.cs = J[m].1.cs) : OR B (.slice (some ⟨g, 0, none⟩) J.length cap) (J.set m r) (W.setCell ⟨g, m * 11 + j, none⟩ u) := by
  obtain ⟨s0, _⟩ := h.own.stored (m * 11 + j) u
  rw [flV_put J m j u r hm hj e] at s0
  have hne : ∀ {e : TypeId} {n : Nat} {v : Value} {xs : List Value}, W.ownsRow B e 2 v n xs → e ≠ 45 → (W.setCell ⟨g, m * 11 + j, none⟩ u).ownsRow B e 2 v n xs := fun {e n v xs} k ke => by
    refine own_set k ?_ u
    rcases own_apart k h.own ke with q | q
    · rw [q]; simp
    · exact q
  refine ⟨by rw [List.length_set]; exact s0, fun q hq => ?_⟩
  rcases List.mem_or_eq_of_mem_set hq with k | k
  · exact ⟨hne (h.el q k).1 typesLV, hne (h.el q k).2 typesCV⟩
  · subst k
    obtain ⟨k1, k2⟩ := h.el J[m] (List.getElem_mem hm)
    rw [e1, e2, e3]
    exact ⟨hne k1 typesLV, hne k2 typesCV⟩
/-- Others stay then. -/
theorem OR.other {B g n k cap : Nat} {v u : Value} {J : List Rv} {W : World} {xs : List Value} (h : OR B v J W) (hv : Ap (.slice (some ⟨g, 0, none⟩) n cap) v) (hg : W.ownsRow B 45 11 (.slice (some ⟨g, 0, none⟩) n cap) n xs) : OR B v J (W.setCell ⟨g, k, none⟩ u) := by
  have hne : ∀ {e : TypeId} {n : Nat} {v : Value} {xs : List Value}, W.ownsRow B e 2 v n xs → e ≠ 45 → (W.setCell ⟨g, k, none⟩ u).ownsRow B e 2 v n xs := fun {e n v xs} k ke => by
    refine own_set k ?_ u
    rcases own_apart k hg ke with q | q
    · rw [q]; simp
    · exact q
  exact ⟨own_set h.own (hv g rfl) u, fun r hr => ⟨hne (h.el r hr).1 typesLV, hne (h.el r hr).2 typesCV⟩⟩
/-- The two copies. -/
structure Al (w : World) (x y : Sn) (ua ub : Value) (J K : List Rv) (W : World) : Prop where
  g1 : W.heap[w.heap.size]? = some (.cells #[.int .i64 x.p, ua, .int .u64 (x.r : Int)] 26 (0, 0))
  g2 : W.heap[w.heap.size + 1]? = some (.cells #[.int .i64 y.p, ub, .int .u64 (y.r : Int)] 26 (0, 0))
  oa : OR (w.heap.size + 2) ua J W
  ob : OR (w.heap.size + 2) ub K W
  ne : Ap ua ub
  bl : Below w.heap.size w W
theorem Al.size {w W : World} {x y : Sn} {ua ub : Value} {J K : List Rv} (h : Al w x y ua ub J K W) : w.heap.size + 2 ≤ W.heap.size := (Array.getElem?_eq_some_iff.1 h.g2).1
theorem Al.new {w W : World} {x y : Sn} {va vb ua ub : Value} {J K : List Rv} (h : Sb w x y va vb W) (hA : OR (w.heap.size + 2) ua J W) (hB : OR (w.heap.size + 2) ub K W) (ne : Ap ua ub) : Al w x y ua ub J K (put3 (put3 W w.heap.size (.int .i64 x.p) ua (.int .u64 (x.r : Int))) (w.heap.size + 1) (.int .i64 y.p) ub (.int .u64 (y.r : Int))) := by
  have ho : ∀ (W : World) (b k : Nat) (x y z : Value), k ≠ b → (put3 W b x y z).heap[k]? = W.heap[k]? := fun W b k x y z hk => by
    unfold put3
    rw [heap_other _ _ _ _ hk, heap_other _ _ _ _ hk, heap_other _ _ _ _ hk]
  refine ⟨?_, ?_, ?_, ?_, ne, ?_⟩
  · rw [ho _ _ _ _ _ _ (by omega)]
    exact set_three h.g1
  · exact set_three (by rw [ho _ _ _ _ _ _ (by omega)]; exact h.g2)
  · exact (hA.put3 (by omega) _ _ _).put3 (by omega) _ _ _
  · exact (hB.put3 (by omega) _ _ _).put3 (by omega) _ _ _
  · exact put3_bel (put3_bel h.bl (Nat.le_refl _) _ _ _) (by omega) _ _ _
/-- A sum of the first is struck out. -/
theorem Al.zero1 {w W : World} {x y : Sn} {g n cap m : Nat} {ub : Value} {J K : List Rv} (h : Al w x y (.slice (some ⟨g, 0, none⟩) n cap) ub J K W) (hn : J.length = n) (hm : m < J.length) : Al w x y (.slice (some ⟨g, 0, none⟩) n cap) ub (J.set m (z0 J[m].1, J[m].2)) K (W.setCell ⟨g, m * 11 + 8, none⟩ (.float .f64 0)) := by
  subst hn
  have hg : w.heap.size + 2 ≤ g := by
    rcases own_atG h.oa.own with k | ⟨g', k, k1, _⟩
    · cases k
    · cases k; exact k1
  refine ⟨?_, ?_, h.oa.cell hm (by omega) rfl rfl rfl rfl, h.ob.other h.ne h.oa.own, h.ne, h.bl.setCell (p := ⟨g, m * 11 + 8, none⟩) (by show w.heap.size ≤ g; omega) _⟩
  · rw [heap_other _ _ _ _ (by show _ ≠ g; omega)]
    exact h.g1
  · rw [heap_other _ _ _ _ (by show _ ≠ g; omega)]
    exact h.g2
theorem Al.zero2 {w W : World} {x y : Sn} {g n cap m : Nat} {ua : Value} {J K : List Rv} (h : Al w x y ua (.slice (some ⟨g, 0, none⟩) n cap) J K W) (hn : K.length = n) (hm : m < K.length) : Al w x y ua (.slice (some ⟨g, 0, none⟩) n cap) J (K.set m (z0 K[m].1, K[m].2)) (W.setCell ⟨g, m * 11 + 8, none⟩ (.float .f64 0)) := by
  subst hn
  have hg : w.heap.size + 2 ≤ g := by
    rcases own_atG h.ob.own with k | ⟨g', k, k1, _⟩
    · cases k
    · cases k; exact k1
  refine ⟨?_, ?_, h.oa.other (ap_sym h.ne) h.ob.own, h.ob.cell hm (by omega) rfl rfl rfl rfl, h.ne, h.bl.setCell (p := ⟨g, m * 11 + 8, none⟩) (by show w.heap.size ≤ g; omega) _⟩
  · rw [heap_other _ _ _ _ (by show _ ≠ g; omega)]
    exact h.g1
  · rw [heap_other _ _ _ _ (by show _ ≠ g; omega)]
    exact h.g2
/-- How far the sums are struck out. -/
def Zd (L : List Vl) (i : Nat) (J : List Rv) : Prop := J.map (·.1) = (L.take i).map z0 ++ L.drop i
theorem Zd.len {L : List Vl} {i : Nat} {J : List Rv} (h : Zd L i J) : J.length = L.length := by
  have := congrArg List.length h
  simp only [List.length_map, List.length_append, List.length_take, List.length_drop] at this
  omega
theorem Zd.step {L : List Vl} {i : Nat} {J : List Rv} (h : Zd L i J) (hi : i < L.length) (hj : i < J.length) : Zd L (i + 1) (J.set i (z0 J[i].1, J[i].2)) := by
  unfold Zd at *
  have e : J[i].1 = L[i] := by
    have h1 : (J.map (·.1))[i]? = some J[i].1 := by simp [hj]
    rw [h, List.getElem?_append_right (by simp; omega)] at h1
    simp only [List.length_map, List.length_take] at h1
    rw [show i - min i L.length = 0 by omega, List.getElem?_drop, Nat.add_zero, List.getElem?_eq_getElem hi] at h1
    exact (Option.some.inj h1).symm
  rw [List.map_set, h, e, List.set_append_right _ _ (by simp; omega)]
  simp only [List.length_map, List.length_take]
  rw [show i - min i L.length = 0 by omega, List.drop_eq_getElem_cons hi, List.set_cons_zero, List.take_succ_eq_append_getElem hi, List.map_append, List.append_assoc]
  rfl
theorem Zd.end {L : List Vl} {i : Nat} {J : List Rv} (h : Zd L i J) (hi : L.length ≤ i) : J.map (·.1) = L.map z0 := by
  unfold Zd at h
  rw [h, List.take_of_length_le hi, List.drop_eq_nil_of_le hi, List.append_nil]
set_option maxRecDepth 100000 in
set_option maxHeartbeats 8000000 in
theorem alike_any (x y : Sn) (v u : Value) (hx : SnW x) (hy : SnW y) (w : World) (hv : SnAt w x v) (hu : SnAt w y u) (lx : x.vs.length ≤ 1048576) (ly : y.vs.length ≤ 1048576) (fx : ∀ z ∈ x.vs, z.d.labels.length ≤ 1048576 ∧ z.cs.length ≤ 1048576) (fy : ∀ z ∈ y.vs, z.d.labels.length ≤ 1048576 ∧ z.cs.length ≤ 1048576) :
    Calls Tryz.prog 23 #[v, u] w fun e w' => e = .returned (.bool (smS (z0S x) (z0S y))) ∧ Below w.heap.size w w' := by
  obtain ⟨va, rfl, sa⟩ := hv
  obtain ⟨vb, rfl, sb⟩ := hu
  have HCa : Hid (∀ W, Below w.heap.size w W → Calls Tryz.prog 24 #[.agg #[.int .i64 x.p, va, .int .u64 (x.r : Int)]] W fun e w' => CyQ W x e w') := fun W h => copy_any x _ W ⟨va, rfl, sa.below h⟩ lx fx
  have HCb : Hid (∀ W, Below w.heap.size w W → Calls Tryz.prog 24 #[.agg #[.int .i64 y.p, vb, .int .u64 (y.r : Int)]] W fun e w' => CyQ W y e w') := fun W h => copy_any y _ W ⟨vb, rfl, sb.below h⟩ ly fy
  have HSm : Hid (∀ W a b, SV W a (z0S x).vs → SV W b (z0S y).vs → Calls Tryz.prog 14 #[.agg #[.int .i64 x.p, a, .int .u64 (x.r : Int)], .agg #[.int .i64 y.p, b, .int .u64 (y.r : Int)]] W fun e w' => e = .returned (.bool (smS (z0S x) (z0S y))) ∧ Below W.heap.size W w') := fun W a b h1 h2 => rsames_any (z0S x) (z0S y) _ _ (z0_w hx) (z0_w hy) W ⟨a, rfl, h1⟩ ⟨b, rfl, h2⟩
  obtain ⟨ao, b1, o1, cap, rfl, -⟩ := sa.open
  obtain ⟨bo, b2, o2, cap', rfl, -⟩ := sb.open
  have HN := hid_of (Sb.new w x y (.slice ao x.vs.length cap) (.slice bo y.vs.length cap'))
  have HZ : Hid ((((w.alloc (.cells #[.int .i64 x.p, .slice ao x.vs.length cap, .int .u64 (x.r : Int)] 26)).alloc (.cells #[.int .i64 y.p, .slice bo y.vs.length cap', .int .u64 (y.r : Int)] 26))).heap.size = w.heap.size + 2) := by unfold Hid; simp
  have sF := store_f
  clear sa sb hx hy
  generalize hq : smS (z0S x) (z0S y) = q at *
  clear hq
  unfold CyQ at HCa HCb
  go_enter Tryz.func23, Tryz.ntmps23
  go_upto_region 1 with fail
  generalize (w.alloc (.cells #[.int .i64 x.p, .slice ao x.vs.length cap, .int .u64 (x.r : Int)] 26)).alloc (.cells #[.int .i64 y.p, .slice bo y.vs.length cap', .int .u64 (y.r : Int)] 26) = w0 at HN HZ ⊢
  go_cut [] from 7 to 10 (fun W => ∃ u u' J K, Hid (Al w x y u u' J K W) ∧ Hid (J.map (·.1) = x.vs) ∧ Hid (K.map (·.1) = y.vs))
  case first =>
    obtain ⟨c0, c1, c2, f0, f1, f2⟩ := three_cells HN.out.g1
    obtain ⟨d0, d1, d2, h0, h1, h2⟩ := three_cells HN.out.g2
    go_region_with (first
      | (go_at_call 24; (with_reducible refine (HCa.out _ (bel_drewB HN.out.bl)).mono ?_); rintro e w1 ⟨u1, J1, rfl, hb1, hJ1, hm1⟩; obtain ⟨a1, g1, n1, rfl, -⟩ := own_slice hJ1.g.own; have HN1 := hid_of ((HN.out.below (drew_bel _)).below hb1); obtain ⟨c0', c1', c2', f0', f1', f2'⟩ := three_cells HN1.out.g1; obtain ⟨d0', d1', d2', h0', h1', h2'⟩ := three_cells HN1.out.g2)
      | (go_at_call 24; (with_reducible refine (HCb.out _ HN1.out.bl).mono ?_); rintro e w2 ⟨u2, J2, rfl, hb2, hJ2, hm2⟩; obtain ⟨a2, g2, n2, rfl, -⟩ := own_slice hJ2.g.own; have HN2 := hid_of (HN1.out.below hb2); obtain ⟨c0'', c1'', c2'', f0'', f1'', f2''⟩ := three_cells HN2.out.g1; obtain ⟨d0'', d1'', d2'', h0'', h1'', h2''⟩ := three_cells HN2.out.g2))
    all_goals
      go_wp2_with fail
      go_meet
      rw [put3_eq, put3_eq]
      have hs1 : w.heap.size + 2 ≤ w0.drew.heap.size := Nat.le_of_eq HZ.out.symm
      have hs2 := hb1.size
      exact ⟨_, _, J1, J2, Al.new HN2.out ((hJ1.or.below hb2).mono hs1) (hJ2.or.mono (by omega)) (ap_of hJ1.g.own hJ2.g.own), hm1, hm2⟩
  case rest =>
  obtain ⟨ua, ub, J0, K0, HA0, HJ0, HK0⟩ := hcut
  clear HN HZ HCa HCb
  obtain ⟨va, ga, ca, rfl, hpa, -⟩ := own_slice HA0.out.oa.own
  obtain ⟨vb, gb, cb, rfl, hpb, -⟩ := own_slice HA0.out.ob.own
  have eJ : J0.length = x.vs.length := by rw [← HJ0.out, List.length_map]
  have eK : K0.length = y.vs.length := by rw [← HK0.out, List.length_map]
  rw [eJ, eK] at HA0
  rw [eJ] at hpa
  rw [eK] at hpb
  have HZJ : Hid (Zd x.vs 0 J0) := HJ0.out
  have HZK : Hid (Zd y.vs 0 K0) := HK0.out
  clear HJ0 HK0 eJ eK
  go_upto_region 3 with fail
  go_loopw [5] (fun i W => ∃ (k : Nat) (J : List Rv), k ≤ x.vs.length ∧ i = .int .i64 (k : Int) ∧ Hid (Zd x.vs k J) ∧ Hid (Al w x y (.slice va x.vs.length ca) (.slice vb y.vs.length cb) J K0 W)) (fun i _ => x.vs.length - (intOf i).toNat)
  case atStart => exact ⟨0, J0, by omega, rfl, HZJ, HA0⟩
  case round =>
    clear HZJ HA0
    obtain ⟨k, J, hk, rfl, HZ, HA⟩ := hrel
    obtain ⟨c0, c1, c2, _, _, _⟩ := three_cells HA.out.g1
    by_cases hlt : k < x.vs.length
    · have hlt' : (k : Int) < (x.vs.length : Int) := by omega
      obtain rfl := hpa (by omega)
      have hJl := HZ.out.len
      have hix := index_val ga 0 x.vs.length ca k (k : Int) rfl hlt
      rw [Nat.zero_add] at hix
      have hrow := HA.out.oa.own
      rw [hJl] at hrow
      have h8 := (own_row hrow hJl.symm k (by omega)).c8
      rw [Nat.zero_add] at h8
      have hf8 : wr.frozen? ⟨ga, k * 11 + 8, none⟩ = false := hrow.frozenAt (k * 11 + 8)
      clear hrow
      go_wp2_with fail
      exact ⟨⟨k + 1, _, by omega, by go_num, HZ.out.step hlt (by omega), HA.out.zero1 hJl (by omega)⟩, by simp [intOf]; omega⟩
    · have hlt' : ¬ (k : Int) < (x.vs.length : Int) := by omega
      have HJe := hid_of (HZ.out.end (by omega))
      clear HZ
      go_upto_region 7 with fail
      clear c0 c1 c2
      go_loopw [6] (fun i W => ∃ (k : Nat) (K : List Rv), k ≤ y.vs.length ∧ i = .int .i64 (k : Int) ∧ Hid (Zd y.vs k K) ∧ Hid (Al w x y (.slice va x.vs.length ca) (.slice vb y.vs.length cb) J K W)) (fun i _ => y.vs.length - (intOf i).toNat)
      case atStart => exact ⟨0, K0, by omega, rfl, HZK, HA⟩
      case round =>
        clear HZK HA
        obtain ⟨m, K, hm, rfl, HZ, HA⟩ := hrel
        obtain ⟨c0, c1, c2, _, _, _⟩ := three_cells HA.out.g2
        by_cases hmt : m < y.vs.length
        · have hmt' : (m : Int) < (y.vs.length : Int) := by omega
          obtain rfl := hpb (by omega)
          have hJl := HZ.out.len
          have hix := index_val gb 0 y.vs.length cb m (m : Int) rfl hmt
          rw [Nat.zero_add] at hix
          have hrow := HA.out.ob.own
          rw [hJl] at hrow
          have h8 := (own_row hrow hJl.symm m (by omega)).c8
          rw [Nat.zero_add] at h8
          have hf8 : wr.frozen? ⟨gb, m * 11 + 8, none⟩ = false := hrow.frozenAt (m * 11 + 8)
          clear hrow
          go_wp2_with fail
          exact ⟨⟨m + 1, _, by omega, by go_num, HZ.out.step hmt (by omega), HA.out.zero2 hJl (by omega)⟩, by simp [intOf]; omega⟩
        · have hmt' : ¬ (m : Int) < (y.vs.length : Int) := by omega
          obtain ⟨d0, d1, d2, _, _, _⟩ := three_cells HA.out.g1
          have HV1 : Hid (SV wr (.slice va x.vs.length ca) (z0S x).vs) := by
            have := HA.out.oa.sv HA.out.size
            rw [HJe.out] at this
            exact this
          have HV2 : Hid (SV wr (.slice vb y.vs.length cb) (z0S y).vs) := by
            have := HA.out.ob.sv HA.out.size
            rw [HZ.out.end (by omega)] at this
            exact this
          have HBl := hid_of HA.out.bl
          clear HA HZ HJe
          go_wp2_with (go_at_call 14; (with_reducible refine (HSm.out _ _ _ HV1.out HV2.out).mono ?_); rintro e w9 ⟨rfl, hb9⟩)
          go_ret
          exact ⟨rfl, bt HBl.out hb9⟩
end Go.Proofs.YtckdkcnnfjbdmaaGreat
/- THE LAW'S adds: each series has what both have of it. Own work of the verifier. -/
namespace Go.Proofs.YtckdkcnnfjbdmaaGreat
open Go.RowKit Me

/-- Three snapshots, each in a block of its own. -/
structure B3 (w : World) (a b c : Sn) (ua ub uc : Value) (W : World) : Prop where
  g1 : W.heap[w.heap.size]? = some (.cells #[.int .i64 a.p, ua, .int .u64 (a.r : Int)] 26 (0, 0))
  g2 : W.heap[w.heap.size + 1]? = some (.cells #[.int .i64 b.p, ub, .int .u64 (b.r : Int)] 26 (0, 0))
  g3 : W.heap[w.heap.size + 1 + 1]? = some (.cells #[.int .i64 c.p, uc, .int .u64 (c.r : Int)] 26 (0, 0))
  bl : Below w.heap.size w W
theorem B3.below {w W W1 : World} {a b c : Sn} {ua ub uc : Value} (h : B3 w a b c ua ub uc W) (hb : Below W.heap.size W W1) : B3 w a b c ua ub uc W1 := ⟨hkN h.g1 hb, hkN h.g2 hb, hkN h.g3 hb, bt h.bl hb⟩
theorem B3.new (w : World) (a b c : Sn) (ua ub uc : Value) : B3 w a b c ua ub uc (((w.alloc (.cells #[.int .i64 a.p, ua, .int .u64 (a.r : Int)] 26)).alloc (.cells #[.int .i64 b.p, ub, .int .u64 (b.r : Int)] 26)).alloc (.cells #[.int .i64 c.p, uc, .int .u64 (c.r : Int)] 26)) := by
  have n1 := new_1 w (.cells #[.int .i64 a.p, ua, .int .u64 (a.r : Int)] 26)
  have n2 := new_1 (w.alloc (.cells #[.int .i64 a.p, ua, .int .u64 (a.r : Int)] 26)) (.cells #[.int .i64 b.p, ub, .int .u64 (b.r : Int)] 26)
  have n3 := new_1 ((w.alloc (.cells #[.int .i64 a.p, ua, .int .u64 (a.r : Int)] 26)).alloc (.cells #[.int .i64 b.p, ub, .int .u64 (b.r : Int)] 26)) (.cells #[.int .i64 c.p, uc, .int .u64 (c.r : Int)] 26)
  have e1 : (w.alloc (.cells #[.int .i64 a.p, ua, .int .u64 (a.r : Int)] 26)).heap.size = w.heap.size + 1 := by simp
  have e2 : ((w.alloc (.cells #[.int .i64 a.p, ua, .int .u64 (a.r : Int)] 26)).alloc (.cells #[.int .i64 b.p, ub, .int .u64 (b.r : Int)] 26)).heap.size = w.heap.size + 1 + 1 := by simp
  rw [e1] at n2
  rw [e2] at n3
  exact ⟨hkN (hkN n1 (bel1 _ _)) (bel1 _ _), hkN n2 (bel1 _ _), n3, bt (bt (bel1 _ _) (bel1 _ _)) (bel1 _ _)⟩
/-- A value in a block of its own, with its lists. -/
structure Vk (b : Nat) (V : Vl) (lv cv : Value) (W : World) : Prop where
  x : B11 W b V lv cv
  l : SLb W lv V.d.labels
  c : SN W cv V.cs
theorem Vk.below {b : Nat} {V : Vl} {lv cv : Value} {W W1 : World} (h : Vk b V lv cv W) (hb : Below W.heap.size W W1) : Vk b V lv cv W1 := ⟨h.x.below hb, h.l.below hb, h.c.below hb⟩
theorem fnd_len {s : Sn} (f : ∀ x ∈ s.vs, x.d.labels.length ≤ 1048576 ∧ x.cs.length ≤ 1048576) (n : List UInt8) (lb : List La.Lb) : (fndS s n lb).1.cs.length ≤ 1048576 := by
  rw [fnd_lk]
  cases h : lk s.vs (n, lb) with
  | none => exact Nat.zero_le _
  | some x => exact (f x (lk_mem7 h).1).2
/-- How many of the first have a series of both. -/
def bothN (a b : Sn) (L : List Vl) : Nat := (L.filter (fun v => hasK a.vs v && hasK b.vs v)).length
theorem hasK_filter1 (a b : Sn) (v : Vl) (ea eb : Int) (h1 : (fndS a v.d.name v.d.labels).2 = ea) (h2 : (fndS b v.d.name v.d.labels).2 = eb) : ([v].filter (fun v => hasK a.vs v && hasK b.vs v)).length = if ea = 0 ∧ eb = 0 then 1 else 0 := by
  rw [List.filter_cons, hasK_fnd a v, hasK_fnd b v, h1, h2]
  by_cases c1 : ea = 0
  · by_cases c2 : eb = 0
    · simp [c1, c2]
    · simp [c1, c2]
  · simp [c1]
theorem both_step {a b : Sn} {L : List Vl} {i : Nat} (h : i < L.length) (ea eb : Int) (h1 : (fndS a L[i].d.name L[i].d.labels).2 = ea) (h2 : (fndS b L[i].d.name L[i].d.labels).2 = eb) : bothN a b (L.take (i + 1)) = bothN a b (L.take i) + if ea = 0 ∧ eb = 0 then 1 else 0 := by
  unfold bothN
  rw [List.take_succ_eq_append_getElem h, List.filter_append, List.length_append, hasK_filter1 a b L[i] ea eb h1 h2]
/-- What the last region holds on to. -/
abbrev S13 (wr : World) (bx bv bw : Nat) (y Va Vb : Vl) (l0 c0 l1 c1 l2 c2 : Value) (W : World) : Prop := cB bx y l0 c0 W ∧ cB bv Va l1 c1 W ∧ cB bw Vb l2 c2 W ∧ Hid (Vk bx y l0 c0 W) ∧ Hid (Vk bv Va l1 c1 W) ∧ Hid (Vk bw Vb l2 c2 W) ∧ Hid (Below wr.heap.size wr W)
theorem s13_of {wr W : World} {bx bv bw : Nat} {y Va Vb : Vl} {l0 c0 l1 c1 l2 c2 : Value} (h1 : Vk bx y l0 c0 W) (h2 : Vk bv Va l1 c1 W) (h3 : Vk bw Vb l2 c2 W) (h4 : Below wr.heap.size wr W) : S13 wr bx bv bw y Va Vb l0 c0 l1 c1 l2 c2 W := ⟨h1.x.cB, h2.x.cB, h3.x.cB, h1, h2, h3, h4⟩
theorem keep13 {wr W W1 : World} {bx bv bw : Nat} {y Va Vb : Vl} {l0 c0 l1 c1 l2 c2 : Value} (hb : Below W.heap.size W W1) (h : S13 wr bx bv bw y Va Vb l0 c0 l1 c1 l2 c2 W) : S13 wr bx bv bw y Va Vb l0 c0 l1 c1 l2 c2 W1 := s13_of (h.2.2.2.1.out.below hb) (h.2.2.2.2.1.out.below hb) (h.2.2.2.2.2.1.out.below hb) (bt h.2.2.2.2.2.2.out hb)
end Go.Proofs.YtckdkcnnfjbdmaaGreat
/- THE LAW'S adds: the walk. Own work of the verifier. -/
namespace Go.Proofs.YtckdkcnnfjbdmaaGreat
open Go.RowKit Me

set_option maxRecDepth 100000 in
set_option maxHeartbeats 8000000 in
theorem adds_any (a b : Sn) (va vb vm : Value) (ha : SnW a) (hb : SnW b) (w : World) (hva : SnAt w a va) (hvb : SnAt w b vb) (hvm : SnAt w (mgS a b).1 vm) (h : (mgS a b).2 = 0) (fa : ∀ x ∈ a.vs, x.d.labels.length ≤ 1048576 ∧ x.cs.length ≤ 1048576) (fb : ∀ x ∈ b.vs, x.d.labels.length ≤ 1048576 ∧ x.cs.length ≤ 1048576) :
    Calls Tryz.prog 22 #[va, vb, vm] w fun e w' => e = .returned (.bool true) ∧ Below w.heap.size w w' := by
  obtain ⟨ua, rfl, sa⟩ := hva
  obtain ⟨ub, rfl, sb⟩ := hvb
  obtain ⟨um, rfl, sm⟩ := hvm
  obtain ⟨i1, i2, i3, i4, i5, i6, i7, i8⟩ := mg_inv h
  have hlen := mg_len h
  have HP : Hid (∀ y ∈ (mgS a b).1.vs, ((fndS a y.d.name y.d.labels).2 = 0 ∨ (fndS b y.d.name y.d.labels).2 = 0) ∧ y.n = ((fndS a y.d.name y.d.labels).1.n + (fndS b y.d.name y.d.labels).1.n) % 18446744073709551616 ∧ y.t = rnd ((fndS a y.d.name y.d.labels).1.t + (fndS b y.d.name y.d.labels).1.t) ∧ y.cs = mrgC (fndS a y.d.name y.d.labels).1.cs (fndS b y.d.name y.d.labels).1.cs) := fun y hy => by
    obtain ⟨p1, p2, p3, p4⟩ := mg_adds ha hb h hy
    refine ⟨?_, p2, p3, p4⟩
    rcases p1 with p | p
    · left
      have e := hasK_fnd a y
      have e2 : hasK a.vs y = true := p
      rw [e2] at e
      exact of_decide_eq_true e.symm
    · right
      have e := hasK_fnd b y
      have e2 : hasK b.vs y = true := p
      rw [e2] at e
      exact of_decide_eq_true e.symm
  have hMw : ∀ x ∈ (mgS a b).1.vs, x.cs.length ≤ 9223372036854775807 := fun x hx => by
    have := ((mg_w ha hb).vs x hx).cl
    omega
  have hMp : (mgS a b).1.p = a.p := by rw [i8]
  have hMr : (mgS a b).1.r = (a.r + b.r) % 18446744073709551616 := by rw [i8]
  have la := (chkS_ok i1).2.2.1
  have lb := (chkS_ok i2).2.2.1
  generalize (mgS a b).1 = M at *
  have HLn : Hid (a.vs.length + b.vs.length = bothN a b M.vs + M.vs.length) := hlen
  have HMw := hid_of hMw
  have hwr : IntKind.u64.wrap ((a.r : Int) + (b.r : Int)) = (M.r : Int) := by rw [wrap_n, hMr]
  have hpp : (M.p == a.p) = true := by rw [hMp]; simp
  have hml : M.vs.length ≤ 512 := by omega
  have HSA := hid_of sa
  have HSB := hid_of sb
  have HWa := hid_of ha
  have HWb := hid_of hb
  have HFl := hid_of (⟨fa, fb⟩ : _ ∧ _)
  obtain ⟨ao, a1, a2, cpa, rfl, -⟩ := sa.open
  obtain ⟨bo, b1, b2, cpb, rfl, -⟩ := sb.open
  obtain ⟨mo, m1, m2, cpm, rfl, hmo, -, -, hr⟩ := sm.open
  have HR := hid_of hr
  have HN := hid_of (B3.new w a b M (.slice ao a.vs.length cpa) (.slice bo b.vs.length cpb) (.slice mo M.vs.length cpm))
  have sF := store_f
  clear sa sb sm hr h i1 i2 i3 i4 i5 i6 i7 i8 hlen hMw hMp hMr ha hb fa fb
  go_enter Tryz.func22, Tryz.ntmps22
  go_upto_region 3 with fail
  generalize ((w.alloc (.cells #[.int .i64 a.p, .slice ao a.vs.length cpa, .int .u64 (a.r : Int)] 26)).alloc (.cells #[.int .i64 b.p, .slice bo b.vs.length cpb, .int .u64 (b.r : Int)] 26)).alloc (.cells #[.int .i64 M.p, .slice mo M.vs.length cpm, .int .u64 (M.r : Int)] 26) = w0 at HN ⊢
  go_loopw [7, 8] (fun x z W => ∃ (k i : Nat), i ≤ M.vs.length ∧ k ≤ i ∧ x = .int .i64 (k : Int) ∧ z = .int .i64 (i : Int) ∧ Hid (k = bothN a b (M.vs.take i)) ∧ Hid (B3 w a b M (.slice ao a.vs.length cpa) (.slice bo b.vs.length cpb) (.slice mo M.vs.length cpm) W)) (fun _ z _ => M.vs.length - (intOf z).toNat)
  case atStart => exact ⟨0, 0, by omega, by omega, rfl, rfl, hid_of rfl, HN⟩
  case round =>
    clear HN
    obtain ⟨k, i, hi, hki, rfl, rfl, HK, HB⟩ := hrel
    obtain ⟨c0, c1, c2, _, _, _⟩ := three_cells HB.out.g3
    by_cases hlt : i < M.vs.length
    · have hlt' : (i : Int) < (M.vs.length : Int) := by omega
      obtain rfl := hmo (by intro e; rw [e] at hlt; simp at hlt)
      obtain ⟨lw, cw, g1, g2, g3⟩ := HR.out.below HB.out.bl i hlt
      obtain ⟨ly, lyc, rfl⟩ := g2.form
      obtain ⟨cy, cyc, rfl⟩ := g3.form
      have hix := index_val m1 m2 M.vs.length cpm i (i : Int) rfl hlt
      have HKr := hid_of (⟨g1, g2, g3⟩ : KR m1 (m2 + i * 11) M.vs[i] (.slice ly M.vs[i].d.labels.length lyc) (.slice cy M.vs[i].cs.length cyc) wr)
      have HFa : Hid (∀ W, Below wr.heap.size wr W → Calls Tryz.prog 16 #[.agg #[.int .i64 a.p, .slice ao a.vs.length cpa, .int .u64 (a.r : Int)], .string ⟨M.vs[i].d.name.toArray⟩, .slice ly M.vs[i].d.labels.length lyc] W fun e w' => FnQ W a M.vs[i].d.name M.vs[i].d.labels e w') := fun W hb => find_any a _ _ _ _ W ⟨_, rfl, HSA.out.below (bt HB.out.bl hb)⟩ (HKr.out.l.below hb) HFl.out.1
      have HFb : Hid (∀ W, Below wr.heap.size wr W → Calls Tryz.prog 16 #[.agg #[.int .i64 b.p, .slice bo b.vs.length cpb, .int .u64 (b.r : Int)], .string ⟨M.vs[i].d.name.toArray⟩, .slice ly M.vs[i].d.labels.length lyc] W fun e w' => FnQ W b M.vs[i].d.name M.vs[i].d.labels e w') := fun W hb => find_any b _ _ _ _ W ⟨_, rfl, HSB.out.below (bt HB.out.bl hb)⟩ (HKr.out.l.below hb) HFl.out.2
      obtain ⟨q1, q2, q3, q4⟩ := HP.out _ (List.getElem_mem hlt)
      have HVa := hid_of (fnd_w HWa.out M.vs[i].d.name M.vs[i].d.labels)
      have HVb := hid_of (fnd_w HWb.out M.vs[i].d.name M.vs[i].d.labels)
      have HLa := hid_of (fnd_len HFl.out.1 M.vs[i].d.name M.vs[i].d.labels)
      have HLb := hid_of (fnd_len HFl.out.2 M.vs[i].d.name M.vs[i].d.labels)
      have HSt := hid_of (fun ea eb => both_step (a := a) (b := b) hlt ea eb)
      obtain ⟨r0, r1, r2, r3, -⟩ := g1.cC
      clear g1 g2 g3
      unfold FnQ at HFa HFb
      generalize fndS a M.vs[i].d.name M.vs[i].d.labels = fA at *
      generalize fndS b M.vs[i].d.name M.vs[i].d.labels = fB at *
      obtain ⟨Va, ea⟩ := fA
      obtain ⟨Vb, eb⟩ := fB
      simp only at HFa HFb q1 q2 q3 q4 HVa HVb HLa HLb HSt
      have HSt' := hid_of (HSt.out ea eb rfl rfl)
      have hwn : IntKind.u64.wrap ((Va.n : Int) + (Vb.n : Int)) = (M.vs[i].n : Int) := by rw [wrap_n, q2]
      have HAd : Hid (∀ W, Calls Tryz.prog 45 #[.agg #[.int .i64 (hiOf Va.t), .int .u64 (loOf Va.t)], .agg #[.int .i64 (hiOf Vb.t), .int .u64 (loOf Vb.t)]] W fun e w' => e = .returned (.agg #[.int .i64 (hiOf M.vs[i].t), .int .u64 (loOf M.vs[i].t)]) ∧ Below W.heap.size W w') := fun W => by
        rw [q3]
        exact radd_any Va.t Vb.t HVa.out.t HVb.out.t W
      have HMg : Hid (∀ W x y, SN W x Va.cs → SN W y Vb.cs → Calls Tryz.prog 46 #[x, y] W fun e w' => ∃ x, e = .returned x ∧ SN w' x M.vs[i].cs ∧ Below W.heap.size W w') := fun W x y h1 h2 => by
        rw [q4]
        exact rmrg_any W x y Va.cs Vb.cs h1 h2 HVa.out.cs HVb.out.cs HLa.out HLb.out
      have HSm : Hid (∀ W x y, SN W x M.vs[i].cs → SN W y M.vs[i].cs → Calls Tryz.prog 41 #[x, y] W fun e w' => e = .returned (.bool true) ∧ Below W.heap.size W w') := fun W x y h1 h2 => by
        have hl := HMw.out _ (List.getElem_mem hlt)
        have := same_sn h1 h2 hl hl
        rw [decide_eq_true rfl] at this
        exact this
      have HQ := hid_of q1
      clear HSt q1 q2 q3 q4 HVa HVb HLa HLb
      go_upto_region 6 with fail
      have HD := hid_of (D4.new wr M.vs[i].d (.slice ly M.vs[i].d.labels.length lyc) 39)
      have HB5 := hid_of (bel1 wr (.cells #[.int .i64 M.vs[i].d.kind, .string ⟨M.vs[i].d.name.toArray⟩, .string ⟨M.vs[i].d.help.toArray⟩, .slice ly M.vs[i].d.labels.length lyc] 39))
      generalize hw5 : wr.alloc (.cells #[.int .i64 M.vs[i].d.kind, .string ⟨M.vs[i].d.name.toArray⟩, .string ⟨M.vs[i].d.help.toArray⟩, .slice ly M.vs[i].d.labels.length lyc] 39) = w5 at HD HB5 ⊢
      clear hw5 c0 c1 c2 r0 r1 r2 r3
      obtain ⟨bd, hbd⟩ : ∃ bd, bd = wr.heap.size := ⟨_, rfl⟩
      have HD' : Hid (D4 bd M.vs[i].d (.slice ly M.vs[i].d.labels.length lyc) w5) := by rw [hbd]; exact HD
      rw [← hbd] at HD
      simp only [← hbd]
      have Hbd := hid_of hbd
      clear hbd HD
      obtain ⟨a0', a1', a2', _, _, _⟩ := three_cells (HB.out.below HB5.out).g1
      obtain ⟨e0, e1, e2, e3⟩ := HD'.out
      go_upto_region 7 with (go_at_call 16; (with_reducible refine (HFa.out _ HB5.out).mono ?_); rintro e w6 ⟨l6, c6, rfl, hl6, hc6, hb6⟩; obtain ⟨l6a, l6b, l6c, rfl, -⟩ := own_slice hl6; obtain ⟨c6a, c6b, c6c, rfl, -⟩ := own_slice hc6)
      have hbn := bel1 w6 (.cells (vc Va (.slice l6a Va.d.labels.length l6c) (.slice c6a Va.cs.length c6c)) 45)
      have HV6 : Hid (Vk w6.heap.size Va (.slice l6a Va.d.labels.length l6c) (.slice c6a Va.cs.length c6c) (w6.alloc (.cells (vc Va (.slice l6a Va.d.labels.length l6c) (.slice c6a Va.cs.length c6c)) 45))) := ⟨newB11 w6 Va _ _ _, (OwnL.slb hl6).below hbn, (OwnC.sn hc6 hb6.size).below hbn⟩
      have HD6 := hid_of (HD'.out.below (bt hb6 hbn))
      have HB6 := hid_of (bt HB5.out (bt hb6 hbn))
      obtain ⟨w7, hw7⟩ : ∃ w7, w6.alloc (.cells (vc Va (.slice l6a Va.d.labels.length l6c) (.slice c6a Va.cs.length c6c)) 45) = w7 := ⟨_, rfl⟩
      rw [hw7] at HV6 HD6 HB6
      simp only [vc] at hw7
      rw [hw7]
      clear a0' a1' a2' e0 e1 e2 e3 HFa hl6 hc6 hb6 hbn hw7 HD' HB5
      generalize w6.heap.size = bv at *
      obtain ⟨a0', a1', a2', _, _, _⟩ := three_cells (HB.out.below HB6.out).g2
      obtain ⟨e0, e1, e2, e3⟩ := HD6.out
      go_upto_region 8 with (go_at_call 16; (with_reducible refine (HFb.out _ HB6.out).mono ?_); rintro e w8 ⟨l8, c8, rfl, hl8, hc8, hb8⟩; obtain ⟨l8a, l8b, l8c, rfl, -⟩ := own_slice hl8; obtain ⟨c8a, c8b, c8c, rfl, -⟩ := own_slice hc8)
      have hbn := bel1 w8 (.cells (vc Vb (.slice l8a Vb.d.labels.length l8c) (.slice c8a Vb.cs.length c8c)) 45)
      have HV8 : Hid (Vk w8.heap.size Vb (.slice l8a Vb.d.labels.length l8c) (.slice c8a Vb.cs.length c8c) (w8.alloc (.cells (vc Vb (.slice l8a Vb.d.labels.length l8c) (.slice c8a Vb.cs.length c8c)) 45))) := ⟨newB11 w8 Vb _ _ _, (OwnL.slb hl8).below hbn, (OwnC.sn hc8 hb8.size).below hbn⟩
      have HV7 := hid_of (HV6.out.below (bt hb8 hbn))
      have HB8 := hid_of (bt HB6.out (bt hb8 hbn))
      obtain ⟨w9, hw9⟩ : ∃ w9, w8.alloc (.cells (vc Vb (.slice l8a Vb.d.labels.length l8c) (.slice c8a Vb.cs.length c8c)) 45) = w9 := ⟨_, rfl⟩
      rw [hw9] at HV8 HV7 HB8
      simp only [vc] at hw9
      rw [hw9]
      clear a0' a1' a2' e0 e1 e2 e3 HFb hl8 hc8 hb8 hbn hw9 HV6 HD6 HB6
      generalize w8.heap.size = bw at *
      obtain ⟨c0, c1, c2, _, _, _⟩ := three_cells (HB.out.below HB8.out).g3
      obtain ⟨r0, r1, r2, r3, r4, r5, r6, r7, r8, r9, r10⟩ := (HKr.out.below HB8.out).c.cC
      have hnn : ((M.vs[i].n : Int) != (M.vs[i].n : Int)) = false := by simp
      have hcase : (ea = 0 ∧ eb = 0) ∨ (ea = 0 ∧ eb ≠ 0) ∨ (ea ≠ 0 ∧ eb = 0) := by
        rcases HQ.out with h | h
        · by_cases h2 : eb = 0
          · exact Or.inl ⟨h, h2⟩
          · exact Or.inr (Or.inl ⟨h, h2⟩)
        · by_cases h2 : ea = 0
          · exact Or.inl ⟨h2, h⟩
          · exact Or.inr (Or.inr ⟨h2, h⟩)
      clear HQ
      have HX : ∃ k' : Nat, k' ≤ i + 1 ∧ Hid (k' = bothN a b (M.vs.take (i + 1))) ∧ k' = k + if ea = 0 ∧ eb = 0 then 1 else 0 := ⟨_, by split <;> omega, by unfold Hid; rw [HSt'.out, ← HK.out], rfl⟩
      obtain ⟨k', hk1, HK', hk'⟩ := HX
      have hthree : ((ea != 0) = false ∧ (ea == 0) = true ∧ (eb == 0) = true ∧ IntKind.i64.wrap ((k : Int) + 1) = (k' : Int)) ∨ ((ea != 0) = false ∧ (ea == 0) = true ∧ (eb == 0) = false ∧ k' = k) ∨ ((ea != 0) = true ∧ (eb != 0) = false ∧ (ea == 0) = false ∧ k' = k) := by
        rcases hcase with ⟨h1, h2⟩ | ⟨h1, h2⟩ | ⟨h1, h2⟩
        · refine Or.inl ⟨by simpa using h1, by simpa using h1, by simpa using h2, ?_⟩
          rw [if_pos ⟨h1, h2⟩] at hk'
          rw [IntKind.wrap_i64]
          omega
        · refine Or.inr (Or.inl ⟨by simpa using h1, by simpa using h1, by simpa using h2, ?_⟩)
          rw [if_neg (fun q => h2 q.2)] at hk'
          exact hk'
        · refine Or.inr (Or.inr ⟨by simpa using h1, by simpa using h2, by simpa using h1, ?_⟩)
          rw [if_neg (fun q => h1 q.1)] at hk'
          exact hk'
      clear HSt' HK hcase hk' hki Hbd
      rcases hthree with ⟨z1, y1, y2, hwk⟩ | ⟨z1, y1, y2, hwk⟩ | ⟨z1, z2, y1, hwk⟩
      all_goals
        try subst hwk
        go_upto_region 13 with fail
        have hbn := bel1 w9 (.cells (vc M.vs[i] (.slice ly M.vs[i].d.labels.length lyc) (.slice cy M.vs[i].cs.length cyc)) 45)
        have HY : Hid (Vk w9.heap.size M.vs[i] (.slice ly M.vs[i].d.labels.length lyc) (.slice cy M.vs[i].cs.length cyc) (w9.alloc (.cells (vc M.vs[i] (.slice ly M.vs[i].d.labels.length lyc) (.slice cy M.vs[i].cs.length cyc)) 45))) := ⟨newB11 w9 _ _ _ _, (HKr.out.l.below HB8.out).below hbn, (HKr.out.n.below HB8.out).below hbn⟩
        have HVa := hid_of (HV7.out.below hbn)
        have HVb := hid_of (HV8.out.below hbn)
        have HB9 := hid_of (bt HB8.out hbn)
        obtain ⟨wx, hwx⟩ : ∃ wx, w9.alloc (.cells (vc M.vs[i] (.slice ly M.vs[i].d.labels.length lyc) (.slice cy M.vs[i].cs.length cyc)) 45) = wx := ⟨_, rfl⟩
        rw [hwx] at HY HVa HVb HB9
        simp only [vc] at hwx
        rw [hwx]
        clear hwx hbn HV7 HV8 HB8 c0 c1 c2 r0 r1 r2 r3 r4 r5 r6 r7 r8 r9 r10 HKr hix
        generalize w9.heap.size = bx at *
        have hS0 := s13_of HY.out HVa.out HVb.out HB9.out
        clear HY HVa HVb HB9
        go_region_held3 (fun W => S13 wr bx bv bw M.vs[i] Va Vb (.slice ly M.vs[i].d.labels.length lyc) (.slice cy M.vs[i].cs.length cyc) (.slice l6a Va.d.labels.length l6c) (.slice c6a Va.cs.length c6c) (.slice l8a Vb.d.labels.length l8c) (.slice c8a Vb.cs.length c8c) W)
          (first | with_reducible assumption | with_reducible exact keep13 (by with_reducible assumption) (by with_reducible assumption) | with_reducible exact keep13 (drew_bel _) hS0)
          (first
            | (go_at_call 45; (with_reducible refine Calls.mono (HAd.out _) ?_); rintro e x1 ⟨rfl, hx1⟩; have hk1' := keep13 hx1 (by first | with_reducible assumption | with_reducible exact keep13 (by with_reducible assumption) (by with_reducible assumption) | with_reducible exact keep13 (drew_bel _) hS0))
            | (go_at_call 46; (with_reducible refine Calls.mono (HMg.out _ _ _ hk1'.2.2.2.2.1.out.c hk1'.2.2.2.2.2.1.out.c) ?_); rintro e x2 ⟨xv, rfl, hxv, hx2⟩; obtain ⟨xa, xc, rfl⟩ := hxv.form; have hk2' := keep13 hx2 hk1')
            | (go_at_call 41; (with_reducible refine Calls.mono (HSm.out _ _ _ hk2'.2.2.2.1.out.c hxv) ?_); rintro e x3 ⟨rfl, hx3⟩; have hk3' := keep13 hx3 hk2'))
        all_goals
          rename_i hSe
          go_wp2_with fail
          exact ⟨⟨k', i + 1, by omega, hk1, rfl, by go_num, HK', HB.out.below hSe.2.2.2.2.2.2.out⟩, by simp [intOf]; omega⟩
    · have hlt' : ¬ (i : Int) < (M.vs.length : Int) := by omega
      obtain ⟨d0, d1, d2, _, _, _⟩ := three_cells HB.out.g1
      obtain ⟨e0, e1, e2, _, _, _⟩ := three_cells HB.out.g2
      have hke : k = bothN a b M.vs := by
        have := HK.out
        rw [List.take_of_length_le (by omega)] at this
        exact this
      have w1 : IntKind.i64.wrap ((a.vs.length : Int) + (b.vs.length : Int)) = (a.vs.length : Int) + (b.vs.length : Int) := by rw [IntKind.wrap_i64]; omega
      have w2 : IntKind.i64.wrap ((a.vs.length : Int) + (b.vs.length : Int) - (k : Int)) = (M.vs.length : Int) := by
        have := HLn.out
        rw [IntKind.wrap_i64]
        omega
      have HBl := hid_of HB.out.bl
      clear hke HK HB HR HP HLn HFl HWa HWb HSA HSB HMw
      go_wp2_with fail
      go_ret
      exact ⟨rfl, HBl.out⟩
end Go.Proofs.YtckdkcnnfjbdmaaGreat
