/- THE LAW's steps: Close, Stripe, and none. Own work of the verifier. -/
import Derived.Test.YtaeapikhhbjlnaaGreatDoorZBX
import Derived.Test.YtaeapikhhbjlnaaGreatDoorRows
import Derived.Lib.SmallJoins
import Derived.Carry
import Derived.SizedLaws
import Derived.ProofKit
import Derived.OpenShut
import Derived.ChangeSlices
import Derived.Deep.Slices
namespace Go.Proofs.YtaeapikhhbjlnaaGreatDoor
open Go.RowKit

set_option maxRecDepth 10000 in
set_option maxHeartbeats 4000000 in
theorem step_none (K : Kx) (t : Nat) (kind on oid N : Int) (X : Nat) (hk : kind < 1 ∨ 9 < kind) (w : World) (H : StE K t w) :
    Calls Tryz.prog 11 #[ptr K.wb, .agg #[.int .i64 kind, .int .i64 on, .int .i64 oid, .int .i64 N, .float .f64 X]] w fun e w' => e = .returned (.bool true) ∧ Hid (StE K (t + 2) w') := by
  obtain ⟨w1, hw1⟩ : ∃ w1, w.alloc (.cells #[.int .i64 kind, .int .i64 on, .int .i64 oid, .int .i64 N, .float .f64 X] 42) = w1 := ⟨_, rfl⟩
  have ho : w1.heap[w.heap.size]? = some (.cells (opC kind on oid N X) 42 (0, 0)) := by rw [← hw1]; exact new_1 _ _
  obtain ⟨o0, o1, o2, o3, o4⟩ := op_cells ho
  have HE : Hid (StE K (t + 2) w1) := (H.chg0 (W' := w1) (by rw [← hw1]; exact Chg.of_below (bel1 _ _))).mono (by omega)
  have h1 : (kind == 1) = false := by simp; omega
  have h2 : (kind == 2) = false := by simp; omega
  have h3 : (kind == 3) = false := by simp; omega
  have h4 : (kind == 4) = false := by simp; omega
  have h5 : (kind == 5) = false := by simp; omega
  have h6 : (kind == 6) = false := by simp; omega
  have h7 : (kind == 7) = false := by simp; omega
  have h8 : (kind == 8) = false := by simp; omega
  have h9 : (kind == 9) = false := by simp; omega
  have Hw1 : Hid (w.alloc (.cells #[.int .i64 kind, .int .i64 on, .int .i64 oid, .int .i64 N, .float .f64 X] 42) = w1) := hw1
  clear H hw1 ho hk
  go_enter Tryz.func11, Tryz.ntmps11
  go_upto_region 1 with fail
  have hw1 := Hw1.out
  simp only [hw1]
  clear hw1 Hw1
  go_wp2_with fail
  go_ret
  exact ⟨rfl, HE⟩
/-- What Stripe reads. -/
abbrev SpS (K : Kx) (lv rv : Value) (lb rb i x d : Nat) (_k : Nat) (st : Int) (cl : Bool) (W : World) : Prop := (W.cell? ⟨K.wb, 1, none⟩ = some lv ∧ W.cell? ⟨K.wb, 5, none⟩ = some rv) ∧ (W.cell? ⟨lb, i, none⟩ = some (ptr x) ∧ W.cell? ⟨rb, i, none⟩ = some (ptr d) ∧ W.cell? ⟨d, 0, none⟩ = some (.int .i64 st) ∧ W.cell? ⟨d, 1, none⟩ = some (.bool cl))
set_option maxRecDepth 10000 in
set_option maxHeartbeats 8000000 in
theorem step_close (K : Kx) (hK : K.Ok) (t : Nat) (ht : t < 70368744177664) (kind on oid N : Int) (X : Nat) (hk : kind = 2 ∨ kind = 9) (w : World) (H : StE K t w) :
    Calls Tryz.prog 11 #[ptr K.wb, .agg #[.int .i64 kind, .int .i64 on, .int .i64 oid, .int .i64 N, .float .f64 X]] w fun e w' => e = .returned (.bool true) ∧ Hid (StE K (t + 2) w') := by
  obtain ⟨w1, hw1⟩ : ∃ w1, w.alloc (.cells #[.int .i64 kind, .int .i64 on, .int .i64 oid, .int .i64 N, .float .f64 X] 42) = w1 := ⟨_, rfl⟩
  have ho : w1.heap[w.heap.size]? = some (.cells (opC kind on oid N X) 42 (0, 0)) := by rw [← hw1]; exact new_1 _ _
  obtain ⟨o0, o1, o2, o3, o4⟩ := op_cells ho
  obtain ⟨a, r0, r1, lv, rv, Rs, Is, C, H⟩ := H
  have H1 := H.chg0 (W' := w1) (by rw [← hw1]; exact Chg.of_below (bel1 _ _))
  have HE : Hid (StE K (t + 2) w1) := StE.mono (t := t) ⟨a, r0, r1, lv, rv, Rs, Is, C, H1⟩ (by omega)
  obtain ⟨⟨lao, lc, hlv⟩, ⟨rao, rc, hrv⟩, _⟩ := slv_form H1
  obtain ⟨l0, l1, _⟩ := H1.ls.lw
  rw [hlv] at l1
  have Hw1 : Hid (w.alloc (.cells #[.int .i64 kind, .int .i64 on, .int .i64 oid, .int .i64 N, .float .f64 X] 42) = w1) := hw1
  have hfew : Rs.length < 4611686018427387904 := by have := H.few; omega
  by_cases hR : Rs.length = 0
  · have hR2 : ((Rs.length : Int) == 0) = true := by simpa using (show (Rs.length : Int) = 0 by omega)
    clear H H1 ho hw1 hlv hrv l0 hK ht hfew
    generalize Rs.length = n at *
    rcases hk with rfl | rfl
    all_goals
      go_enter Tryz.func11, Tryz.ntmps11
      go_upto_region 1 with fail
      have hw1 := Hw1.out
      simp only [hw1]
      clear hw1 Hw1
      go_wp2_with fail
      go_ret
      exact ⟨rfl, HE⟩
  · have hR2 : ((Rs.length : Int) == 0) = false := by simpa using (show ¬ (Rs.length : Int) = 0 by omega)
    have HPk : Hid (∀ W : World, _) := fun W => pick_any on Rs.length (by omega) hfew W
    have HOSd : Hid (OS K t a r0 r1 lv rv Rs Is C w.heap.size (opC kind on oid N X) w1.drew) := OS.drew ⟨H1, ho⟩
    obtain ⟨lb, rb, lc', rc', hlv2, hrv2, hat⟩ := H1.two (by omega)
    have Hlv : Hid (lv = .slice (some ⟨lb, 0, none⟩) Rs.length lc' ∧ rv = .slice (some ⟨rb, 0, none⟩) Rs.length rc') := ⟨hlv2, hrv2⟩
    have HCl : Hid (∀ W (i : Nat) (hi : i < Rs.length), OS K t a r0 r1 lv rv Rs Is C w.heap.size (opC kind on oid N X) W → W.cell? ⟨w.heap.size, 0, none⟩ = some (.int .i64 kind) ∧ Hid (∀ _ : Unit, Calls Tryz.prog 39 #[ptr K.wb, .int .i64 (i : Int)] W fun e w' => e = .returned (.bool true) ∧ Hid (StE K t w')) ∧ Hid (StE K (t + 2) W.drew ∧ SpS K lv rv lb rb i Rs[i].rc Rs[i].d K.k Rs[i].st Rs[i].cc W.drew ∧ Rc W.drew Rs[i].rc K.k Rs[i].st Rs[i].cc)) := fun W i hi h => by
      refine ⟨(op_cells h.2).1, fun _ => close_law hK h.1 hi, StE.mono (t := t) ⟨a, r0, r1, lv, rv, Rs, Is, C, h.drew.1⟩ (by omega), ?_, h.drew.1.ls.recs.rc i hi⟩
      obtain ⟨m0, m1, m2, m3, m4, m5⟩ := h.drew.1.ls.lw
      obtain ⟨c1, c2⟩ := hat _ _ _ _ _ _ _ _ _ _ _ _ h.drew.1.ls i hi
      have hd := h.drew.1.ls.recs.d i hi
      rw [← H.cl i hi] at hd
      exact ⟨⟨m1, m5⟩, c1, c2, by simp [World.cell?, hd], by simp [World.cell?, hd]⟩
    rw [← hlv, hlv2] at l1
    have HSt : Hid (∀ (k s : Nat) (st : Int) (cl : Bool) (W : World), Rc W k s st cl → _) := fun k s st cl W h => stripe_any k s st cl W h
    have HCd : Hid (∀ (k s : Nat) (st : Int) (cl : Bool) (W : World), Rc W k s st cl → _) := fun k s st cl W h => closed_any k s st cl W h
    clear H H1 ho hw1 hlv hrv l0 hK hlv2 hrv2 hat HE
    rcases hk with rfl | rfl
    · go_enter Tryz.func11, Tryz.ntmps11
      go_upto_region 1 with fail
      have hw1 := Hw1.out
      simp only [hw1]
      clear hw1 Hw1
      go_upto_region 11 with fail
      go_cut [6] from 54 to 61 (fun v W => ∃ i : Nat, v = .int .i64 (i : Int) ∧ Hid (i < Rs.length) ∧ Hid (OS K t a r0 r1 lv rv Rs Is C w.heap.size (opC 2 on oid N X) W))
      case first =>
        go_region_with (go_at_call 38; with_reducible refine Calls.mono (HPk.out _) ?_; rintro e w2 ⟨i, rfl, hi, rfl⟩)
        all_goals
          go_wp2_with fail
          go_meet
          exact ⟨i, rfl, hi, HOSd⟩
      case rest =>
        obtain ⟨i, rfl, hi, HOS⟩ := hcut
        obtain ⟨p0, HC, _⟩ := HCl.out wc i hi.out HOS.out
        go_wp2_with (go_at_call 39; with_reducible refine Calls.mono (HC.out ()) ?_; rintro e w3 ⟨rfl, H3⟩)
        go_ret
        exact ⟨rfl, H3.out.mono (by omega)⟩
    · go_enter Tryz.func11, Tryz.ntmps11
      go_upto_region 1 with fail
      have hw1 := Hw1.out
      simp only [hw1]
      clear hw1 Hw1
      go_upto_region 11 with fail
      go_cut [6] from 54 to 61 (fun v W => ∃ i : Nat, v = .int .i64 (i : Int) ∧ Hid (i < Rs.length) ∧ Hid (OS K t a r0 r1 lv rv Rs Is C w.heap.size (opC 9 on oid N X) W))
      case first =>
        go_region_with (go_at_call 38; with_reducible refine Calls.mono (HPk.out _) ?_; rintro e w2 ⟨i, rfl, hi, rfl⟩)
        all_goals
          go_wp2_with fail
          go_meet
          exact ⟨i, rfl, hi, HOSd⟩
      case rest =>
        obtain ⟨i, rfl, hi, HOS⟩ := hcut
        obtain ⟨p0, _, HQ⟩ := HCl.out wc i hi.out HOS.out
        obtain ⟨HE2, hS0, HRc⟩ := HQ.out
        have HEh := hid_of HE2
        have HRh := hid_of HRc
        rw [Hlv.out.1, Hlv.out.2] at hS0
        have hii : (i : Int) < (Rs.length : Int) := by have := hi.out; omega
        clear HE2 HRc HQ
        generalize Rs[i].rc = x at *
        generalize Rs[i].d = d at *
        generalize Rs[i].st = st at *
        generalize Rs[i].cc = cc at *
        go_upto_region 14 with fail
        go_cut [4] from 68 to 107 (fun v W => v = .bool true ∧ Hid (StE K (t + 2) W))
        case first =>
          go_region_held3 (fun W => SpS K (.slice (some ⟨lb, 0, none⟩) Rs.length lc') (.slice (some ⟨rb, 0, none⟩) Rs.length rc') lb rb i x d K.k st cc W)
            (first | with_reducible assumption | with_reducible exact hS0)
            (first
              | (go_at_call 40; with_reducible refine Calls.mono (HSt.out _ _ _ _ _ HRh.out) ?_; rintro e w3 ⟨rfl, rfl⟩)
              | (go_at_call 41; with_reducible refine Calls.mono (HCd.out _ _ _ _ _ HRh.out) ?_; rintro e w4 ⟨rfl, rfl⟩))
          all_goals
            go_wp2_with fail
            go_meet
            exact ⟨rfl, HEh⟩
        case rest =>
          obtain ⟨rfl, HE⟩ := hcut
          go_wp2_with fail
          go_ret
          exact ⟨rfl, HE⟩
end Go.Proofs.YtaeapikhhbjlnaaGreatDoor
/- RecorderDoes: the slabs are made. Own work of the verifier. -/
namespace Go.Proofs.YtaeapikhhbjlnaaGreatDoor
open Go.RowKit

/-- No interface, no slice. -/
def NoSl (v : Value) : Prop := (∀ T u, v ≠ .iface T u) ∧ ∀ a n c, v ≠ .slice a n c
theorem nosl_ptr (x : Option Addr) : NoSl (.pointer x) := ⟨(fun _ _ h => by cases h), (fun _ _ _ h => by cases h)⟩
theorem nosl_int (x : Int) : NoSl (.int .i64 x) := ⟨(fun _ _ h => by cases h), (fun _ _ _ h => by cases h)⟩
/-- Where the making of slabs stands. -/
structure Mk (w0 : World) (k ph wb : Nat) (st pi : Int) (slv mv : Value) (SL : List SlK) (W : World) : Prop where
  bel : Below w0.heap.size w0 W
  sh : Sh W k ph 0 0 0
  phs : Ph W ph 0 0 (-9223372036854775808)
  wbk : W.heap[wb]? = some (.cells #[ptr k, .slice none 0 0, slv, .int .i64 pi, .pointer none, .slice none 0 0] 33 (0, 0))
  slo : W.ownsRow w0.heap.size 34 1 slv SL.length (SL.map fun X => ptr X.s)
  mdo : W.ownsRow w0.heap.size 3 1 mv SL.length (SL.map fun X => .int .i64 X.kd)
  few : SL.length ≤ 20
  dim : 0 < SL.length → st = (st.toNat : Int) ∧ pi = (pi.toNat : Int) ∧ 0 < st.toNat ∧ st.toNat ≤ 16 ∧ 1 ≤ pi.toNat ∧ pi.toNat ≤ 14
  sl : ∀ j (hj : j < SL.length), SlW SL[j] pi.toNat st.toNat (fun _ _ => frst SL[j].kd (pi.toNat : Int)) W
  ap : ∀ j (hj : j < SL.length) x, SL[j].Blk x → x ≠ k ∧ x ≠ ph ∧ x ≠ wb
  apj : ∀ i j (hi : i < SL.length) (hj : j < SL.length), i ≠ j → ∀ g, g ∈ SL[i].G 0 ++ SL[i].G 1 → ¬ SL[j].Blk g
  gge : ∀ j (hj : j < SL.length) g, g ∈ SL[j].G 0 ++ SL[j].G 1 → w0.heap.size ≤ g
  kge : w0.heap.size ≤ k ∧ w0.heap.size ≤ ph ∧ w0.heap.size ≤ wb
  c1 : ∀ x, slv.ownBlock = some x → ∀ v, W.cell? ⟨x, 0, none⟩ = some v → NoSl v
  c2 : ∀ x, mv.ownBlock = some x → ∀ v, W.cell? ⟨x, 0, none⟩ = some v → NoSl v
/-- A block whose first cell is no interface and no slice, and that is no row of words, is no slab's. -/
theorem SlW.apart {X : SlK} {p n : Nat} {C : Nat → Nat → List Int} {W : World} (H : SlW X p n C W) (hn : 0 < n) {x : Nat} {cs : Array Value} {T : TypeId} {z : Nat × Nat} (hx : W.heap[x]? = some (.cells cs T z)) (hT : T ≠ 108) (h1 : ∀ v, W.cell? ⟨x, 0, none⟩ = some v → NoSl v) {y : Nat} (hy : X.Blk y) : y ≠ x := by
  rcases hy with rfl | rfl | rfl | rfl | hy
  · intro e
    have h := H.g.slab
    rw [e] at h
    exact (h1 _ h).1 _ _ rfl
  · intro e
    obtain ⟨cap, h⟩ := H.g.held 0 (by decide)
    rw [e] at h
    exact (h1 _ h).2 _ _ _ rfl
  · intro e
    have h := H.g.rows 0 (by decide) 0 (by rw [H.g.len 0 (by decide)]; exact hn)
    rw [e] at h
    exact (h1 _ h).2 _ _ _ rfl
  · intro e
    have h := H.g.rows 1 (by decide) 0 (by rw [H.g.len 1 (by decide)]; exact hn)
    rw [e] at h
    exact (h1 _ h).2 _ _ _ rfl
  · exact fun e => hT ((ty_of hx).eq (by rw [← e]; exact H.gty hy))
/-- Another slab's rows are none of a slab's own blocks but its rows. -/
theorem SlW.rows_apart {X Y : SlK} {p n : Nat} {C C' : Nat → Nat → List Int} {W : World} (H : SlW X p n C W) (hn : 0 < n) (HY : SlW Y p n C' W) {g : Nat} (hg : g ∈ Y.G 0 ++ Y.G 1) {y : Nat} (hy : X.Blk y) (hr : y ∉ X.G 0 ++ X.G 1) : y ≠ g := by
  have hc : ∀ v, W.cell? ⟨g, 0, none⟩ = some v → ∃ x, v = .int .i64 x := fun v hv => by
    have key : ∀ b, b < 2 → g ∈ Y.G b → ∃ x, v = .int .i64 x := fun b hb hm => by
      obtain ⟨i, hi, e⟩ := List.getElem_of_mem hm
      have h := HY.g.left b hb i hi
      rw [e] at h
      unfold RowW at h
      simp only [World.cell?, h] at hv
      simp at hv
      rcases hh : (C' b i)[0]? with _ | x
      · simp [hh] at hv
      · simp [hh] at hv
        exact ⟨x, hv.symm⟩
    rcases List.mem_append.1 hg with q | q
    · exact key 0 (by decide) q
    · exact key 1 (by decide) q
  rcases hy with rfl | rfl | rfl | rfl | hy
  · intro e
    have h := H.g.slab
    rw [e] at h
    obtain ⟨x, hx⟩ := hc _ h
    cases hx
  · intro e
    obtain ⟨cap, h⟩ := H.g.held 0 (by decide)
    rw [e] at h
    obtain ⟨x, hx⟩ := hc _ h
    cases hx
  · intro e
    have h := H.g.rows 0 (by decide) 0 (by rw [H.g.len 0 (by decide)]; exact hn)
    rw [e] at h
    obtain ⟨x, hx⟩ := hc _ h
    cases hx
  · intro e
    have h := H.g.rows 1 (by decide) 0 (by rw [H.g.len 1 (by decide)]; exact hn)
    rw [e] at h
    obtain ⟨x, hx⟩ := hc _ h
    cases hx
  · exact absurd hy hr
section
variable {w0 W W' : World} {k ph wb : Nat} {st pi : Int} {slv mv : Value} {SL : List SlK}
/-- Nothing that stands here has changed. -/
theorem Mk.keep (H : Mk w0 k ph wb st pi slv mv SL W) {S : Nat → Prop} (hc : Chg S W W') (hge : ∀ x, S x → w0.heap.size ≤ x) (h1 : ¬ S k) (h2 : ¬ S ph) (h3 : ¬ S wb) (h4 : ∀ x, slv.ownBlock = some x → ¬ S x) (h5 : ∀ x, mv.ownBlock = some x → ¬ S x) (h6 : ∀ j (hj : j < SL.length) x, SL[j].Blk x → ¬ S x) : Mk w0 k ph wb st pi slv mv SL W' :=
  ⟨bel_chg H.bel (Nat.le_refl _) hc hge, hc.Sh H.sh h1, hc.Ph H.phs h2, hc.at_ H.wbk h3, hc.row H.slo h4, hc.row H.mdo h5, H.few, H.dim, fun j hj => (H.sl j hj).chg hc (h6 j hj), H.ap, H.apj, H.gge, H.kge, fun x hx v hv => H.c1 x hx v (by rw [← hv]; exact (World.cell?_of_block (hc.block x (H.slo.lt x hx).2 (h4 x hx))).symm), fun x hx v hv => H.c2 x hx v (by rw [← hv]; exact (World.cell?_of_block (hc.block x (H.mdo.lt x hx).2 (h5 x hx))).symm)⟩
theorem Mk.below (H : Mk w0 k ph wb st pi slv mv SL W) (hb : Below W.heap.size W W') : Mk w0 k ph wb st pi slv mv SL W' := H.keep (S := fun _ => False) (Chg.of_below hb) (fun _ k => k.elim) (fun k => k) (fun k => k) (fun k => k) (fun _ _ k => k) (fun _ _ k => k) (fun _ _ _ _ k => k)
/-- One slab more: both lists have it. -/
theorem Mk.push (H : Mk w0 k ph wb st pi slv mv SL W) (hf : SL.length < 20) {X : SlK} {w1 w2 w3 : World} {n p : Nat} (hn : st = (n : Int)) (hp : pi = (p : Int)) (n0 : 0 < n) (n16 : n ≤ 16) (p1 : 1 ≤ p) (p14 : p ≤ 14) (hX : SlW X p n (fun _ _ => frst X.kd (p : Int)) w1) (hb : Below W.heap.size W w1) (hgX : ∀ g, g ∈ X.G 0 ++ X.G 1 → W.heap.size ≤ g) {o o2 : Obj} {slv' mv' : Value} (own1 : w2.ownsRow w0.heap.size 34 1 slv' (SL.length + 1) ((SL.map fun X => ptr X.s) ++ [ptr X.s])) (gr1 : (w1.alloc o).grownBy w2 slv.ownBlock)
    (own2 : w3.ownsRow w0.heap.size 3 1 mv' (SL.length + 1) ((SL.map fun X => .int .i64 X.kd) ++ [.int .i64 X.kd])) (gr2 : ((w2.setCell ⟨wb, 2, none⟩ slv').alloc o2).grownBy w3 mv.ownBlock) : (w2.cell? ⟨wb, 2, none⟩ = some slv ∧ w2.frozen? ⟨wb, 2, none⟩ = false) ∧ Mk w0 k ph wb st pi slv' mv' (SL ++ [X]) w3 := by
  subst hn
  subst hp
  have e1 : ((n : Int)).toNat = n := Int.toNat_natCast n
  have e2 : ((p : Int)).toNat = p := Int.toNat_natCast p
  have H1 := H.below hb
  have hs0 := H.bel.size
  have hs1 := hb.size
  have b1 := bel1 w1 o
  have nwb : some wb ≠ slv.ownBlock := fun e => absurd ((own_ty H1.slo e.symm).eq (ty_of H1.wbk)) (by decide)
  have hw2 : w2.heap[wb]? = _ := (gr1.block wb (by have := (Array.getElem?_eq_some_iff.1 H1.wbk).1; simp; omega) nwb).trans ((b1.block wb (Array.getElem?_eq_some_iff.1 H1.wbk).1).trans H1.wbk)
  have hc1 : Chg (fun x => some x = slv.ownBlock ∨ x = wb) w1 (w2.setCell ⟨wb, 2, none⟩ slv') := ⟨gr1.os, gr1.tape, gr1.output, by rw [World.size_setCell]; have := gr1.size; simp at this; omega, fun x hx hn => by
    rw [heap_setCell_other _ _ _ _ (by show x ≠ wb; exact fun e => hn (Or.inr e)), gr1.block x (by simp; omega) (fun e => hn (Or.inl e))]
    exact b1.block x hx⟩
  have hw2s : (w2.setCell ⟨wb, 2, none⟩ slv').heap[wb]? = some (.cells #[ptr k, .slice none 0 0, slv', .int .i64 (p : Int), .pointer none, .slice none 0 0] 33 (0, 0)) := by
    rw [heap_setCell_same _ wb 2 _ _ _ hw2]
    rfl
  have mdo2 : (w2.setCell ⟨wb, 2, none⟩ slv').ownsRow w0.heap.size 3 1 mv SL.length (SL.map fun X => .int .i64 X.kd) := hc1.row H1.mdo (fun x hx q => by
    rcases q with q | q
    · exact absurd ((own_ty H1.mdo hx).eq (own_ty H1.slo q.symm)) (by decide)
    · exact absurd ((own_ty H1.mdo hx).eq (by rw [q]; exact ty_of H1.wbk)) (by decide))
  have hc2 : Chg (fun x => some x = mv.ownBlock) (w2.setCell ⟨wb, 2, none⟩ slv') w3 := by
    have b2 := bel1 (w2.setCell ⟨wb, 2, none⟩ slv') o2
    exact ⟨gr2.os, gr2.tape, gr2.output, by have := gr2.size; simp at this ⊢; omega, fun x hx hn => by rw [gr2.block x (by simp at hx ⊢; omega) hn]; exact b2.block x hx⟩
  have hc : Chg (fun x => some x = slv.ownBlock ∨ x = wb ∨ some x = mv.ownBlock) w1 w3 := (hc1.mono (fun x q => by rcases q with q | q; exact Or.inl q; exact Or.inr (Or.inl q))).trans hc2 (fun x q => Or.inl (Or.inr (Or.inr q)))
  have hge : ∀ x, (some x = slv.ownBlock ∨ x = wb ∨ some x = mv.ownBlock) → w0.heap.size ≤ x := fun x q => by
    rcases q with q | q | q
    · exact (H1.slo.lt x q.symm).1
    · rw [q]; exact H.kge.2.2
    · exact (H1.mdo.lt x q.symm).1
  have tyS : ∀ x, (some x = slv.ownBlock ∨ x = wb ∨ some x = mv.ownBlock) → Ty w1 x 34 ∨ Ty w1 x 33 ∨ Ty w1 x 3 := fun x q => by
    rcases q with q | q | q
    · exact Or.inl (own_ty H1.slo q.symm)
    · exact Or.inr (Or.inl (by rw [q]; exact ty_of H1.wbk))
    · exact Or.inr (Or.inr (own_ty H1.mdo q.symm))
  have noS : ∀ {x : Nat} {T : TypeId}, Ty w1 x T → T ≠ 34 → T ≠ 33 → T ≠ 3 → ¬ (some x = slv.ownBlock ∨ x = wb ∨ some x = mv.ownBlock) := fun h t1 t2 t3 q => by
    rcases tyS _ q with r | r | r
    · exact t1 (h.eq r)
    · exact t2 (h.eq r)
    · exact t3 (h.eq r)
  have ex : ∀ {x : Nat} {T : TypeId}, Ty w1 x T → ∃ cs z, w1.heap[x]? = some (.cells cs T z) := fun h => h
  have blkNo : ∀ (Y : SlK) (C : Nat → Nat → List Int), SlW Y p n C w1 → ∀ y, Y.Blk y → ¬ (some y = slv.ownBlock ∨ y = wb ∨ some y = mv.ownBlock) := fun Y C hY y hy q => by
    rcases q with q | q | q
    · obtain ⟨cs, z, h⟩ := own_ty H1.slo q.symm
      exact hY.apart n0 h (by decide) (fun v hv => H1.c1 y q.symm v hv) hy rfl
    · exact hY.apart n0 H1.wbk (by decide) (fun v hv => by
        simp [World.cell?, H1.wbk] at hv
        rw [← hv]; exact nosl_ptr _) hy q
    · obtain ⟨cs, z, h⟩ := own_ty H1.mdo q.symm
      exact hY.apart n0 h (by decide) (fun v hv => H1.c2 y q.symm v hv) hy rfl
  have hsl : ∀ j (hj : j < SL.length), SlW SL[j] p n (fun _ _ => frst SL[j].kd (p : Int)) w1 := fun j hj => by
    have := H1.sl j hj
    rw [e1, e2] at this
    exact this
  have hlt : ∀ j (hj : j < SL.length) y, SL[j].Blk y → y < W.heap.size := fun j hj y hy => by
    have := H.sl j hj
    rw [e1, e2] at this
    exact this.lt n0 hy
  have slo3 : w3.ownsRow w0.heap.size 34 1 slv' (SL.length + 1) ((SL.map fun X => ptr X.s) ++ [ptr X.s]) := by
    have o1 : (w2.setCell ⟨wb, 2, none⟩ slv').ownsRow w0.heap.size 34 1 slv' (SL.length + 1) ((SL.map fun X => ptr X.s) ++ [ptr X.s]) := own_mid_ne own1 (mid_set wb 2 _) (own_nty own1 hw2 (by decide))
    exact hc2.row o1 (fun x hx q => absurd ((own_ty o1 hx).eq (own_ty mdo2 q.symm)) (by decide))
  have key : ∀ (P : Nat → SlK → Prop), (∀ i (hi : i < SL.length), P i SL[i]) → P SL.length X → ∀ i (hi : i < (SL ++ [X]).length), P i (SL ++ [X])[i] := fun P h1 h2 i hi => by
    by_cases h : i < SL.length
    · rw [List.getElem_append_left h]; exact h1 i h
    · have h3 : i = SL.length := by simp at hi; omega
      subst h3
      rw [List.getElem_append_right (Nat.le_refl _)]
      simp only [Nat.sub_self, List.getElem_cons_zero]
      exact h2
  refine ⟨⟨by simp [World.cell?, hw2], by simp [World.frozen?, hw2]⟩, ⟨bel_chg H1.bel (Nat.le_refl _) hc hge, hc.Sh H1.sh (noS (ty_of H1.sh) (by decide) (by decide) (by decide)), hc.Ph H1.phs (noS (ty_of H1.phs) (by decide) (by decide) (by decide)), hc2.at_ hw2s (fun q => absurd ((own_ty mdo2 q.symm).eq (ty_of hw2s)) (by decide)), ?_, ?_, by simp; omega, fun _ => ?_, ?_, ?_, ?_, ?_, H.kge, ?_, ?_⟩⟩
  · rw [List.length_append, List.map_append]; exact slo3
  · rw [List.length_append, List.map_append]; exact own2
  · rw [e1, e2]; exact ⟨rfl, rfl, n0, n16, p1, p14⟩
  · rw [e1, e2]
    exact key (fun _ Y => SlW Y p n (fun _ _ => frst Y.kd (p : Int)) w3) (fun i hi => (hsl i hi).chg hc (blkNo _ _ (hsl i hi))) (hX.chg hc (blkNo _ _ hX))
  · exact key (fun _ Y => ∀ x, Y.Blk x → x ≠ k ∧ x ≠ ph ∧ x ≠ wb) H.ap (fun x hx => ⟨hX.apart n0 H1.sh (by decide) (fun v hv => by
      simp [World.cell?, show w1.heap[k]? = _ from H1.sh] at hv
      rw [← hv]; exact nosl_ptr _) hx, hX.apart n0 H1.phs (by decide) (fun v hv => by
      simp [World.cell?, show w1.heap[ph]? = _ from H1.phs] at hv
      rw [← hv]; exact nosl_int _) hx, fun e => blkNo _ _ hX x hx (Or.inr (Or.inl e))⟩)
  · intro i j hi hj hij g hg hb2
    simp at hi hj
    by_cases h1 : i < SL.length
    · rw [List.getElem_append_left h1] at hg
      by_cases h2 : j < SL.length
      · rw [List.getElem_append_left h2] at hb2
        exact H.apj i j h1 h2 hij g hg hb2
      · rw [List.getElem_append_right (by omega)] at hb2
        simp only [show j - SL.length = 0 by omega, List.getElem_cons_zero] at hb2
        have hgl := hlt i h1 g (Or.inr (Or.inr (Or.inr (Or.inr hg))))
        by_cases h3 : g ∈ X.G 0 ++ X.G 1
        · have := hgX g h3
          omega
        · exact hX.rows_apart n0 (hsl i h1) hg hb2 h3 rfl
    · rw [List.getElem_append_right (by omega)] at hg
      simp only [show i - SL.length = 0 by omega, List.getElem_cons_zero] at hg
      have h2 : j < SL.length := by omega
      rw [List.getElem_append_left h2] at hb2
      have := hlt j h2 g hb2
      have := hgX g hg
      omega
  · exact key (fun _ Y => ∀ g, g ∈ Y.G 0 ++ Y.G 1 → w0.heap.size ≤ g) H.gge (fun g hg2 => Nat.le_trans hs0 (hgX g hg2))
  · intro x hx v hv
    obtain ⟨ao, cap, rfl⟩ := own_len slo3
    obtain ⟨g, rfl, hat⟩ := own_at slo3 (Nat.succ_pos _)
    have hxg : g = x := by simpa [Value.ownBlock] using hx
    subst hxg
    have h0 := hat w3 slo3 0 (by simp)
    rw [h0] at hv
    injection hv with hv
    rw [← hv]
    rcases SL with _ | ⟨Y, r⟩
    · exact nosl_ptr _
    · exact nosl_ptr _
  · intro x hx v hv
    obtain ⟨ao, cap, rfl⟩ := own_len own2
    obtain ⟨g, rfl, hat⟩ := own_at own2 (Nat.succ_pos _)
    have hxg : g = x := by simpa [Value.ownBlock] using hx
    subst hxg
    have h0 := hat w3 own2 0 (by simp)
    rw [h0] at hv
    injection hv with hv
    rw [← hv]
    rcases SL with _ | ⟨Y, r⟩
    · exact nosl_int _
    · exact nosl_int _
end
end Go.Proofs.YtaeapikhhbjlnaaGreatDoor
/- THE LAW's steps: drains. Own work of the verifier. -/
namespace Go.Proofs.YtaeapikhhbjlnaaGreatDoor
open Go.RowKit

section
variable (K : Kx) (hK : K.Ok) (t : Nat) (ht : t + 1 < 70368744177664) (on oid N : Int) (X : Nat) (w : World) (H : StE K t w)
include hK ht H
set_option maxRecDepth 10000 in
set_option maxHeartbeats 4000000 in
theorem step_drain :
    Calls Tryz.prog 11 #[ptr K.wb, .agg #[.int .i64 8, .int .i64 on, .int .i64 oid, .int .i64 N, .float .f64 X]] w fun e w' => e = .returned (.bool true) ∧ Hid (StE K (t + 2) w') := by
  obtain ⟨w1, hw1⟩ : ∃ w1, w.alloc (.cells #[.int .i64 8, .int .i64 on, .int .i64 oid, .int .i64 N, .float .f64 X] 42) = w1 := ⟨_, rfl⟩
  have ho : w1.heap[w.heap.size]? = some (.cells (opC 8 on oid N X) 42 (0, 0)) := by rw [← hw1]; exact new_1 _ _
  obtain ⟨o0, o1, o2, o3, o4⟩ := op_cells ho
  have H1 := H.chg0 (W' := w1) (by rw [← hw1]; exact Chg.of_below (bel1 _ _))
  have HE1 : Hid (StE K (t + 2) w1) := H1.mono (by omega)
  obtain ⟨a, r0, r1, lv, rv, Rs, Is, C, H2⟩ := id H1
  obtain ⟨_, _, sao, sc, hsv⟩ := slv_form H2
  have l2 := H2.ls.lw.2.2.1
  rw [hsv] at l2
  have hf : K.SL.length ≤ 20 := hK.few
  have HDr : Hid (∀ id b : Nat, id < K.SL.length → b < 2 → Calls Tryz.prog 12 #[ptr K.wb, .int .i64 (id : Int), .int .i64 (b : Int)] w1.drew fun e w' => e = .returned (.bool true) ∧ Hid (StE K t w')) := fun id b h1 h2 => drain_law K hK t (by omega) id b h1 h2 w1.drew (H1.chg0 (drew0 w1))
  have Hw1 : Hid (w.alloc (.cells #[.int .i64 8, .int .i64 on, .int .i64 oid, .int .i64 N, .float .f64 X] 42) = w1) := hw1
  clear H H1 H2 hw1 ho hK ht hsv
  by_cases hS : K.SL.length = 0
  · have hS2 : ¬ (0 : Int) < (K.SL.length : Int) := by omega
    clear HDr
    generalize K.SL.length = m at *
    go_enter Tryz.func11, Tryz.ntmps11
    go_upto_region 1 with fail
    have hw1 := Hw1.out
    simp only [hw1]
    clear hw1 Hw1
    go_wp2_with fail
    go_ret
    exact ⟨rfl, HE1⟩
  · have hS2 : (0 : Int) < (K.SL.length : Int) := by omega
    have HP1 : Hid (∀ W : World, _) := fun W => pick_any oid K.SL.length (by omega) (by omega) W
    have HP2 : Hid (∀ W : World, _) := fun W => pick_any N 2 (by decide) (by decide) W
    generalize K.SL.length = m at *
    go_enter Tryz.func11, Tryz.ntmps11
    go_upto_region 1 with fail
    have hw1 := Hw1.out
    simp only [hw1]
    clear hw1 Hw1
    go_upto_region 26 with fail
    go_region_with (first
      | (go_at_call 38; with_reducible refine Calls.mono (HP1.out _) ?_; rintro e w2 ⟨id, rfl, hid, rfl⟩)
      | (go_at_call 38; with_reducible refine Calls.mono (HP2.out _) ?_; rintro e w3 ⟨b, rfl, hb, rfl⟩)
      | (go_at_call 12; with_reducible refine Calls.mono (HDr.out id b hid hb) ?_; rintro e w4 ⟨rfl, H4⟩))
    all_goals
      go_wp2_with fail
      go_ret
      exact ⟨rfl, StE.mono H4.out (by omega)⟩
end
end Go.Proofs.YtaeapikhhbjlnaaGreatDoor
/- RecorderDoes: the first state, and any step. Own work of the verifier. -/
namespace Go.Proofs.YtaeapikhhbjlnaaGreatDoor
open Go.RowKit

theorem step_any (K : Kx) (hK : K.Ok) (t : Nat) (ht : t + 1 < 8796093022208) (kind on oid N : Int) (X : Nat) (hN : In64 N) (hX : X < 18446744073709551616) (w : World) (H : StE K t w) :
    Calls Tryz.prog 11 #[ptr K.wb, .agg #[.int .i64 kind, .int .i64 on, .int .i64 oid, .int .i64 N, .float .f64 X]] w fun e w' => e = .returned (.bool true) ∧ Hid (StE K (t + 2) w') := by
  by_cases h0 : kind < 1 ∨ 9 < kind
  · exact step_none K t kind on oid N X h0 w H
  · rcases (show kind = 1 ∨ (kind = 2 ∨ kind = 9) ∨ (kind = 3 ∨ kind = 4 ∨ kind = 5) ∨ kind = 6 ∨ kind = 7 ∨ kind = 8 by omega) with rfl | h | h | rfl | rfl | rfl
    · exact Calls.mono (step_new K hK t (by omega) on oid N X w H) (fun e w' q => ⟨q.1, q.2.out.mono (by omega)⟩)
    · exact step_close K hK t (by omega) kind on oid N X h w H
    · exact step_rec K hK t (by omega) on oid N X w H kind h hN hX
    · exact step_turn K hK t (by omega) on oid N X w H
    · exact step_ref K hK t on oid N X w H
    · exact step_drain K hK t (by omega) on oid N X w H
set_option maxRecDepth 10000 in
theorem new14_nil (st pr : Int) (n p : Nat) (ao : Option Addr) (cap : Nat) (w : World) :
    Calls Tryz.prog 10 #[.slice ao 0 cap, .int .i64 st, .int .i64 pr] w fun e w' => NwQ st pr n p [] w e w' := by
  have HQ : Hid (NwQ st pr n p [] w (.returned (.pointer (some ⟨w.heap.size + 1, 0, none⟩))) ((w.alloc (.cells #[.int .i64 st, .int .i64 pr, .int .i64 0, .int .i64 0, .int .i64 0, .int .i64 0, .int .i64 0, .int .i64 (-9223372036854775808), .int .i64 0, .int .i64 0, .int .i64 0, .slice none 0 0, .slice none 0 0, .int .u64 0] 124)).alloc (.cells #[.pointer (some ⟨w.heap.size, 0, none⟩)] 135))) := by
    refine ⟨w.heap.size + 1, w.heap.size, 0, 0, .slice none 0 0, [], rfl, ⟨Pr.new2 w _ _, Pr.new1 w _ _, (fun h => by simp at h), (fun h => by simp at h), (fun j hj => by simp at hj), (fun i j hi => by simp at hi)⟩, rfl, (fun j hj => by simp at hj), bel2 w _ _, fun x hx => ?_⟩
    rcases hx with q | q | ⟨q, _⟩ | ⟨j, hj, _⟩
    · omega
    · omega
    · simp at q
    · simp at hj
  go_enter Tryz.func10, Tryz.ntmps10
  go_wp2_with fail
  go_loopw [8] (fun a wr => a = .int .i64 0 ∧ wr = w.alloc (.cells #[.int .i64 st, .int .i64 pr, .int .i64 0, .int .i64 0, .int .i64 0, .int .i64 0, .int .i64 0, .int .i64 (-9223372036854775808), .int .i64 0, .int .i64 0, .int .i64 0, .slice none 0 0, .slice none 0 0, .int .u64 0] 124)) (fun _ _ => 0)
  case atStart => exact ⟨rfl, rfl⟩
  case round =>
    obtain ⟨rfl, rfl⟩ := hrel
    go_wp2_with fail
    go_ret
    exact HQ.out
/-- The first state. -/
theorem ls_first {w0 W W4 : World} {k ph wb : Nat} {st pi : Int} {slv mv : Value} {SL : List SlK} {stm : Int} (H : Mk w0 k ph wb st pi slv mv SL W) (hst : 0 < SL.length → stm = st) {e : Ending} (hQ : NwQ stm pi st.toNat pi.toNat (SL.map fun X => X.kd) W e W4) : ∃ sb, e = .returned (ptr sb) ∧ (W4.cell? ⟨wb, 4, none⟩ = some (.pointer none) ∧ W4.frozen? ⟨wb, 4, none⟩ = false) ∧ ∃ K : Kx, K.wb = wb ∧ K.w = w0 ∧ K.SL = SL ∧ K.slv = slv ∧ K.k = k ∧ K.sb = sb ∧ K.Ok ∧ StE K 0 (W4.setCell ⟨wb, 4, none⟩ (ptr sb)) := by
  obtain ⟨sb, mb, ib, capI, lv, Is, rfl, hD, hl, hkd, hb, hge⟩ := hQ
  have H4 := H.below hb
  have hs0 := H.bel.size
  have hlen : Is.length = SL.length := by simpa using hl
  have hc : Chg (fun x => x = wb) W4 (W4.setCell ⟨wb, 4, none⟩ (ptr sb)) := Chg.set W4 ⟨wb, 4, none⟩ (ptr sb)
  have hwt := ty_of H4.wbk
  have hno : ∀ {x : Nat} {T : TypeId}, Ty W4 x T → T ≠ 33 → ¬ x = wb := fun h t e => t (h.eq (by rw [e]; exact hwt))
  have hkdj : ∀ j (hj : j < SL.length), (SL.map fun X => X.kd).getD j 0 = SL[j].kd := fun j hj => by simp [List.getD, hj]
  have hrows : ∀ j (hj : j < SL.length), ∀ b, b < 2 → ∀ i, i < st.toNat → RowOk SL[j].kd pi.toNat 0 (frst ((SL.map fun X => X.kd).getD j 0) (pi.toNat : Int)) := fun j hj b _ i _ => by
    rw [hkdj j hj]
    exact RowOk.first (H.sl j hj).kd 0
  refine ⟨sb, rfl, ⟨by simp [World.cell?, H4.wbk], by simp [World.frozen?, H4.wbk]⟩, ⟨w0, k, ph, SL, st.toNat, pi.toNat, pi, sb, mb, ib, capI, wb, W.heap.size, slv⟩, rfl, rfl, rfl, rfl, rfl, rfl, ⟨?_, H.few, ?_, H.apj, ⟨H.kge.1, H.kge.2.1, H.kge.2.2, hs0⟩, H.gge⟩, 0, 0, 0, .slice none 0 0, .slice none 0 0, [], Is, (fun j _ _ => frst ((SL.map fun X => X.kd).getD j 0) (pi.toNat : Int)), ⟨⟨?_, ⟨?_, by decide, ⟨by decide, by decide⟩, ⟨by decide, by decide⟩, ?_, ?_, hrows⟩, ⟨?_, hlen, ?_, hge, hrows⟩, ⟨(fun i hi => by simp at hi), (fun i hi => by simp at hi), (fun i hi => by simp at hi), (fun i j hi => by simp at hi)⟩, ⟨⟨?_, World.ownsRow_nil _ _ _ _, World.ownsRow_nil _ _ _ _⟩, ?_⟩⟩, (fun i hi => by simp at hi), Nat.le_refl _⟩⟩
  · intro h
    obtain ⟨d1, d2, d3, d4, d5, d6⟩ := H.dim h
    exact ⟨d3, d4, d5, d6, d2⟩
  · intro j hj x hx
    obtain ⟨a1, a2, a3⟩ := H.ap j hj x hx
    refine ⟨a1, a2, a3, (H.sl j hj).lt ?_ hx⟩
    exact (H.dim (Nat.lt_of_le_of_lt (Nat.zero_le _) hj)).2.2.1
  · exact bel_chg H4.bel (Nat.le_refl _) hc (fun x e => by rw [show x = wb from e]; exact H.kge.2.2)
  · exact hc.Sh H4.sh (hno (ty_of H4.sh) (by decide))
  · exact ⟨false, 0, ⟨_, hc.Ph H4.phs (hno (ty_of H4.phs) (by decide))⟩, Nat.le_refl _⟩
  · intro j hj
    have h1 := (H4.sl j hj).chg hc (fun x hx => (H4.ap j hj x hx).2.2)
    have e : (fun (_ _ : Nat) => frst SL[j].kd (pi.toNat : Int)) = (fun (_ _ : Nat) => frst ((SL.map fun X => X.kd).getD j 0) (pi.toNat : Int)) := by rw [hkdj j hj]
    rw [e] at h1
    exact h1
  · refine ⟨mc0 stm pi lv, hD.chg hc (fun x hx q => ?_), rfl, rfl, rfl, fun h => ?_⟩
    · have h1 := hge x hx
      have q' : x = wb := q
      have := (Array.getElem?_eq_some_iff.1 H.wbk).1
      omega
    · obtain ⟨d1, d2, _⟩ := H.dim h
      exact ⟨(hst h).trans d1, d2⟩
  · intro j hj hj'
    have h1 := hkd j hj
    have h2 : (SL.map fun X => X.kd)[j]? = some SL[j].kd := by simp [show j < SL.length from hj']
    rw [h2] at h1
    injection h1 with h1
    exact h1.symm
  · show (W4.setCell ⟨wb, 4, none⟩ (ptr sb)).heap[wb]? = _
    rw [heap_setCell_same W4 wb 4 _ _ _ H4.wbk]
    rfl
  · exact hc.row H4.slo (fun x hx => hno (own_ty H4.slo hx) (by decide))
end Go.Proofs.YtaeapikhhbjlnaaGreatDoor
/- RecorderDoes: THE DOOR. Own work of the verifier. -/
namespace Go.Proofs.YtaeapikhhbjlnaaGreatDoor
open Go.ChangeShapes Go.WideShapes Go.ChangeAt Go.RowKit Go.Joins

theorem ld_own : ownKnob Tryz.prog.godebug = none := by kernel_rfl
theorem ld_laidOut : laidOutB Tryz.prog = true := by kernel_rfl
theorem ld_cellsOp : Tryz.prog.cellsOf 42 = 5 := by kernel_rfl
theorem ld_bytesOp : Tryz.prog.bytesOf 42 = 40 := by kernel_rfl
theorem ld_cellsInt : Tryz.prog.cellsOf 3 = 1 := by kernel_rfl
theorem ld_bytesInt : Tryz.prog.bytesOf 3 = 8 := by kernel_rfl
theorem ld_cellsI64 : Tryz.prog.cellsOf 2 = 1 := by kernel_rfl
theorem ld_cellsF64 : Tryz.prog.cellsOf 40 = 1 := by kernel_rfl
theorem ld_range {n : Int} (h : (Lit.int .i64 n).wf = true) : In64 n := by
  have hx : -9223372036854775808 ≤ n ∧ n ≤ 9223372036854775807 := by simpa [Lit.wf, IntKind.min, IntKind.max, IntKind.signed, IntKind.bits] using h
  exact ⟨by omega, by omega⟩
section
variable {H : Type} {enc : TypeId × Value → H}
theorem ld_f64 {P : Program} {w : World} {base : Nat} {spare : Nat → Bool} {held : Bool} {fuel : Nat} {t : TypeId} {cs : List Value} {x : DataW H × List MemPlace} (ht : P.underlying t = some (.float .f64)) (h : DataW.trod enc P w base spare held fuel t cs = some x) : ∃ b : Nat, cs = [.float .f64 b] ∧ b < 18446744073709551616 := by
  cases fuel with
  | zero => simp [DataW.trod] at h
  | succ n =>
    unfold DataW.trod at h
    rw [ht] at h
    split at h <;> simp_all
    rename_i k k' b e
    subst e
    simpa [Lit.wf] using h.1.2
set_option maxRecDepth 100000 in
/-- A script, opened. -/
theorem ld_script {W : World} {base : Nat} {v : Value} {d : DataW H} {pl : List MemPlace} (hv : Value.okWide Tryz.prog W .any base 23 v) (h : DataW.Trod enc Tryz.prog W 0 (fun _ => true) true 23 v d pl)
    (hw : (d.weights Tryz.prog 23).all (· ≤ reachBytes) = true) :
    ∃ (ao : Option Addr) (b off cap : Nat) (L : List (Int × Int × Int × Int × Nat)), v = .slice ao L.length cap ∧ (L ≠ [] → ao = some ⟨b, off, none⟩) ∧
      (∀ i (hi : i < L.length), (W.cell? ⟨b, off + i * 5, none⟩ = some (.int .i64 L[i].1) ∧ W.cell? ⟨b, off + i * 5 + 1, none⟩ = some (.int .i64 L[i].2.1) ∧ W.cell? ⟨b, off + i * 5 + 2, none⟩ = some (.int .i64 L[i].2.2.1) ∧ W.cell? ⟨b, off + i * 5 + 3, none⟩ = some (.int .i64 L[i].2.2.2.1) ∧ W.cell? ⟨b, off + i * 5 + 4, none⟩ = some (.float .f64 L[i].2.2.2.2)) ∧ In64 L[i].2.2.2.1 ∧ L[i].2.2.2.2 < 18446744073709551616) ∧
      L.length ≤ 3600000000000 := by
  obtain ⟨a0, len, cap, rfl⟩ := okWide_slice Tryz.underlying23 hv
  obtain ⟨fuel, hf⟩ := h
  rcases Deep.open_slice Tryz.underlying23 hf with ⟨hcs, _⟩ | ⟨a, len', cap', m, n, D, Pl, hcs, _, hl, hm, hmm, hxx, hx⟩
  · simp [Value.cells] at hcs
    obtain ⟨rfl, rfl, rfl⟩ := hcs
    exact ⟨none, 0, 0, 0, [], rfl, (fun k => absurd rfl k), (fun i hi => by simp at hi), by simp⟩
  · simp [Value.cells] at hcs
    obtain ⟨rfl, rfl, rfl⟩ := hcs
    simp only [if_true] at hmm
    subst hmm
    obtain ⟨rfl, rfl⟩ := Prod.mk.inj hxx
    have each : ∀ i, i < m → ∃ s : Int × Int × Int × Int × Nat, (W.cell? (a.add (i * 5)) = some (.int .i64 s.1) ∧ W.cell? (a.add (i * 5 + 1)) = some (.int .i64 s.2.1) ∧ W.cell? (a.add (i * 5 + 2)) = some (.int .i64 s.2.2.1) ∧ W.cell? (a.add (i * 5 + 3)) = some (.int .i64 s.2.2.2.1) ∧ W.cell? (a.add (i * 5 + 4)) = some (.float .f64 s.2.2.2.2)) ∧ In64 s.2.2.2.1 ∧ s.2.2.2.2 < 18446744073709551616 := by
      intro i hi
      obtain ⟨cs', h1, h2⟩ := hx i hi
      rw [ld_cellsOp] at h1
      obtain ⟨_, hlen, hcell⟩ := World.cells?_some h1
      obtain ⟨xs, k, hk, hxy, _, hxl, hfs⟩ := DataW.trod_struct Tryz.underlying42 h2
      match xs, hxl, cs', hlen with
      | [y0, y1, y2, y3, y4], _, [v0, v1, v2, v3, v4], _ =>
        have g0 := hfs 0 _ rfl
        have g1 := hfs 1 _ rfl
        have g2 := hfs 2 _ rfl
        have g3 := hfs 3 _ rfl
        have g4 := hfs 4 _ rfl
        simp [ld_cellsInt, ld_cellsI64, ld_cellsF64] at g0 g1 g2 g3 g4
        obtain ⟨z0, e0, _, _⟩ := DataW.trod_int Tryz.underlying3 g0
        obtain ⟨z1, e1, _, _⟩ := DataW.trod_int Tryz.underlying3 g1
        obtain ⟨z2, e2, _, _⟩ := DataW.trod_int Tryz.underlying3 g2
        obtain ⟨z3, e3, _, w3⟩ := DataW.trod_int Tryz.underlying2 g3
        obtain ⟨z4, e4, w4⟩ := ld_f64 Tryz.underlying40 g4
        simp at e0 e1 e2 e3 e4
        subst e0 e1 e2 e3 e4
        have c0 := hcell 0 (by omega)
        have c1 := hcell 1 (by omega)
        have c2 := hcell 2 (by omega)
        have c3 := hcell 3 (by omega)
        have c4 := hcell 4 (by omega)
        rw [Deep.add_add] at c0 c1 c2 c3 c4
        exact ⟨(z0, z1, z2, z3, z4), ⟨by simpa using c0, by simpa using c1, by simpa using c2, by simpa using c3, by simpa using c4⟩, ld_range w3, w4⟩
    obtain ⟨f, hf'⟩ := Deep.choose_lt each
    have hlen : ((List.range len).map f).length = len := by simp
    obtain ⟨b, off, spot⟩ := a
    have hs : 0 < len → spot = none := fun k => by simpa [Addr.add] using World.cell?_spot (hf' 0 (by omega)).1.1
    refine ⟨some ⟨b, off, spot⟩, b, off, m, (List.range len).map f, by rw [hlen], fun k => ?_, fun i hi => ?_, ?_⟩
    · have : 0 < len := by
        rcases Nat.eq_zero_or_pos len with q | q
        · exact absurd (by rw [q]; rfl) k
        · exact q
      rw [hs this]
    · rw [hlen] at hi
      obtain ⟨⟨c0, c1, c2, c3, c4⟩, q1, q2⟩ := hf' i (by omega)
      have e := hs (by omega)
      subst e
      rw [Addr.add_lit] at c0 c1 c2 c3 c4
      simp only [List.getElem_map, List.getElem_range]
      exact ⟨⟨c0, by rw [← Nat.add_assoc] at c1; exact c1, by rw [← Nat.add_assoc] at c2; exact c2, by rw [← Nat.add_assoc] at c3; exact c3, by rw [← Nat.add_assoc] at c4; exact c4⟩, q1, q2⟩
    · rw [hlen]
      simp only [DataW.weights, Tryz.underlying23, ld_bytesOp, List.all_cons, Bool.and_eq_true, decide_eq_true_eq, List.length_map, List.length_range] at hw
      have := hw.1
      unfold reachBytes at this
      omega
set_option maxRecDepth 100000 in
/-- Whole numbers, as they are handed in. -/
theorem ld_numbers {W : World} {base : Nat} {v : Value} {d : DataW H} {p : List MemPlace} (hv : Value.okWide Tryz.prog W .any base 22 v) (h : DataW.Trod enc Tryz.prog W 0 (fun _ => true) true 22 v d p)
    (hw : (d.weights Tryz.prog 22).all (· ≤ reachBytes) = true) :
    ∃ (ao : Option Addr) (b off cap : Nat) (L : List Int), v = .slice ao L.length cap ∧ (L ≠ [] → ao = some ⟨b, off, none⟩) ∧ (∀ i (hi : i < L.length), W.cell? ⟨b, off + i, none⟩ = some (.int .i64 L[i])) ∧ L.length ≤ 17592186044416 := by
  obtain ⟨a0, len, cap, rfl⟩ := okWide_slice Tryz.underlying22 hv
  obtain ⟨fuel, hf⟩ := h
  rcases open_ints Tryz.underlying22 Tryz.underlying3 ld_cellsInt hf with ⟨hcs, hx⟩ | ⟨a, len', cap', zs, hcs, _, hl, hm, hz, hx, hcell, hwz⟩
  · simp [Value.cells] at hcs
    obtain ⟨rfl, rfl, rfl⟩ := hcs
    exact ⟨none, 0, 0, 0, [], rfl, (fun k => absurd rfl k), (fun i hi => by simp at hi), by simp⟩
  · simp [Value.cells] at hcs
    obtain ⟨rfl, rfl, rfl⟩ := hcs
    simp only [Prod.mk.injEq] at hx
    obtain ⟨rfl, rfl⟩ := hx
    simp only [if_true] at hz
    have hlen : (zs.take len).length = len := by simp; omega
    obtain ⟨b, off, spot⟩ := a
    have hs : 0 < len → spot = none := fun k => by simpa [Addr.add] using World.cell?_spot (hcell 0 (by omega))
    refine ⟨some ⟨b, off, spot⟩, b, off, cap, zs.take len, by rw [hlen], fun k => ?_, fun i hi => ?_, ?_⟩
    · have : 0 < len := by
        rcases Nat.eq_zero_or_pos len with q | q
        · exact absurd (by rw [q]; rfl) k
        · exact q
      rw [hs this]
    · rw [hlen] at hi
      have hc := hcell i (by omega)
      have e := hs (by omega)
      subst e
      rw [Addr.add_lit] at hc
      rw [hc]
      have hi' : i < zs.length := by omega
      simp [List.getD, hi']
    · rw [hlen]
      simp only [DataW.weights, Tryz.underlying22, ld_bytesInt, List.all_cons, Bool.and_eq_true, decide_eq_true_eq, lits, List.length_map, List.length_take, List.length_drop] at hw
      have := hw.1
      unfold reachBytes at this
      omega
end
end Go.Proofs.YtaeapikhhbjlnaaGreatDoor
/- RecorderDoes: the walk. Own work of the verifier. -/
namespace Go.Proofs.YtaeapikhhbjlnaaGreatDoor
open Go.RowKit

theorem infoPS : (Tryz.prog.info? 34).map (fun i => (i.zero, i.size, i.bytes)) = some (some (.pointer none), 1, 8) := by kernel_rfl
theorem infoInt : (Tryz.prog.info? 3).map (fun i => (i.zero, i.size, i.bytes)) = some (some (.int .i64 0), 1, 8) := by kernel_rfl
section
variable {w0 W : World} {k ph wb : Nat} {st pi : Int} {slv mv : Value} {SL : List SlK}
theorem Mk.mid (H : Mk w0 k ph wb st pi slv mv SL W) {w1 w2 : World} (hb : Below W.heap.size W w1) {o : Obj} {v : Value} (gr1 : (w1.alloc o).grownBy w2 slv.ownBlock) : (w2.cell? ⟨wb, 2, none⟩ = some slv ∧ w2.frozen? ⟨wb, 2, none⟩ = false) ∧ (w2.setCell ⟨wb, 2, none⟩ v).ownsRow w0.heap.size 3 1 mv SL.length (SL.map fun X => .int .i64 X.kd) ∧ (∀ x, x < w0.heap.size → (w2.setCell ⟨wb, 2, none⟩ v).heap[x]? = w0.heap[x]?) ∧ w0.heap.size ≤ (w2.setCell ⟨wb, 2, none⟩ v).heap.size := by
  have H1 := H.below hb
  have hs0 := H.bel.size
  have hs1 := hb.size
  have b1 := bel1 w1 o
  have nwb : some wb ≠ slv.ownBlock := fun e => absurd ((own_ty H1.slo e.symm).eq (ty_of H1.wbk)) (by decide)
  have hw2 : w2.heap[wb]? = _ := (gr1.block wb (by have := (Array.getElem?_eq_some_iff.1 H1.wbk).1; simp; omega) nwb).trans ((b1.block wb (Array.getElem?_eq_some_iff.1 H1.wbk).1).trans H1.wbk)
  have hc1 : Chg (fun x => some x = slv.ownBlock ∨ x = wb) w1 (w2.setCell ⟨wb, 2, none⟩ v) := ⟨gr1.os, gr1.tape, gr1.output, by rw [World.size_setCell]; have := gr1.size; simp at this; omega, fun x hx hn => by
    rw [heap_setCell_other _ _ _ _ (by show x ≠ wb; exact fun e => hn (Or.inr e)), gr1.block x (by simp; omega) (fun e => hn (Or.inl e))]
    exact b1.block x hx⟩
  refine ⟨⟨by simp [World.cell?, hw2], by simp [World.frozen?, hw2]⟩, hc1.row H1.mdo (fun x hx q => by
    rcases q with q | q
    · exact absurd ((own_ty H1.mdo hx).eq (own_ty H1.slo q.symm)) (by decide)
    · exact absurd ((own_ty H1.mdo hx).eq (by rw [q]; exact ty_of H1.wbk)) (by decide)), fun x hx => ?_, by have := hc1.size; omega⟩
  rw [hc1.block x (by omega) (fun q => by
    rcases q with q | q
    · have := (H1.slo.lt x q.symm).1; omega
    · have := H.kge.2.2; omega)]
  exact H1.bel.block x hx
theorem own_int0 (W : World) (B : Nat) (hB : B ≤ W.heap.size) : (W.alloc (.cells #[] 3)).ownsRow B 3 1 (.slice (some ⟨W.heap.size, 0, none⟩) 0 0) 0 [] := ⟨rfl, .inr ⟨W.heap.size, 0, #[], rfl, hB, new_1 W _, Nat.le_refl _, by decide, rfl, rfl⟩⟩
theorem mk_first {w w1 w2 : World} {k ph : Nat} (st pi : Int) (hb1 : Below w.heap.size w w1) (hS : Sh w2 k ph 0 0 0) (hP : Ph w2 ph 0 0 (-9223372036854775808)) (hb2 : Below w1.heap.size w1 w2) (hk : w1.heap.size ≤ k ∧ w1.heap.size ≤ ph) : Mk w k ph w2.heap.size st pi (.slice none 0 0) (.slice (some ⟨w2.heap.size + 1, 0, none⟩) 0 0) [] ((w2.alloc (.cells #[ptr k, .slice none 0 0, .slice none 0 0, .int .i64 pi, .pointer none, .slice none 0 0] 33)).alloc (.cells #[] 3)) := by
  have h1 := hb1.size
  have h2 := hb2.size
  have b := bel2 w2 (.cells #[ptr k, .slice none 0 0, .slice none 0 0, .int .i64 pi, .pointer none, .slice none 0 0] 33) (.cells #[] 3)
  have bw : Below w.heap.size w w2 := hb1.trans (hb2.mono h1)
  have hl : (w2.alloc (.cells #[ptr k, .slice none 0 0, .slice none 0 0, .int .i64 pi, .pointer none, .slice none 0 0] 33)).heap.size = w2.heap.size + 1 := by simp
  have ho := own_int0 (w2.alloc (.cells #[ptr k, .slice none 0 0, .slice none 0 0, .int .i64 pi, .pointer none, .slice none 0 0] 33)) w.heap.size (by omega)
  rw [hl] at ho
  refine ⟨bw.trans (b.mono (by omega)), (b.block k (Array.getElem?_eq_some_iff.1 hS).1).trans hS, (b.block ph (Array.getElem?_eq_some_iff.1 hP).1).trans hP, Pr.new1 w2 _ _, World.ownsRow_nil _ _ _ _, ho, by simp, (fun h => by simp at h), (fun j hj => by simp at hj), (fun j hj => by simp at hj), (fun i j hi => by simp at hi), (fun j hj => by simp at hj), ⟨by omega, by omega, by omega⟩, (fun x hx => by cases hx), fun x hx v hv => ?_⟩
  have hx' : w2.heap.size + 1 = x := by simpa [Value.ownBlock] using hx
  subst hx'
  have hn := Pr.new2 w2 (.cells #[ptr k, .slice none 0 0, .slice none 0 0, .int .i64 pi, .pointer none, .slice none 0 0] 33) (.cells #[] 3)
  simp only [World.cell?, hn] at hv
  simp at hv
end
theorem new_set (W : World) (a : Addr) (v : Value) (o : Obj) : ((W.setCell a v).alloc o).heap[W.heap.size]? = some o := by
  have := new_1 (W.setCell a v) o
  rw [World.size_setCell] at this
  exact this
theorem mk_wb {w0 W : World} {k ph wb : Nat} {st pi : Int} {slv mv : Value} {SL : List SlK} (H : Mk w0 k ph wb st pi slv mv SL W) : W.cell? ⟨wb, 0, none⟩ = some (ptr k) ∧ W.cell? ⟨wb, 2, none⟩ = some slv := ⟨by simp [World.cell?, H.wbk], by simp [World.cell?, H.wbk]⟩
set_option maxRecDepth 10000 in
set_option maxHeartbeats 8000000 in
theorem does_walk (st pi : Int) (ks : List Int) (ao : Option Addr) (kb ko kc : Nat) (ops : List (Int × Int × Int × Int × Nat)) (so : Option Addr) (ob oo oc : Nat) (w : World) (hao : ks ≠ [] → ao = some ⟨kb, ko, none⟩) (hks : ∀ i (hi : i < ks.length), w.cell? ⟨kb, ko + i, none⟩ = some (.int .i64 ks[i])) (hso : ops ≠ [] → so = some ⟨ob, oo, none⟩)
    (hops : ∀ i (hi : i < ops.length), (w.cell? ⟨ob, oo + i * 5, none⟩ = some (.int .i64 ops[i].1) ∧ w.cell? ⟨ob, oo + i * 5 + 1, none⟩ = some (.int .i64 ops[i].2.1) ∧ w.cell? ⟨ob, oo + i * 5 + 2, none⟩ = some (.int .i64 ops[i].2.2.1) ∧ w.cell? ⟨ob, oo + i * 5 + 3, none⟩ = some (.int .i64 ops[i].2.2.2.1) ∧ w.cell? ⟨ob, oo + i * 5 + 4, none⟩ = some (.float .f64 ops[i].2.2.2.2)) ∧ In64 ops[i].2.2.2.1 ∧ ops[i].2.2.2.2 < 18446744073709551616) (hl : ks.length ≤ 17592186044416) (hl2 : ops.length ≤ 3600000000000) :
    Calls Tryz.prog 3 #[.int .i64 st, .int .i64 pi, .slice ao ks.length kc, .slice so ops.length oc] w fun e w' => e = .returned (.bool true) ∧ Below w.heap.size w w' := by
  have HW : Hid (∀ _ : Unit, Calls Tryz.prog 7 #[] w fun e w' => e = .returned (.bool true) ∧ Hid (Below w.heap.size w w')) := fun _ => awake_any w
  have HN : Hid (∀ W : World, _) := rnew_any
  have Hao : Hid (ks ≠ [] → ao = some ⟨kb, ko, none⟩) := hao
  have HKs : Hid (∀ i (hi : i < ks.length) (W : World), W.heap[kb]? = w.heap[kb]? → W.cell? ⟨kb, ko + i, none⟩ = some (.int .i64 ks[i])) := fun i hi W e => (World.cell?_of_block (a := ⟨kb, ko + i, none⟩) e).trans (hks i hi)
  have HKl : Hid (∀ i, i < ks.length → kb < w.heap.size) := fun i hi => lt_of_cell (hks i hi)
  have Hso : Hid (ops ≠ [] → so = some ⟨ob, oo, none⟩) := hso
  have HOp : Hid (∀ i (hi : i < ops.length), (w.cell? ⟨ob, oo + i * 5, none⟩ = some (.int .i64 ops[i].1) ∧ w.cell? ⟨ob, oo + i * 5 + 1, none⟩ = some (.int .i64 ops[i].2.1) ∧ w.cell? ⟨ob, oo + i * 5 + 2, none⟩ = some (.int .i64 ops[i].2.2.1) ∧ w.cell? ⟨ob, oo + i * 5 + 3, none⟩ = some (.int .i64 ops[i].2.2.2.1) ∧ w.cell? ⟨ob, oo + i * 5 + 4, none⟩ = some (.float .f64 ops[i].2.2.2.2)) ∧ In64 ops[i].2.2.2.1 ∧ ops[i].2.2.2.2 < 18446744073709551616) := hops
  obtain ⟨i0, hi0, hz0, hz1, hz2⟩ := info_parts infoPS
  obtain ⟨j0, hj0, hy0, hy1, hy2⟩ := info_parts infoInt
  clear hao hks hso hops
  go_enter Tryz.func3, Tryz.ntmps3
  go_wp2_with (first
    | (go_at_call 7; with_reducible refine Calls.mono (HW.out ()) ?_; rintro e w1 ⟨rfl, HB1⟩)
    | (go_at_call 8; with_reducible refine Calls.mono (HN.out _) ?_; rintro e w2 ⟨k, ph, rfl, HS2, HP2, HB2, HK2⟩))
  have HM0 := hid_of (mk_first st pi HB1.out HS2.out HP2.out HB2.out HK2.out)
  clear HS2 HP2 HB2 HK2 HB1
  go_loopw [10, 11] (fun m a wr => ∃ (i : Nat) (SL : List SlK) (slv : Value), i ≤ ks.length ∧ a = .int .i64 (i : Int) ∧ Hid (Mk w k ph w2.heap.size st pi slv m SL wr)) (fun _ a _ => ks.length - (intOf a).toNat)
  case atStart => exact ⟨0, [], _, by omega, rfl, HM0.out⟩
  case round =>
    obtain ⟨i, SL, slv, hi, rfl, HM⟩ := hrel
    obtain ⟨mao, mc, hmv⟩ := own_len HM.out.mdo
    subst hmv
    obtain ⟨wb0, wb2⟩ := mk_wb HM.out
    have hfew := HM.out.few
    by_cases hcond : i < ks.length ∧ SL.length < 20
    · obtain ⟨hlt, hf⟩ := hcond
      have hlt' : (i : Int) < (ks.length : Int) := by omega
      have hf' : (SL.length : Int) < 20 := by omega
      obtain rfl := Hao.out (by intro e; rw [e] at hlt; simp at hlt)
      have hkc := HKs.out i hlt wr (HM.out.bel.block kb (HKl.out i hlt))
      have HKi : Hid (∀ W : World, W.heap[kb]? = w.heap[kb]? → W.cell? ⟨kb, ko + i, none⟩ = some (.int .i64 ks[i])) := fun W e => HKs.out i hlt W e
      have hkl := HKl.out i hlt
      generalize ks[i] = kd at *
      by_cases hok : (kd = 1 ∨ kd = 2 ∨ kd = 3) ∧ okS st pi ∧ celF kd st pi ≤ 1048576
      · obtain ⟨hk3, hos, hcel⟩ := hok
        obtain ⟨n, p, rfl, rfl, n0, n16, p1, p14⟩ : ∃ n p : Nat, st = (n : Int) ∧ pi = (p : Int) ∧ 0 < n ∧ n ≤ 16 ∧ 1 ≤ p ∧ p ≤ 14 := by
          unfold okS at hos
          exact ⟨st.toNat, pi.toNat, by omega, by omega, by omega, by omega, by omega, by omega⟩
        have HNk : Hid (∀ _ : Unit, _) := fun _ => newK kd hk3 n p n0 n16 p1 p14 hcel wr
        have HMid : Hid (∀ (w3 w4 : World) (o : Obj) (v : Value), Below wr.heap.size wr w3 → (w3.alloc o).grownBy w4 slv.ownBlock → (w4.cell? ⟨w2.heap.size, 2, none⟩ = some slv ∧ w4.frozen? ⟨w2.heap.size, 2, none⟩ = false) ∧ (w4.setCell ⟨w2.heap.size, 2, none⟩ v).cell? ⟨kb, ko + i, none⟩ = some (.int .i64 kd) ∧ Hid ((w4.setCell ⟨w2.heap.size, 2, none⟩ v).ownsRow w.heap.size 3 1 (.slice mao SL.length mc) SL.length (SL.map fun X => .int .i64 X.kd)) ∧ Hid (w.heap.size ≤ (w4.setCell ⟨w2.heap.size, 2, none⟩ v).heap.size)) := fun w3 w4 o v h1 h2 => by
          obtain ⟨q1, q2, q3, q4⟩ := HM.out.mid (v := v) h1 h2
          exact ⟨q1, HKi.out _ (q3 kb hkl), q2, q4⟩
        have HSlo : Hid (∀ w3, Below wr.heap.size wr w3 → ∀ o, (w3.alloc o).ownsRow w.heap.size 34 1 slv SL.length (SL.map fun X => ptr X.s)) := fun w3 h o => ((HM.out.below h).slo).alloc o
        have HSz : Hid (∀ w3, Below wr.heap.size wr w3 → ∀ o, w.heap.size ≤ (w3.alloc o).heap.size) := fun w3 h o => by have := HM.out.bel.size; have := h.size; simp; omega
        have HCb : Hid (∀ w3, Below wr.heap.size wr w3 → w3.cell? ⟨w2.heap.size, 2, none⟩ = some slv ∧ ∀ o, (w3.alloc o).cell? ⟨w2.heap.size, 2, none⟩ = some slv) := fun w3 h => by
          have e := (mk_wb (HM.out.below h)).2
          exact ⟨e, fun o => ((bel1 w3 o).cell (p := ⟨w2.heap.size, 2, none⟩) (lt_of_cell e)).trans e⟩
        have HPush : Hid (∀ (X : SlK) (w3 w4 w5 : World) (o o2 : Obj) (slv' mv' : Value), (X.kd = kd ∧ SlW X p n (fun _ _ => frst kd (p : Int)) w3 ∧ Below wr.heap.size wr w3 ∧ ∀ g ∈ X.G 0 ++ X.G 1, wr.heap.size ≤ g) → w4.ownsRow w.heap.size 34 1 slv' (SL.length + 1) ((SL.map fun X => ptr X.s) ++ [ptr X.s]) → (w3.alloc o).grownBy w4 slv.ownBlock → w5.ownsRow w.heap.size 3 1 mv' (SL.length + 1) ((SL.map fun X => .int .i64 X.kd) ++ [.int .i64 kd]) → ((w4.setCell ⟨w2.heap.size, 2, none⟩ slv').alloc o2).grownBy w5 (Value.slice mao SL.length mc).ownBlock → Mk w k ph w2.heap.size (n : Int) (p : Int) slv' mv' (SL ++ [X]) w5) := fun X w3 w4 w5 o o2 slv' mv' hX a1 a2 a3 a4 => by
          obtain ⟨x1, x2, x3, x4⟩ := hX
          subst x1
          exact (HM.out.push hf rfl rfl n0 n16 p1 p14 x2 x3 x4 a1 a2 a3 a4).2
        have HLn : Hid (SL.length ≤ 20) := hfew
        clear hk3 hos hcel n0 n16 p1 p14 wb0
        go_wp2_with (first
          | (go_at_call 9; with_reducible refine Calls.mono (HNk.out ()) ?_; rintro e w3 ⟨X, rfl, H3⟩; obtain ⟨y1, y2⟩ := HCb.out w3 H3.out.2.2.1)
          | (at_builtin; refine wpList_append_own _ rfl _ _ 29 rfl w.heap.size 34 i0 (.pointer none) 1 8 Tryz.underlying29 hi0 hz0 hz1 hz2 rfl (by decide) slv SL.length (SL.map fun X => ptr X.s) rfl (HSlo.out w3 H3.out.2.2.1 _) ⟨w3.heap.size, 0, none⟩ 1 1 [ptr X.s] rfl rfl (World.news_of_block (cs := #[ptr X.s]) (new_1 w3 _)) (by simp [Value.oneCell']) (by have := HLn.out; unfold maxLen; omega) (by have := HLn.out; omega) (HSz.out w3 H3.out.2.2.1 _) ?_; intro slv' w4 own1 gr1 hn1; obtain ⟨⟨z1, z2⟩, z3, HM2, HS2⟩ := HMid.out w3 w4 _ slv' H3.out.2.2.1 gr1; obtain ⟨sa, sm, sc, rfl⟩ := own_sl own1; have Hown1 := hid_of own1; have Hgr1 := hid_of gr1; clear own1 gr1 hn1)
          | (at_builtin; refine wpList_append_own _ rfl _ _ 22 rfl w.heap.size 3 j0 (.int .i64 0) 1 8 Tryz.underlying22 hj0 hy0 hy1 hy2 rfl (by decide) (.slice mao SL.length mc) SL.length (SL.map fun X => .int .i64 X.kd) rfl (HM2.out.alloc _) ⟨w4.heap.size, 0, none⟩ 1 1 [.int .i64 kd] rfl rfl (World.news_of_block (cs := #[.int .i64 kd]) (new_set w4 ⟨w2.heap.size, 2, none⟩ (.slice sa sm sc) _)) (by simp [Value.oneCell']) (by have := HLn.out; unfold maxLen; omega) (by have := HLn.out; omega) (by have := HS2.out; simp at this ⊢; omega) ?_; intro mv' w5 own2 gr2 hn2; have HPs := hid_of (HPush.out X w3 w4 w5 _ _ _ _ H3.out Hown1.out Hgr1.out own2 gr2)))
        exact ⟨⟨i + 1, _, _, by omega, by simp, HPs.out⟩, by simp [intOf]; omega⟩
      · have HNo : Hid (∀ _ : Unit, _) := fun _ => newNo kd st pi hok wr
        have HBl : Hid (∀ w3, Below wr.heap.size wr w3 → Mk w k ph w2.heap.size st pi slv (.slice mao SL.length mc) SL w3) := fun w3 h => HM.out.below h
        clear hok
        go_wp2_with (go_at_call 9; with_reducible refine Calls.mono (HNo.out ()) ?_; rintro e w3 ⟨er, rfl, her, H3⟩; have her2 : (er == 0) = false := by simpa using her)
        exact ⟨⟨i + 1, SL, slv, by omega, by simp, HBl.out w3 H3.out⟩, by simp [intOf]; omega⟩
    · go_upto_region 8 with fail
      go_cut [39] from 31 to 38 (fun v W => v = .bool false ∧ W = wr)
      case first =>
        by_cases hlt : i < ks.length
        · have hlt' : (i : Int) < (ks.length : Int) := by omega
          have hf' : ¬ (SL.length : Int) < 20 := by omega
          go_wp2_with fail
          go_meet
          exact ⟨rfl, rfl⟩
        · have hlt' : ¬ (i : Int) < (ks.length : Int) := by omega
          go_wp2_with fail
          go_meet
          exact ⟨rfl, rfl⟩
      case rest =>
        obtain ⟨rfl, rfl⟩ := hcut
        have HNw : Hid (∀ stm : Int, (0 < SL.length → stm = st) → Calls Tryz.prog 10 #[.slice mao SL.length mc, .int .i64 stm, .int .i64 pi] wc fun e w' => ∃ sb, e = .returned (.pointer (some ⟨sb, 0, none⟩)) ∧ (w'.cell? ⟨w2.heap.size, 4, none⟩ = some (.pointer none) ∧ w'.frozen? ⟨w2.heap.size, 4, none⟩ = false) ∧ Hid (∃ K : Kx, K.wb = w2.heap.size ∧ K.w = w ∧ K.SL = SL ∧ K.slv = slv ∧ K.k = k ∧ K.sb = sb ∧ K.Ok ∧ StE K 0 (w'.setCell ⟨w2.heap.size, 4, none⟩ (.pointer (some ⟨sb, 0, none⟩))))) := fun stm hstm => by
          have fin : ∀ e w', NwQ stm pi st.toNat pi.toNat (SL.map fun X => X.kd) wc e w' → ∃ sb, e = .returned (.pointer (some ⟨sb, 0, none⟩)) ∧ (w'.cell? ⟨w2.heap.size, 4, none⟩ = some (.pointer none) ∧ w'.frozen? ⟨w2.heap.size, 4, none⟩ = false) ∧ Hid (∃ K : Kx, K.wb = w2.heap.size ∧ K.w = w ∧ K.SL = SL ∧ K.slv = slv ∧ K.k = k ∧ K.sb = sb ∧ K.Ok ∧ StE K 0 (w'.setCell ⟨w2.heap.size, 4, none⟩ (.pointer (some ⟨sb, 0, none⟩)))) := fun e w' q => ls_first HM.out hstm q
          by_cases hS : 0 < SL.length
          · obtain ⟨d1, d2, d3, d4, d5, d6⟩ := HM.out.dim hS
            obtain ⟨g, e1, hat⟩ := own_at HM.out.mdo hS
            have hln : (SL.map fun X => X.kd).length = SL.length := by simp
            have e0 := hstm hS
            rw [e0] at fin ⊢
            rw [d1, d2] at fin ⊢
            simp only [Int.toNat_natCast] at fin
            have h14 := new14_any st.toNat pi.toNat d3 d4 (SL.map fun X => X.kd) (by rw [hln]; exact HM.out.few) (fun q hq => by
              obtain ⟨X, hX, rfl⟩ := List.mem_map.1 hq
              obtain ⟨j, hj, rfl⟩ := List.getElem_of_mem hX
              exact (HM.out.sl j hj).kd) mao g 0 mc wc (fun _ => e1) (fun j hj => by
              have h := hat wc HM.out.mdo j (by simpa using hj)
              simpa using h)
            rw [hln] at h14
            exact Calls.mono h14 fin
          · have h0 : SL = [] := List.length_eq_zero_iff.1 (by omega)
            subst h0
            exact Calls.mono (new14_nil stm pi st.toNat pi.toNat mao mc wc) fin
        have HBm : Hid (0 < SL.length → 0 < st) := fun h => by
          obtain ⟨d1, d2, d3, _⟩ := HM.out.dim h
          omega
        clear HM wb0 wb2 hcond
        go_wp2_with (go_at_call 10; refine Calls.mono (HNw.out _ (by intro h; have hp := HBm.out h; (first | rfl | omega | (split <;> omega) | (simp; omega)))) ?_; rintro e w5 ⟨sb, rfl, ⟨v1, v2⟩, H5⟩)
        obtain ⟨K, kwb, kw, kSL, kslv, kk, ksb, hK, hE⟩ := H5.out
        have HK : Hid K.Ok := hK
        have HE0 : Hid (StE K 0 (w5.setCell ⟨w2.heap.size, 4, none⟩ (.pointer (some ⟨sb, 0, none⟩)))) := hE
        have HKf : Hid (K.wb = w2.heap.size ∧ K.w = w ∧ K.SL = SL ∧ K.slv = slv ∧ K.k = k ∧ K.sb = sb) := ⟨kwb, kw, kSL, kslv, kk, ksb⟩
        clear hE hK H5 HNw HBm kwb kw kSL kslv kk ksb v1 v2
        generalize w5.setCell ⟨w2.heap.size, 4, none⟩ (.pointer (some ⟨sb, 0, none⟩)) = W5 at *
        have HBel : Hid (∀ t W, StE K t W → Below w.heap.size w W) := fun t W h => by
          obtain ⟨_, _, _, _, _, _, _, _, h1⟩ := h
          have := h1.ls.bel
          rw [HKf.out.2.1] at this
          exact this
        have HStp : Hid (∀ (t : Nat) (kind on oid N : Int) (X : Nat) (W : World), t + 1 < 8796093022208 → In64 N → X < 18446744073709551616 → StE K t W → Calls Tryz.prog 11 #[.pointer (some ⟨w2.heap.size, 0, none⟩), .agg #[.int .i64 kind, .int .i64 on, .int .i64 oid, .int .i64 N, .float .f64 X]] W fun e w' => e = .returned (.bool true) ∧ Hid (StE K (t + 2) w')) := fun t kind on oid N X W h1 h2 h3 h4 => by
          have := step_any K HK.out t h1 kind on oid N X h2 h3 W h4
          rw [HKf.out.1] at this
          exact this
        go_loopw [14] (fun a wr => ∃ j : Nat, j ≤ ops.length ∧ a = .int .i64 (j : Int) ∧ Hid (StE K (2 * j) wr)) (fun a _ => ops.length - (intOf a).toNat)
        case atStart => exact ⟨0, by omega, rfl, HE0.out⟩
        case round =>
          obtain ⟨j, hj, rfl, HE⟩ := hrel
          by_cases hjl : j < ops.length
          · have hjl' : (j : Int) < (ops.length : Int) := by omega
            obtain rfl := Hso.out (by intro e; rw [e] at hjl; simp at hjl)
            obtain ⟨⟨c0, c1, c2, c3, c4⟩, hN, hX⟩ := HOp.out j hjl
            have hbl := HBel.out _ _ HE.out
            have mv : ∀ {a : Addr} {u : Value}, w.cell? a = some u → wr.cell? a = some u := fun {a} {u} e => (hbl.cell (p := a) (lt_of_cell e)).trans e
            have d0 := mv c0
            have d1 := mv c1
            have d2 := mv c2
            have d3 := mv c3
            have d4 := mv c4
            have HS1 : Hid (∀ _ : Unit, _) := fun _ => HStp.out (2 * j) ops[j].1 ops[j].2.1 ops[j].2.2.1 ops[j].2.2.2.1 ops[j].2.2.2.2 wr (by omega) hN hX HE.out
            clear c0 c1 c2 c3 c4 hN hX mv hbl
            generalize ops[j].1 = a1 at *
            generalize ops[j].2.1 = a2 at *
            generalize ops[j].2.2.1 = a3 at *
            generalize ops[j].2.2.2.1 = a4 at *
            generalize ops[j].2.2.2.2 = a5 at *
            go_wp2_with (go_at_call 11; with_reducible refine Calls.mono (HS1.out ()) ?_; rintro e w6 ⟨rfl, H6⟩)
            exact ⟨⟨j + 1, by omega, by simp, H6⟩, by simp [intOf]; omega⟩
          · obtain rfl : j = ops.length := by omega
            have hjl' : ¬ (ops.length : Int) < (ops.length : Int) := by omega
            have Ht : Hid (2 * ops.length + 1 < 8796093022208) := by unfold Hid; omega
            generalize 2 * ops.length = t at *
            obtain ⟨sao, sc, hsl⟩ : ∃ sao sc, slv = .slice sao SL.length sc := by
              obtain ⟨_, _, _, _, _, _, _, _, h1⟩ := HE.out
              have := (slv_form h1).2.2
              rw [HKf.out.2.2.2.1, HKf.out.2.2.1] at this
              exact this
            have HW2 : Hid (∀ W, StE K t W → W.cell? ⟨w2.heap.size, 2, none⟩ = some (.slice sao SL.length sc)) := fun W h => by
              obtain ⟨_, _, _, _, _, _, _, _, h1⟩ := h
              have := h1.ls.lw.2.2.1
              rw [HKf.out.1, HKf.out.2.2.2.1, hsl] at this
              exact this
            have hSf : SL.length ≤ 20 := by have := HK.out.few; rw [HKf.out.2.2.1] at this; exact this
            have HDr : Hid (∀ (id b : Nat) (W : World), id < SL.length → b < 2 → StE K t W → Calls Tryz.prog 12 #[.pointer (some ⟨w2.heap.size, 0, none⟩), .int .i64 (id : Int), .int .i64 (b : Int)] W fun e w' => e = .returned (.bool true) ∧ Hid (StE K t w')) := fun id b W h1 h2 h3 => by
              have := drain_law K HK.out t (by have := Ht.out; omega) id b (by rw [HKf.out.2.2.1]; exact h1) h2 W h3
              rw [HKf.out.1] at this
              exact this
            go_wp2_with fail
            go_loopw [16] (fun a wr => ∃ q : Nat, q ≤ SL.length ∧ a = .int .i64 (q : Int) ∧ Hid (StE K t wr)) (fun a _ => SL.length - (intOf a).toNat)
            case atStart => exact ⟨0, by omega, rfl, HE.out⟩
            case round =>
              obtain ⟨q, hq, rfl, HEq⟩ := hrel
              have x2 := HW2.out _ HEq.out
              by_cases hql : q < SL.length
              · have hql' : (q : Int) < (SL.length : Int) := by omega
                have HD0 : Hid (∀ W, StE K t W → Calls Tryz.prog 12 #[.pointer (some ⟨w2.heap.size, 0, none⟩), .int .i64 (q : Int), .int .i64 0] W fun e w' => e = .returned (.bool true) ∧ Hid (StE K t w')) := fun W h => HDr.out q 0 W hql (by decide) h
                have HD1 : Hid (∀ W, StE K t W → Calls Tryz.prog 12 #[.pointer (some ⟨w2.heap.size, 0, none⟩), .int .i64 (q : Int), .int .i64 1] W fun e w' => e = .returned (.bool true) ∧ Hid (StE K t w')) := fun W h => HDr.out q 1 W hql (by decide) h
                go_wp2_with (first
                  | (go_at_call 12; with_reducible refine Calls.mono (HD0.out _ HEq.out) ?_; rintro e w7 ⟨rfl, H7⟩)
                  | (go_at_call 12; with_reducible refine Calls.mono (HD1.out _ H7.out) ?_; rintro e w8 ⟨rfl, H8⟩))
                exact ⟨⟨q + 1, by omega, by simp, H8⟩, by simp [intOf]; omega⟩
              · obtain rfl : q = SL.length := by omega
                have hql' : ¬ (SL.length : Int) < (SL.length : Int) := by omega
                obtain ⟨a, r0, r1, lv, rv, Rs, Is, C, HS⟩ := HEq.out
                have HSd := HS.chg0 (drew0 wr)
                have lwF : ∀ {t ac ad : Nat} {r0 r1 s0 s1 : Int} {lv rv : Value} {Lp Rp : List Value} {Rs : List RcD} {Is : List Ins} {C D : Nat → Nat → Nat → List Int} {W : World}, LS K t ac ad r0 r1 s0 s1 lv rv Lp Rp Rs Is C D W → W.cell? ⟨w2.heap.size, 0, none⟩ = some (ptr K.k) ∧ W.cell? ⟨w2.heap.size, 4, none⟩ = some (ptr K.sb) := fun h => by
                  obtain ⟨h0, _, _, _, h4, _⟩ := h.lw
                  rw [HKf.out.1] at h0 h4
                  exact ⟨h0, h4⟩
                have hS0 := lwF HSd.ls
                rw [HKf.out.2.2.2.2.1, HKf.out.2.2.2.2.2] at hS0
                have HR1 : Hid (∀ _ : Unit, Calls Tryz.prog 13 #[ptr k, .pointer none, .int .i64 0] wr.drew fun e w' => e = .returned (.int .u64 (uw r0)) ∧ Hid (∀ _ : Unit, Calls Tryz.prog 14 #[ptr sb, .int .i64 0] w' fun e w'2 => e = .returned (.int .u64 (uw r0)) ∧ Hid (∀ _ : Unit, Calls Tryz.prog 13 #[ptr k, .pointer none, .int .i64 1] w'2 fun e w'3 => e = .returned (.int .u64 (uw r1)) ∧ Hid (∀ _ : Unit, Calls Tryz.prog 14 #[ptr sb, .int .i64 1] w'3 fun e w'4 => e = .returned (.int .u64 (uw r1)) ∧ Hid (Below w.heap.size w w'4) ∧ (w'4.cell? ⟨w2.heap.size, 0, none⟩ = some (ptr k) ∧ w'4.cell? ⟨w2.heap.size, 4, none⟩ = some (ptr sb))) ∧ (w'3.cell? ⟨w2.heap.size, 0, none⟩ = some (ptr k) ∧ w'3.cell? ⟨w2.heap.size, 4, none⟩ = some (ptr sb))) ∧ (w'2.cell? ⟨w2.heap.size, 0, none⟩ = some (ptr k) ∧ w'2.cell? ⟨w2.heap.size, 4, none⟩ = some (ptr sb))) ∧ (w'.cell? ⟨w2.heap.size, 0, none⟩ = some (ptr k) ∧ w'.cell? ⟨w2.heap.size, 4, none⟩ = some (ptr sb))) := fun _ => by
                  have kk := HKf.out.2.2.2.2.1
                  have ks' := HKf.out.2.2.2.2.2
                  rw [← kk, ← ks']
                  refine Calls.mono (HSd.ls.c_refused HK.out 0 (uw r0) 0 r1 (Or.inl ⟨rfl, rfl, rfl, rfl⟩)) ?_
                  rintro e y1 ⟨rfl, p1⟩
                  refine ⟨rfl, fun _ => ?_, lwF p1.out.1⟩
                  refine Calls.mono (p1.out.1.d_refused HK.out 0 (uw r0) 0 r1 (Or.inl ⟨rfl, rfl, rfl, rfl⟩)) ?_
                  rintro e y2 ⟨rfl, p2⟩
                  refine ⟨rfl, fun _ => ?_, lwF p2.out.1⟩
                  refine Calls.mono (p2.out.1.c_refused HK.out 1 (uw r1) 0 0 (Or.inr (Or.inl ⟨rfl, rfl, rfl, rfl⟩))) ?_
                  rintro e y3 ⟨rfl, p3⟩
                  refine ⟨rfl, fun _ => ?_, lwF p3.out.1⟩
                  refine Calls.mono (p3.out.1.d_refused HK.out 1 (uw r1) 0 0 (Or.inr (Or.inl ⟨rfl, rfl, rfl, rfl⟩))) ?_
                  rintro e y4 ⟨rfl, p4⟩
                  refine ⟨rfl, ?_, lwF p4.out.1⟩
                  have := p4.out.1.bel
                  rw [HKf.out.2.1] at this
                  exact this
                clear HS HSd lwF HDr HW2 HEq
                go_upto_region 28 with fail
                go_cut [8] from 118 to 141 (fun v W => v = .bool true ∧ Hid (Below w.heap.size w W))
                case first =>
                  go_region_held3 (fun W => W.cell? ⟨w2.heap.size, 0, none⟩ = some (ptr k) ∧ W.cell? ⟨w2.heap.size, 4, none⟩ = some (ptr sb))
                    (first | with_reducible assumption | with_reducible exact hS0)
                    (first
                      | (go_at_call 13; with_reducible refine Calls.mono (HR1.out ()) ?_; rintro e y1 ⟨rfl, HR2, hS1⟩)
                      | (go_at_call 14; with_reducible refine Calls.mono (HR2.out ()) ?_; rintro e y2 ⟨rfl, HR3, hS2⟩)
                      | (go_at_call 13; with_reducible refine Calls.mono (HR3.out ()) ?_; rintro e y3 ⟨rfl, HR4, hS3⟩)
                      | (go_at_call 14; with_reducible refine Calls.mono (HR4.out ()) ?_; rintro e y4 ⟨rfl, HB4, hS4⟩))
                  all_goals
                    go_wp2_with fail
                    go_meet
                    exact ⟨rfl, HB4⟩
                case rest =>
                  obtain ⟨rfl, HBe⟩ := hcut
                  go_wp2_with fail
                  go_ret
                  exact ⟨rfl, HBe.out⟩
end Go.Proofs.YtaeapikhhbjlnaaGreatDoor
