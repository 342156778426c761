/- THE READER: a series, where it is a counter that is right. Own work of the verifier. -/
import Derived.Test.YtliehacfoiigpaaGreatDoorSAV
namespace Go.Proofs.YtliehacfoiigpaaGreatDoor
open Go.RowKit Me

abbrev cx (nm hp : List UInt8) (L : List La.Lb) (t : Int) : Vl := ⟨⟨1, nm, hp, L⟩, t, [], 0, 0, 0, 0⟩
theorem three_cells {W : World} {b : Nat} {x0 x1 x2 : Value} {t : TypeId} (h : W.heap[b]? = some (.cells #[x0, x1, x2] t)) : W.cell? ⟨b, 0, none⟩ = some x0 ∧ W.cell? ⟨b, 1, none⟩ = some x1 ∧ W.cell? ⟨b, 2, none⟩ = some x2 ∧ W.frozen? ⟨b, 1, none⟩ = false := by
  refine ⟨?_, ?_, ?_, ?_⟩ <;> simp [World.cell?, World.frozen?, h]
theorem owc_nil (B : Nat) (W : World) : OwC B (.slice none 0 0) [] W := World.ownsRow_nil _ _ _ _
theorem Ss.at6 {u : World} {rb sb B : Nat} {p : Int} {r : Nat} {v : Value} {R : List Rv} {T : List UInt8} {n : Nat} {W W1 W' : World} (h : Ss u rb sb B p r v R T n W) (hb : Below W.heap.size W W1) (hg : W1.grownBy W' v.ownBlock) : W'.heap[sb]? = some (.cells #[.int .i64 p, v, .int .u64 (r : Int)] 26) :=
  (Chg.of_grown (S := fun b => v.ownBlock = some b) hg (fun _ e => e)).at_ (hkN' h.sn hb) (own_neG h.own h.sB)
theorem Ss.last {u : World} {rb sb B : Nat} {p : Int} {r : Nat} {v : Value} {R : List Rv} {T : List UInt8} {n : Nat} {W : World} {q : Rv} (h : Ss u rb sb B p r v (R ++ [q]) T n W) (hl : R.length < 256) (hz : lstE ⟨p, R.map (·.1) ++ [q.1], r⟩ = 0) : Calls Tryz.prog 27 #[.agg #[.int .i64 p, v, .int .u64 (r : Int)]] W fun e w' => e = .returned (.int .i64 0) ∧ Below W.heap.size W w' := by
  have hv := h.sv
  rw [List.map_append] at hv
  have := last_any ⟨p, R.map (·.1) ++ [q.1], r⟩ v ⟨fun x hx => by
    rcases List.mem_append.1 hx with k | k
    · obtain ⟨y, hy, rfl⟩ := List.mem_map.1 k
      exact h.vw y (List.mem_append_left _ hy)
    · rw [List.mem_singleton] at k
      subst k
      exact h.vw q (List.mem_append_right _ List.mem_cons_self), h.r64⟩ W hv (by simp) (by simp; omega)
  rw [hz] at this
  exact this
set_option maxRecDepth 100000 in
set_option maxHeartbeats 4000000 in
theorem series_ok (u : World) (rb sb B : Nat) (p : Int) (r : Nat) (v : Value) (R : List Rv) (T nm hp : List UInt8) (lv : Value) (n : Nat) (L : List La.Lb) (t : Int) (w : World) (h : Ss u rb sb B p r v R T n w) (hm : Mx u) (ht : Wi.Tab u) (hT : T.length ≤ 4194304) (hn : n ≤ 4611686018427387904) (hc : (cut10 T).2.2 = true) (hR : cntR nm (cut10 T).1 = some (L, t)) (hl : R.length < 256) (hx : VW (cx nm hp L t)) (hz : lstE ⟨p, R.map (·.1) ++ [cx nm hp L t], r⟩ = 0) :
    Calls Tryz.prog 18 #[.pointer (some ⟨rb, 0, none⟩), .pointer (some ⟨sb, 0, none⟩), .agg (d4 1 nm hp lv)] w fun e w' => e = .returned (.tuple #[]) ∧ ∃ v' l', Ss u rb sb B p r v' (R ++ [(cx nm hp L t, l', .slice none 0 0)]) (cut10 T).2.1 (n + 1) w' ∧ Chg (fun b => b = rb ∨ b = sb ∨ v.ownBlock = some b) w w' := by
  obtain ⟨W0, hW0⟩ : ∃ W0, W0 = w.alloc (.cells (d4 1 nm hp lv) 35) := ⟨_, rfl⟩
  have hb0 : Below w.heap.size w W0 := by rw [hW0]; exact bel1 _ _
  have hN : W0.heap[w.heap.size]? = some (.cells (d4 1 nm hp lv) 35) := by rw [hW0]; exact new_1 w _
  have h0 := h.keep hb0
  obtain ⟨va, vg, vcap, rfl, -⟩ := own_slice h.own
  obtain ⟨c0, c1, -, -⟩ := h0.rd.cells
  obtain ⟨s0, s1, s2, sf⟩ := three_cells h0.sn
  obtain ⟨d0, d1, d2, d3⟩ := four_cells hN
  have HV : Hid (∀ W, Below W0.heap.size W0 W → Calls Tryz.prog 26 #[.pointer (some ⟨rb, 0, none⟩), .int .i64 p, .agg (d4 1 nm hp lv)] W fun e w' => ∃ la lc, e = .returned (.agg (cvV 1 nm hp (.slice la L.length lc) t)) ∧ Hid (Ss u rb sb B p r (.slice va R.length vcap) R (cut10 T).2.1 (n + 1) w' ∧ La.OwnL B (.slice la L.length lc) L w' ∧ Chg (fun b => b = rb) W0 w')) := fun W hW => by
    have hS := h0.keep hW
    refine Calls.mono (value_ok u rb T nm hp p lv n L t W hS.rd hm ht hT hn hc hR) ?_
    rintro e w' ⟨x, rfl, q1, q2⟩
    obtain ⟨la, g, lc, rfl, -⟩ := own_form q2
    exact ⟨la, lc, rfl, hS.called q1, own_mono q2 hS.sz, (Chg.of_below hW).trans q1.ch (fun x e => Or.inl e)⟩
  have HS0 := hid_of h0
  have HW0 := hid_of hW0
  have HB0 := hid_of hb0
  have HZ := hid_of hz
  have HX := hid_of hx
  have HL := hid_of hl
  clear h hm ht hT hc hR hW0 hb0 hN h0 hz hx hl
  go_enter Tryz.func18, Tryz.ntmps18
  go_upto_region 1 with fail
  rw [← HW0.out]
  clear HW0
  go_upto_region 2 with fail
  go_region_law
    (first
      | (rw [if_pos (by simp [Region.wanted])]; go_simp; with_reducible refine Calls.mono (HV.out _ (by first | exact Below.refl _ _ | exact (Below.refl _ _).drew)) ?_; rintro e w3 ⟨la, lc, rfl, H3⟩; obtain ⟨q0, q1, q2, qf⟩ := three_cells H3.out.1.sn; obtain ⟨x0, x1, x2, xf⟩ := three_cells (hkN' H3.out.1.sn (bel1 w3 (.cells #[.int .i64 1, .string ⟨nm.toArray⟩, .string ⟨hp.toArray⟩, .slice la L.length lc, .int .i64 (hiOf t), .int .u64 (loOf t), .slice none 0 0, .int .u64 0, .float .f64 0, .float .f64 0, .float .f64 0] 39))); simp only [])
      | (refine step_sv (by rfl) _ _ (by rfl) (v := .slice va R.length vcap) (by rfl) (own_belG H3.out.1.own (bel1 _ _)) (by have := H3.out.1.sz; simp; omega) (by have := HL.out; omega) w3.heap.size (by rfl) (cx nm hp L t, .slice la L.length lc, .slice none 0 0) (by intro q hq; rw [List.mem_singleton] at hq; subst hq; exact ⟨rfl, rfl⟩) (new_1 w3 _) ?_; intro g6 k6 w6 hown hgr; obtain ⟨z0, z1, z2, zf⟩ := three_cells (H3.out.1.at6 (bel1 _ _) hgr)))
  all_goals
    obtain ⟨hS7, hC7⟩ := Ss.push (q := (cx nm hp L t, .slice la L.length lc, .slice none 0 0)) (H3.out.1.keep (bel1 w3 _)) (own_belG H3.out.2.1 (bel1 w3 _)) (owc_nil _ _) HX.out hown hgr
    have hC : Chg (fun b => b = rb ∨ b = sb ∨ (Value.slice va R.length vcap).ownBlock = some b) w (w6.setCell ⟨sb, 1, none⟩ (.slice (some ⟨g6, 0, none⟩) (R.length + 1) k6)) := ((Chg.of_below (bt HB0.out (Below.refl _ _))).trans H3.out.2.2 (fun x e => Or.inl (Or.inl e))).trans ((Chg.of_below (S := fun b => b = sb ∨ (Value.slice va R.length vcap).ownBlock = some b) (bel1 w3 _)).trans hC7 (fun x e => Or.inl e)) (fun x e => Or.inl (Or.inr e))
    have HS7 := hid_of hS7
    have HC7 := hid_of hC
    have HLs : La.HidC _ _ _ _ _ := hS7.last HL.out HZ.out
    obtain ⟨k0, k1, k2, -⟩ := three_cells hS7.sn
    clear hS7 hC7 hC hown hgr z0 z1 z2 zf q0 q1 q2 qf x0 x1 x2 xf s0 s1 s2 sf d0 d1 d2 d3 c0 c1 HV H3 HS0 HB0 HZ HX HL
    generalize w6.setCell ⟨sb, 1, none⟩ (.slice (some ⟨g6, 0, none⟩) (R.length + 1) k6) = w7 at *
    go_wp2_with fail
    refine Calls.mono HLs.out ?_
    rintro e w8 ⟨rfl, hb8⟩
    have HB8 := hid_of hb8
    clear HLs hb8 k0 k1 k2
    go_wp2_with fail
    go_end0
    exact ⟨rfl, _, _, HS7.out.keep HB8.out, HC7.out.trans (Chg.of_below HB8.out) (fun x e => Or.inl e)⟩
end Go.Proofs.YtliehacfoiigpaaGreatDoor
