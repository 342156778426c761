/- RecorderDoes: the first state, and any step. Own work of the verifier. -/
import Derived.Test.YtaeapikhhbjlnaaGreatDoorLA
import Derived.Test.YtaeapikhhbjlnaaGreatDoorKYd
import Derived.Test.YtaeapikhhbjlnaaGreatDoorRows
import Derived.Lib.SmallJoins
import Derived.Carry
import Derived.SizedLaws
import Derived.ProofKit
import Derived.OpenShut
import Derived.ChangeSlices
import Derived.Deep.Slices
namespace Go.Proofs.YtaeapikhhbjlnaaGreatDoor
open Go.RowKit

theorem step_any (K : Kx) (hK : K.Ok) (t : Nat) (ht : t + 1 < 8796093022208) (kind on oid N : Int) (X : Nat) (hN : In64 N) (hX : X < 18446744073709551616) (w : World) (H : StE K t w) :
    Calls Tryz.prog 11 #[ptr K.wb, .agg #[.int .i64 kind, .int .i64 on, .int .i64 oid, .int .i64 N, .float .f64 X]] w fun e w' => e = .returned (.bool true) ∧ Hid (StE K (t + 2) w') := by
  by_cases h0 : kind < 1 ∨ 9 < kind
  · exact step_none K t kind on oid N X h0 w H
  · rcases (show kind = 1 ∨ (kind = 2 ∨ kind = 9) ∨ (kind = 3 ∨ kind = 4 ∨ kind = 5) ∨ kind = 6 ∨ kind = 7 ∨ kind = 8 by omega) with rfl | h | h | rfl | rfl | rfl
    · exact Calls.mono (step_new K hK t (by omega) on oid N X w H) (fun e w' q => ⟨q.1, q.2.out.mono (by omega)⟩)
    · exact step_close K hK t (by omega) kind on oid N X h w H
    · exact step_rec K hK t (by omega) on oid N X w H kind h hN hX
    · exact step_turn K hK t (by omega) on oid N X w H
    · exact step_ref K hK t on oid N X w H
    · exact step_drain K hK t (by omega) on oid N X w H
set_option maxRecDepth 10000 in
theorem new14_nil (st pr : Int) (n p : Nat) (ao : Option Addr) (cap : Nat) (w : World) :
    Calls Tryz.prog 10 #[.slice ao 0 cap, .int .i64 st, .int .i64 pr] w fun e w' => NwQ st pr n p [] w e w' := by
  have HQ : Hid (NwQ st pr n p [] w (.returned (.pointer (some ⟨w.heap.size + 1, 0, none⟩))) ((w.alloc (.cells #[.int .i64 st, .int .i64 pr, .int .i64 0, .int .i64 0, .int .i64 0, .int .i64 0, .int .i64 0, .int .i64 (-9223372036854775808), .int .i64 0, .int .i64 0, .int .i64 0, .slice none 0 0, .slice none 0 0, .int .u64 0] 124)).alloc (.cells #[.pointer (some ⟨w.heap.size, 0, none⟩)] 135))) := by
    refine ⟨w.heap.size + 1, w.heap.size, 0, 0, .slice none 0 0, [], rfl, ⟨Pr.new2 w _ _, Pr.new1 w _ _, (fun h => by simp at h), (fun h => by simp at h), (fun j hj => by simp at hj), (fun i j hi => by simp at hi)⟩, rfl, (fun j hj => by simp at hj), bel2 w _ _, fun x hx => ?_⟩
    rcases hx with q | q | ⟨q, _⟩ | ⟨j, hj, _⟩
    · omega
    · omega
    · simp at q
    · simp at hj
  go_enter Tryz.func10, Tryz.ntmps10
  go_wp2_with fail
  go_loopw [8] (fun a wr => a = .int .i64 0 ∧ wr = w.alloc (.cells #[.int .i64 st, .int .i64 pr, .int .i64 0, .int .i64 0, .int .i64 0, .int .i64 0, .int .i64 0, .int .i64 (-9223372036854775808), .int .i64 0, .int .i64 0, .int .i64 0, .slice none 0 0, .slice none 0 0, .int .u64 0] 124)) (fun _ _ => 0)
  case atStart => exact ⟨rfl, rfl⟩
  case round =>
    obtain ⟨rfl, rfl⟩ := hrel
    go_wp2_with fail
    go_ret
    exact HQ.out
/-- The first state. -/
theorem ls_first {w0 W W4 : World} {k ph wb : Nat} {st pi : Int} {slv mv : Value} {SL : List SlK} {stm : Int} (H : Mk w0 k ph wb st pi slv mv SL W) (hst : 0 < SL.length → stm = st) {e : Ending} (hQ : NwQ stm pi st.toNat pi.toNat (SL.map fun X => X.kd) W e W4) : ∃ sb, e = .returned (ptr sb) ∧ (W4.cell? ⟨wb, 4, none⟩ = some (.pointer none) ∧ W4.frozen? ⟨wb, 4, none⟩ = false) ∧ ∃ K : Kx, K.wb = wb ∧ K.w = w0 ∧ K.SL = SL ∧ K.slv = slv ∧ K.k = k ∧ K.sb = sb ∧ K.Ok ∧ StE K 0 (W4.setCell ⟨wb, 4, none⟩ (ptr sb)) := by
  obtain ⟨sb, mb, ib, capI, lv, Is, rfl, hD, hl, hkd, hb, hge⟩ := hQ
  have H4 := H.below hb
  have hs0 := H.bel.size
  have hlen : Is.length = SL.length := by simpa using hl
  have hc : Chg (fun x => x = wb) W4 (W4.setCell ⟨wb, 4, none⟩ (ptr sb)) := Chg.set W4 ⟨wb, 4, none⟩ (ptr sb)
  have hwt := ty_of H4.wbk
  have hno : ∀ {x : Nat} {T : TypeId}, Ty W4 x T → T ≠ 33 → ¬ x = wb := fun h t e => t (h.eq (by rw [e]; exact hwt))
  have hkdj : ∀ j (hj : j < SL.length), (SL.map fun X => X.kd).getD j 0 = SL[j].kd := fun j hj => by simp [List.getD, hj]
  have hrows : ∀ j (hj : j < SL.length), ∀ b, b < 2 → ∀ i, i < st.toNat → RowOk SL[j].kd pi.toNat 0 (frst ((SL.map fun X => X.kd).getD j 0) (pi.toNat : Int)) := fun j hj b _ i _ => by
    rw [hkdj j hj]
    exact RowOk.first (H.sl j hj).kd 0
  refine ⟨sb, rfl, ⟨by simp [World.cell?, H4.wbk], by simp [World.frozen?, H4.wbk]⟩, ⟨w0, k, ph, SL, st.toNat, pi.toNat, pi, sb, mb, ib, capI, wb, W.heap.size, slv⟩, rfl, rfl, rfl, rfl, rfl, rfl, ⟨?_, H.few, ?_, H.apj, ⟨H.kge.1, H.kge.2.1, H.kge.2.2, hs0⟩, H.gge⟩, 0, 0, 0, .slice none 0 0, .slice none 0 0, [], Is, (fun j _ _ => frst ((SL.map fun X => X.kd).getD j 0) (pi.toNat : Int)), ⟨⟨?_, ⟨?_, by decide, ⟨by decide, by decide⟩, ⟨by decide, by decide⟩, ?_, ?_, hrows⟩, ⟨?_, hlen, ?_, hge, hrows⟩, ⟨(fun i hi => by simp at hi), (fun i hi => by simp at hi), (fun i hi => by simp at hi), (fun i j hi => by simp at hi)⟩, ⟨⟨?_, World.ownsRow_nil _ _ _ _, World.ownsRow_nil _ _ _ _⟩, ?_⟩⟩, (fun i hi => by simp at hi), Nat.le_refl _⟩⟩
  · intro h
    obtain ⟨d1, d2, d3, d4, d5, d6⟩ := H.dim h
    exact ⟨d3, d4, d5, d6, d2⟩
  · intro j hj x hx
    obtain ⟨a1, a2, a3⟩ := H.ap j hj x hx
    refine ⟨a1, a2, a3, (H.sl j hj).lt ?_ hx⟩
    exact (H.dim (Nat.lt_of_le_of_lt (Nat.zero_le _) hj)).2.2.1
  · exact bel_chg H4.bel (Nat.le_refl _) hc (fun x e => by rw [show x = wb from e]; exact H.kge.2.2)
  · exact hc.Sh H4.sh (hno (ty_of H4.sh) (by decide))
  · exact ⟨false, 0, ⟨_, hc.Ph H4.phs (hno (ty_of H4.phs) (by decide))⟩, Nat.le_refl _⟩
  · intro j hj
    have h1 := (H4.sl j hj).chg hc (fun x hx => (H4.ap j hj x hx).2.2)
    have e : (fun (_ _ : Nat) => frst SL[j].kd (pi.toNat : Int)) = (fun (_ _ : Nat) => frst ((SL.map fun X => X.kd).getD j 0) (pi.toNat : Int)) := by rw [hkdj j hj]
    rw [e] at h1
    exact h1
  · refine ⟨mc0 stm pi lv, hD.chg hc (fun x hx q => ?_), rfl, rfl, rfl, fun h => ?_⟩
    · have h1 := hge x hx
      have q' : x = wb := q
      have := (Array.getElem?_eq_some_iff.1 H.wbk).1
      omega
    · obtain ⟨d1, d2, _⟩ := H.dim h
      exact ⟨(hst h).trans d1, d2⟩
  · intro j hj hj'
    have h1 := hkd j hj
    have h2 : (SL.map fun X => X.kd)[j]? = some SL[j].kd := by simp [show j < SL.length from hj']
    rw [h2] at h1
    injection h1 with h1
    exact h1.symm
  · show (W4.setCell ⟨wb, 4, none⟩ (ptr sb)).heap[wb]? = _
    rw [heap_setCell_same W4 wb 4 _ _ _ H4.wbk]
    rfl
  · exact hc.row H4.slo (fun x hx => hno (own_ty H4.slo hx) (by decide))
end Go.Proofs.YtaeapikhhbjlnaaGreatDoor
/- RecorderDoes: THE DOOR. Own work of the verifier. -/
namespace Go.Proofs.YtaeapikhhbjlnaaGreatDoor
open Go.ChangeShapes Go.WideShapes Go.ChangeAt Go.RowKit Go.Joins

theorem ld_own : ownKnob Tryz.prog.godebug = none := by kernel_rfl
theorem ld_laidOut : laidOutB Tryz.prog = true := by kernel_rfl
theorem ld_cellsOp : Tryz.prog.cellsOf 42 = 5 := by kernel_rfl
theorem ld_bytesOp : Tryz.prog.bytesOf 42 = 40 := by kernel_rfl
theorem ld_cellsInt : Tryz.prog.cellsOf 3 = 1 := by kernel_rfl
theorem ld_bytesInt : Tryz.prog.bytesOf 3 = 8 := by kernel_rfl
theorem ld_cellsI64 : Tryz.prog.cellsOf 2 = 1 := by kernel_rfl
theorem ld_cellsF64 : Tryz.prog.cellsOf 40 = 1 := by kernel_rfl
theorem ld_range {n : Int} (h : (Lit.int .i64 n).wf = true) : In64 n := by
  have hx : -9223372036854775808 ≤ n ∧ n ≤ 9223372036854775807 := by simpa [Lit.wf, IntKind.min, IntKind.max, IntKind.signed, IntKind.bits] using h
  exact ⟨by omega, by omega⟩
section
variable {H : Type} {enc : TypeId × Value → H}
theorem ld_f64 {P : Program} {w : World} {base : Nat} {spare : Nat → Bool} {held : Bool} {fuel : Nat} {t : TypeId} {cs : List Value} {x : DataW H × List MemPlace} (ht : P.underlying t = some (.float .f64)) (h : DataW.trod enc P w base spare held fuel t cs = some x) : ∃ b : Nat, cs = [.float .f64 b] ∧ b < 18446744073709551616 := by
  cases fuel with
  | zero => simp [DataW.trod] at h
  | succ n =>
    unfold DataW.trod at h
    rw [ht] at h
    split at h <;> simp_all
    rename_i k k' b e
    subst e
    simpa [Lit.wf] using h.1.2
set_option maxRecDepth 100000 in
/-- A script, opened. -/
theorem ld_script {W : World} {base : Nat} {v : Value} {d : DataW H} {pl : List MemPlace} (hv : Value.okWide Tryz.prog W .any base 23 v) (h : DataW.Trod enc Tryz.prog W 0 (fun _ => true) true 23 v d pl)
    (hw : (d.weights Tryz.prog 23).all (· ≤ reachBytes) = true) :
    ∃ (ao : Option Addr) (b off cap : Nat) (L : List (Int × Int × Int × Int × Nat)), v = .slice ao L.length cap ∧ (L ≠ [] → ao = some ⟨b, off, none⟩) ∧
      (∀ i (hi : i < L.length), (W.cell? ⟨b, off + i * 5, none⟩ = some (.int .i64 L[i].1) ∧ W.cell? ⟨b, off + i * 5 + 1, none⟩ = some (.int .i64 L[i].2.1) ∧ W.cell? ⟨b, off + i * 5 + 2, none⟩ = some (.int .i64 L[i].2.2.1) ∧ W.cell? ⟨b, off + i * 5 + 3, none⟩ = some (.int .i64 L[i].2.2.2.1) ∧ W.cell? ⟨b, off + i * 5 + 4, none⟩ = some (.float .f64 L[i].2.2.2.2)) ∧ In64 L[i].2.2.2.1 ∧ L[i].2.2.2.2 < 18446744073709551616) ∧
      L.length ≤ 3600000000000 := by
  obtain ⟨a0, len, cap, rfl⟩ := okWide_slice Tryz.underlying23 hv
  obtain ⟨fuel, hf⟩ := h
  rcases Deep.open_slice Tryz.underlying23 hf with ⟨hcs, _⟩ | ⟨a, len', cap', m, n, D, Pl, hcs, _, hl, hm, hmm, hxx, hx⟩
  · simp [Value.cells] at hcs
    obtain ⟨rfl, rfl, rfl⟩ := hcs
    exact ⟨none, 0, 0, 0, [], rfl, (fun k => absurd rfl k), (fun i hi => by simp at hi), by simp⟩
  · simp [Value.cells] at hcs
    obtain ⟨rfl, rfl, rfl⟩ := hcs
    simp only [if_true] at hmm
    subst hmm
    obtain ⟨rfl, rfl⟩ := Prod.mk.inj hxx
    have each : ∀ i, i < m → ∃ s : Int × Int × Int × Int × Nat, (W.cell? (a.add (i * 5)) = some (.int .i64 s.1) ∧ W.cell? (a.add (i * 5 + 1)) = some (.int .i64 s.2.1) ∧ W.cell? (a.add (i * 5 + 2)) = some (.int .i64 s.2.2.1) ∧ W.cell? (a.add (i * 5 + 3)) = some (.int .i64 s.2.2.2.1) ∧ W.cell? (a.add (i * 5 + 4)) = some (.float .f64 s.2.2.2.2)) ∧ In64 s.2.2.2.1 ∧ s.2.2.2.2 < 18446744073709551616 := by
      intro i hi
      obtain ⟨cs', h1, h2⟩ := hx i hi
      rw [ld_cellsOp] at h1
      obtain ⟨_, hlen, hcell⟩ := World.cells?_some h1
      obtain ⟨xs, k, hk, hxy, _, hxl, hfs⟩ := DataW.trod_struct Tryz.underlying42 h2
      match xs, hxl, cs', hlen with
      | [y0, y1, y2, y3, y4], _, [v0, v1, v2, v3, v4], _ =>
        have g0 := hfs 0 _ rfl
        have g1 := hfs 1 _ rfl
        have g2 := hfs 2 _ rfl
        have g3 := hfs 3 _ rfl
        have g4 := hfs 4 _ rfl
        simp [ld_cellsInt, ld_cellsI64, ld_cellsF64] at g0 g1 g2 g3 g4
        obtain ⟨z0, e0, _, _⟩ := DataW.trod_int Tryz.underlying3 g0
        obtain ⟨z1, e1, _, _⟩ := DataW.trod_int Tryz.underlying3 g1
        obtain ⟨z2, e2, _, _⟩ := DataW.trod_int Tryz.underlying3 g2
        obtain ⟨z3, e3, _, w3⟩ := DataW.trod_int Tryz.underlying2 g3
        obtain ⟨z4, e4, w4⟩ := ld_f64 Tryz.underlying40 g4
        simp at e0 e1 e2 e3 e4
        subst e0 e1 e2 e3 e4
        have c0 := hcell 0 (by omega)
        have c1 := hcell 1 (by omega)
        have c2 := hcell 2 (by omega)
        have c3 := hcell 3 (by omega)
        have c4 := hcell 4 (by omega)
        rw [Deep.add_add] at c0 c1 c2 c3 c4
        exact ⟨(z0, z1, z2, z3, z4), ⟨by simpa using c0, by simpa using c1, by simpa using c2, by simpa using c3, by simpa using c4⟩, ld_range w3, w4⟩
    obtain ⟨f, hf'⟩ := Deep.choose_lt each
    have hlen : ((List.range len).map f).length = len := by simp
    obtain ⟨b, off, spot⟩ := a
    have hs : 0 < len → spot = none := fun k => by simpa [Addr.add] using World.cell?_spot (hf' 0 (by omega)).1.1
    refine ⟨some ⟨b, off, spot⟩, b, off, m, (List.range len).map f, by rw [hlen], fun k => ?_, fun i hi => ?_, ?_⟩
    · have : 0 < len := by
        rcases Nat.eq_zero_or_pos len with q | q
        · exact absurd (by rw [q]; rfl) k
        · exact q
      rw [hs this]
    · rw [hlen] at hi
      obtain ⟨⟨c0, c1, c2, c3, c4⟩, q1, q2⟩ := hf' i (by omega)
      have e := hs (by omega)
      subst e
      rw [Addr.add_lit] at c0 c1 c2 c3 c4
      simp only [List.getElem_map, List.getElem_range]
      exact ⟨⟨c0, by rw [← Nat.add_assoc] at c1; exact c1, by rw [← Nat.add_assoc] at c2; exact c2, by rw [← Nat.add_assoc] at c3; exact c3, by rw [← Nat.add_assoc] at c4; exact c4⟩, q1, q2⟩
    · rw [hlen]
      simp only [DataW.weights, Tryz.underlying23, ld_bytesOp, List.all_cons, Bool.and_eq_true, decide_eq_true_eq, List.length_map, List.length_range] at hw
      have := hw.1
      unfold reachBytes at this
      omega
set_option maxRecDepth 100000 in
/-- Whole numbers, as they are handed in. -/
theorem ld_numbers {W : World} {base : Nat} {v : Value} {d : DataW H} {p : List MemPlace} (hv : Value.okWide Tryz.prog W .any base 22 v) (h : DataW.Trod enc Tryz.prog W 0 (fun _ => true) true 22 v d p)
    (hw : (d.weights Tryz.prog 22).all (· ≤ reachBytes) = true) :
    ∃ (ao : Option Addr) (b off cap : Nat) (L : List Int), v = .slice ao L.length cap ∧ (L ≠ [] → ao = some ⟨b, off, none⟩) ∧ (∀ i (hi : i < L.length), W.cell? ⟨b, off + i, none⟩ = some (.int .i64 L[i])) ∧ L.length ≤ 17592186044416 := by
  obtain ⟨a0, len, cap, rfl⟩ := okWide_slice Tryz.underlying22 hv
  obtain ⟨fuel, hf⟩ := h
  rcases open_ints Tryz.underlying22 Tryz.underlying3 ld_cellsInt hf with ⟨hcs, hx⟩ | ⟨a, len', cap', zs, hcs, _, hl, hm, hz, hx, hcell, hwz⟩
  · simp [Value.cells] at hcs
    obtain ⟨rfl, rfl, rfl⟩ := hcs
    exact ⟨none, 0, 0, 0, [], rfl, (fun k => absurd rfl k), (fun i hi => by simp at hi), by simp⟩
  · simp [Value.cells] at hcs
    obtain ⟨rfl, rfl, rfl⟩ := hcs
    simp only [Prod.mk.injEq] at hx
    obtain ⟨rfl, rfl⟩ := hx
    simp only [if_true] at hz
    have hlen : (zs.take len).length = len := by simp; omega
    obtain ⟨b, off, spot⟩ := a
    have hs : 0 < len → spot = none := fun k => by simpa [Addr.add] using World.cell?_spot (hcell 0 (by omega))
    refine ⟨some ⟨b, off, spot⟩, b, off, cap, zs.take len, by rw [hlen], fun k => ?_, fun i hi => ?_, ?_⟩
    · have : 0 < len := by
        rcases Nat.eq_zero_or_pos len with q | q
        · exact absurd (by rw [q]; rfl) k
        · exact q
      rw [hs this]
    · rw [hlen] at hi
      have hc := hcell i (by omega)
      have e := hs (by omega)
      subst e
      rw [Addr.add_lit] at hc
      rw [hc]
      have hi' : i < zs.length := by omega
      simp [List.getD, hi']
    · rw [hlen]
      simp only [DataW.weights, Tryz.underlying22, ld_bytesInt, List.all_cons, Bool.and_eq_true, decide_eq_true_eq, lits, List.length_map, List.length_take, List.length_drop] at hw
      have := hw.1
      unfold reachBytes at this
      omega
end
end Go.Proofs.YtaeapikhhbjlnaaGreatDoor
