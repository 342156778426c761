/- RecorderDoes: the walk. Own work of the verifier. -/
import Derived.Test.YtaeapikhhbjlnaaGreatDoorZCB
namespace Go.Proofs.YtaeapikhhbjlnaaGreatDoor
open Go.RowKit

theorem infoPS : (Tryz.prog.info? 34).map (fun i => (i.zero, i.size, i.bytes)) = some (some (.pointer none), 1, 8) := by kernel_rfl
theorem infoInt : (Tryz.prog.info? 3).map (fun i => (i.zero, i.size, i.bytes)) = some (some (.int .i64 0), 1, 8) := by kernel_rfl
section
variable {w0 W : World} {k ph wb : Nat} {st pi : Int} {slv mv : Value} {SL : List SlK}
theorem Mk.mid (H : Mk w0 k ph wb st pi slv mv SL W) {w1 w2 : World} (hb : Below W.heap.size W w1) {o : Obj} {v : Value} (gr1 : (w1.alloc o).grownBy w2 slv.ownBlock) : (w2.cell? ⟨wb, 2, none⟩ = some slv ∧ w2.frozen? ⟨wb, 2, none⟩ = false) ∧ (w2.setCell ⟨wb, 2, none⟩ v).ownsRow w0.heap.size 3 1 mv SL.length (SL.map fun X => .int .i64 X.kd) ∧ (∀ x, x < w0.heap.size → (w2.setCell ⟨wb, 2, none⟩ v).heap[x]? = w0.heap[x]?) ∧ w0.heap.size ≤ (w2.setCell ⟨wb, 2, none⟩ v).heap.size := by
  have H1 := H.below hb
  have hs0 := H.bel.size
  have hs1 := hb.size
  have b1 := bel1 w1 o
  have nwb : some wb ≠ slv.ownBlock := fun e => absurd ((own_ty H1.slo e.symm).eq (ty_of H1.wbk)) (by decide)
  have hw2 : w2.heap[wb]? = _ := (gr1.block wb (by have := (Array.getElem?_eq_some_iff.1 H1.wbk).1; simp; omega) nwb).trans ((b1.block wb (Array.getElem?_eq_some_iff.1 H1.wbk).1).trans H1.wbk)
  have hc1 : Chg (fun x => some x = slv.ownBlock ∨ x = wb) w1 (w2.setCell ⟨wb, 2, none⟩ v) := ⟨gr1.os, gr1.tape, gr1.output, by rw [World.size_setCell]; have := gr1.size; simp at this; omega, fun x hx hn => by
    rw [heap_setCell_other _ _ _ _ (by show x ≠ wb; exact fun e => hn (Or.inr e)), gr1.block x (by simp; omega) (fun e => hn (Or.inl e))]
    exact b1.block x hx⟩
  refine ⟨⟨by simp [World.cell?, hw2], by simp [World.frozen?, hw2]⟩, hc1.row H1.mdo (fun x hx q => by
    rcases q with q | q
    · exact absurd ((own_ty H1.mdo hx).eq (own_ty H1.slo q.symm)) (by decide)
    · exact absurd ((own_ty H1.mdo hx).eq (by rw [q]; exact ty_of H1.wbk)) (by decide)), fun x hx => ?_, by have := hc1.size; omega⟩
  rw [hc1.block x (by omega) (fun q => by
    rcases q with q | q
    · have := (H1.slo.lt x q.symm).1; omega
    · have := H.kge.2.2; omega)]
  exact H1.bel.block x hx
theorem own_int0 (W : World) (B : Nat) (hB : B ≤ W.heap.size) : (W.alloc (.cells #[] 3)).ownsRow B 3 1 (.slice (some ⟨W.heap.size, 0, none⟩) 0 0) 0 [] := ⟨rfl, .inr ⟨W.heap.size, 0, #[], rfl, hB, new_1 W _, Nat.le_refl _, by decide, rfl, rfl⟩⟩
theorem mk_first {w w1 w2 : World} {k ph : Nat} (st pi : Int) (hb1 : Below w.heap.size w w1) (hS : Sh w2 k ph 0 0 0) (hP : Ph w2 ph 0 0 (-9223372036854775808)) (hb2 : Below w1.heap.size w1 w2) (hk : w1.heap.size ≤ k ∧ w1.heap.size ≤ ph) : Mk w k ph w2.heap.size st pi (.slice none 0 0) (.slice (some ⟨w2.heap.size + 1, 0, none⟩) 0 0) [] ((w2.alloc (.cells #[ptr k, .slice none 0 0, .slice none 0 0, .int .i64 pi, .pointer none, .slice none 0 0] 33)).alloc (.cells #[] 3)) := by
  have h1 := hb1.size
  have h2 := hb2.size
  have b := bel2 w2 (.cells #[ptr k, .slice none 0 0, .slice none 0 0, .int .i64 pi, .pointer none, .slice none 0 0] 33) (.cells #[] 3)
  have bw : Below w.heap.size w w2 := hb1.trans (hb2.mono h1)
  have hl : (w2.alloc (.cells #[ptr k, .slice none 0 0, .slice none 0 0, .int .i64 pi, .pointer none, .slice none 0 0] 33)).heap.size = w2.heap.size + 1 := by simp
  have ho := own_int0 (w2.alloc (.cells #[ptr k, .slice none 0 0, .slice none 0 0, .int .i64 pi, .pointer none, .slice none 0 0] 33)) w.heap.size (by omega)
  rw [hl] at ho
  refine ⟨bw.trans (b.mono (by omega)), (b.block k (Array.getElem?_eq_some_iff.1 hS).1).trans hS, (b.block ph (Array.getElem?_eq_some_iff.1 hP).1).trans hP, Pr.new1 w2 _ _, World.ownsRow_nil _ _ _ _, ho, by simp, (fun h => by simp at h), (fun j hj => by simp at hj), (fun j hj => by simp at hj), (fun i j hi => by simp at hi), (fun j hj => by simp at hj), ⟨by omega, by omega, by omega⟩, (fun x hx => by cases hx), fun x hx v hv => ?_⟩
  have hx' : w2.heap.size + 1 = x := by simpa [Value.ownBlock] using hx
  subst hx'
  have hn := Pr.new2 w2 (.cells #[ptr k, .slice none 0 0, .slice none 0 0, .int .i64 pi, .pointer none, .slice none 0 0] 33) (.cells #[] 3)
  simp only [World.cell?, hn] at hv
  simp at hv
end
theorem new_set (W : World) (a : Addr) (v : Value) (o : Obj) : ((W.setCell a v).alloc o).heap[W.heap.size]? = some o := by
  have := new_1 (W.setCell a v) o
  rw [World.size_setCell] at this
  exact this
theorem mk_wb {w0 W : World} {k ph wb : Nat} {st pi : Int} {slv mv : Value} {SL : List SlK} (H : Mk w0 k ph wb st pi slv mv SL W) : W.cell? ⟨wb, 0, none⟩ = some (ptr k) ∧ W.cell? ⟨wb, 2, none⟩ = some slv := ⟨by simp [World.cell?, H.wbk], by simp [World.cell?, H.wbk]⟩
set_option maxRecDepth 10000 in
set_option maxHeartbeats 8000000 in
theorem does_walk (st pi : Int) (ks : List Int) (ao : Option Addr) (kb ko kc : Nat) (ops : List (Int × Int × Int × Int × Nat)) (so : Option Addr) (ob oo oc : Nat) (w : World) (hao : ks ≠ [] → ao = some ⟨kb, ko, none⟩) (hks : ∀ i (hi : i < ks.length), w.cell? ⟨kb, ko + i, none⟩ = some (.int .i64 ks[i])) (hso : ops ≠ [] → so = some ⟨ob, oo, none⟩)
    (hops : ∀ i (hi : i < ops.length), (w.cell? ⟨ob, oo + i * 5, none⟩ = some (.int .i64 ops[i].1) ∧ w.cell? ⟨ob, oo + i * 5 + 1, none⟩ = some (.int .i64 ops[i].2.1) ∧ w.cell? ⟨ob, oo + i * 5 + 2, none⟩ = some (.int .i64 ops[i].2.2.1) ∧ w.cell? ⟨ob, oo + i * 5 + 3, none⟩ = some (.int .i64 ops[i].2.2.2.1) ∧ w.cell? ⟨ob, oo + i * 5 + 4, none⟩ = some (.float .f64 ops[i].2.2.2.2)) ∧ In64 ops[i].2.2.2.1 ∧ ops[i].2.2.2.2 < 18446744073709551616) (hl : ks.length ≤ 17592186044416) (hl2 : ops.length ≤ 3600000000000) :
    Calls Tryz.prog 3 #[.int .i64 st, .int .i64 pi, .slice ao ks.length kc, .slice so ops.length oc] w fun e w' => e = .returned (.bool true) ∧ Below w.heap.size w w' := by
  have HW : Hid (∀ _ : Unit, Calls Tryz.prog 7 #[] w fun e w' => e = .returned (.bool true) ∧ Hid (Below w.heap.size w w')) := fun _ => awake_any w
  have HN : Hid (∀ W : World, _) := rnew_any
  have Hao : Hid (ks ≠ [] → ao = some ⟨kb, ko, none⟩) := hao
  have HKs : Hid (∀ i (hi : i < ks.length) (W : World), W.heap[kb]? = w.heap[kb]? → W.cell? ⟨kb, ko + i, none⟩ = some (.int .i64 ks[i])) := fun i hi W e => (World.cell?_of_block (a := ⟨kb, ko + i, none⟩) e).trans (hks i hi)
  have HKl : Hid (∀ i, i < ks.length → kb < w.heap.size) := fun i hi => lt_of_cell (hks i hi)
  have Hso : Hid (ops ≠ [] → so = some ⟨ob, oo, none⟩) := hso
  have HOp : Hid (∀ i (hi : i < ops.length), (w.cell? ⟨ob, oo + i * 5, none⟩ = some (.int .i64 ops[i].1) ∧ w.cell? ⟨ob, oo + i * 5 + 1, none⟩ = some (.int .i64 ops[i].2.1) ∧ w.cell? ⟨ob, oo + i * 5 + 2, none⟩ = some (.int .i64 ops[i].2.2.1) ∧ w.cell? ⟨ob, oo + i * 5 + 3, none⟩ = some (.int .i64 ops[i].2.2.2.1) ∧ w.cell? ⟨ob, oo + i * 5 + 4, none⟩ = some (.float .f64 ops[i].2.2.2.2)) ∧ In64 ops[i].2.2.2.1 ∧ ops[i].2.2.2.2 < 18446744073709551616) := hops
  obtain ⟨i0, hi0, hz0, hz1, hz2⟩ := info_parts infoPS
  obtain ⟨j0, hj0, hy0, hy1, hy2⟩ := info_parts infoInt
  clear hao hks hso hops
  go_enter Tryz.func3, Tryz.ntmps3
  go_wp2_with (first
    | (go_at_call 7; with_reducible refine Calls.mono (HW.out ()) ?_; rintro e w1 ⟨rfl, HB1⟩)
    | (go_at_call 8; with_reducible refine Calls.mono (HN.out _) ?_; rintro e w2 ⟨k, ph, rfl, HS2, HP2, HB2, HK2⟩))
  have HM0 := hid_of (mk_first st pi HB1.out HS2.out HP2.out HB2.out HK2.out)
  clear HS2 HP2 HB2 HK2 HB1
  go_loopw [10, 11] (fun m a wr => ∃ (i : Nat) (SL : List SlK) (slv : Value), i ≤ ks.length ∧ a = .int .i64 (i : Int) ∧ Hid (Mk w k ph w2.heap.size st pi slv m SL wr)) (fun _ a _ => ks.length - (intOf a).toNat)
  case atStart => exact ⟨0, [], _, by omega, rfl, HM0.out⟩
  case round =>
    obtain ⟨i, SL, slv, hi, rfl, HM⟩ := hrel
    obtain ⟨mao, mc, hmv⟩ := own_len HM.out.mdo
    subst hmv
    obtain ⟨wb0, wb2⟩ := mk_wb HM.out
    have hfew := HM.out.few
    by_cases hcond : i < ks.length ∧ SL.length < 20
    · obtain ⟨hlt, hf⟩ := hcond
      have hlt' : (i : Int) < (ks.length : Int) := by omega
      have hf' : (SL.length : Int) < 20 := by omega
      obtain rfl := Hao.out (by intro e; rw [e] at hlt; simp at hlt)
      have hkc := HKs.out i hlt wr (HM.out.bel.block kb (HKl.out i hlt))
      have HKi : Hid (∀ W : World, W.heap[kb]? = w.heap[kb]? → W.cell? ⟨kb, ko + i, none⟩ = some (.int .i64 ks[i])) := fun W e => HKs.out i hlt W e
      have hkl := HKl.out i hlt
      generalize ks[i] = kd at *
      by_cases hok : (kd = 1 ∨ kd = 2 ∨ kd = 3) ∧ okS st pi ∧ celF kd st pi ≤ 1048576
      · obtain ⟨hk3, hos, hcel⟩ := hok
        obtain ⟨n, p, rfl, rfl, n0, n16, p1, p14⟩ : ∃ n p : Nat, st = (n : Int) ∧ pi = (p : Int) ∧ 0 < n ∧ n ≤ 16 ∧ 1 ≤ p ∧ p ≤ 14 := by
          unfold okS at hos
          exact ⟨st.toNat, pi.toNat, by omega, by omega, by omega, by omega, by omega, by omega⟩
        have HNk : Hid (∀ _ : Unit, _) := fun _ => newK kd hk3 n p n0 n16 p1 p14 hcel wr
        have HMid : Hid (∀ (w3 w4 : World) (o : Obj) (v : Value), Below wr.heap.size wr w3 → (w3.alloc o).grownBy w4 slv.ownBlock → (w4.cell? ⟨w2.heap.size, 2, none⟩ = some slv ∧ w4.frozen? ⟨w2.heap.size, 2, none⟩ = false) ∧ (w4.setCell ⟨w2.heap.size, 2, none⟩ v).cell? ⟨kb, ko + i, none⟩ = some (.int .i64 kd) ∧ Hid ((w4.setCell ⟨w2.heap.size, 2, none⟩ v).ownsRow w.heap.size 3 1 (.slice mao SL.length mc) SL.length (SL.map fun X => .int .i64 X.kd)) ∧ Hid (w.heap.size ≤ (w4.setCell ⟨w2.heap.size, 2, none⟩ v).heap.size)) := fun w3 w4 o v h1 h2 => by
          obtain ⟨q1, q2, q3, q4⟩ := HM.out.mid (v := v) h1 h2
          exact ⟨q1, HKi.out _ (q3 kb hkl), q2, q4⟩
        have HSlo : Hid (∀ w3, Below wr.heap.size wr w3 → ∀ o, (w3.alloc o).ownsRow w.heap.size 34 1 slv SL.length (SL.map fun X => ptr X.s)) := fun w3 h o => ((HM.out.below h).slo).alloc o
        have HSz : Hid (∀ w3, Below wr.heap.size wr w3 → ∀ o, w.heap.size ≤ (w3.alloc o).heap.size) := fun w3 h o => by have := HM.out.bel.size; have := h.size; simp; omega
        have HCb : Hid (∀ w3, Below wr.heap.size wr w3 → w3.cell? ⟨w2.heap.size, 2, none⟩ = some slv ∧ ∀ o, (w3.alloc o).cell? ⟨w2.heap.size, 2, none⟩ = some slv) := fun w3 h => by
          have e := (mk_wb (HM.out.below h)).2
          exact ⟨e, fun o => ((bel1 w3 o).cell (p := ⟨w2.heap.size, 2, none⟩) (lt_of_cell e)).trans e⟩
        have HPush : Hid (∀ (X : SlK) (w3 w4 w5 : World) (o o2 : Obj) (slv' mv' : Value), (X.kd = kd ∧ SlW X p n (fun _ _ => frst kd (p : Int)) w3 ∧ Below wr.heap.size wr w3 ∧ ∀ g ∈ X.G 0 ++ X.G 1, wr.heap.size ≤ g) → w4.ownsRow w.heap.size 34 1 slv' (SL.length + 1) ((SL.map fun X => ptr X.s) ++ [ptr X.s]) → (w3.alloc o).grownBy w4 slv.ownBlock → w5.ownsRow w.heap.size 3 1 mv' (SL.length + 1) ((SL.map fun X => .int .i64 X.kd) ++ [.int .i64 kd]) → ((w4.setCell ⟨w2.heap.size, 2, none⟩ slv').alloc o2).grownBy w5 (Value.slice mao SL.length mc).ownBlock → Mk w k ph w2.heap.size (n : Int) (p : Int) slv' mv' (SL ++ [X]) w5) := fun X w3 w4 w5 o o2 slv' mv' hX a1 a2 a3 a4 => by
          obtain ⟨x1, x2, x3, x4⟩ := hX
          subst x1
          exact (HM.out.push hf rfl rfl n0 n16 p1 p14 x2 x3 x4 a1 a2 a3 a4).2
        have HLn : Hid (SL.length ≤ 20) := hfew
        clear hk3 hos hcel n0 n16 p1 p14 wb0
        go_wp2_with (first
          | (go_at_call 9; with_reducible refine Calls.mono (HNk.out ()) ?_; rintro e w3 ⟨X, rfl, H3⟩; obtain ⟨y1, y2⟩ := HCb.out w3 H3.out.2.2.1)
          | (at_builtin; refine wpList_append_own _ rfl _ _ 29 rfl w.heap.size 34 i0 (.pointer none) 1 8 Tryz.underlying29 hi0 hz0 hz1 hz2 rfl (by decide) slv SL.length (SL.map fun X => ptr X.s) rfl (HSlo.out w3 H3.out.2.2.1 _) ⟨w3.heap.size, 0, none⟩ 1 1 [ptr X.s] rfl rfl (World.news_of_block (cs := #[ptr X.s]) (new_1 w3 _)) (by simp [Value.oneCell']) (by have := HLn.out; unfold maxLen; omega) (by have := HLn.out; omega) (HSz.out w3 H3.out.2.2.1 _) ?_; intro slv' w4 own1 gr1 hn1; obtain ⟨⟨z1, z2⟩, z3, HM2, HS2⟩ := HMid.out w3 w4 _ slv' H3.out.2.2.1 gr1; obtain ⟨sa, sm, sc, rfl⟩ := own_sl own1; have Hown1 := hid_of own1; have Hgr1 := hid_of gr1; clear own1 gr1 hn1)
          | (at_builtin; refine wpList_append_own _ rfl _ _ 22 rfl w.heap.size 3 j0 (.int .i64 0) 1 8 Tryz.underlying22 hj0 hy0 hy1 hy2 rfl (by decide) (.slice mao SL.length mc) SL.length (SL.map fun X => .int .i64 X.kd) rfl (HM2.out.alloc _) ⟨w4.heap.size, 0, none⟩ 1 1 [.int .i64 kd] rfl rfl (World.news_of_block (cs := #[.int .i64 kd]) (new_set w4 ⟨w2.heap.size, 2, none⟩ (.slice sa sm sc) _)) (by simp [Value.oneCell']) (by have := HLn.out; unfold maxLen; omega) (by have := HLn.out; omega) (by have := HS2.out; simp at this ⊢; omega) ?_; intro mv' w5 own2 gr2 hn2; have HPs := hid_of (HPush.out X w3 w4 w5 _ _ _ _ H3.out Hown1.out Hgr1.out own2 gr2)))
        exact ⟨⟨i + 1, _, _, by omega, by simp, HPs.out⟩, by simp [intOf]; omega⟩
      · have HNo : Hid (∀ _ : Unit, _) := fun _ => newNo kd st pi hok wr
        have HBl : Hid (∀ w3, Below wr.heap.size wr w3 → Mk w k ph w2.heap.size st pi slv (.slice mao SL.length mc) SL w3) := fun w3 h => HM.out.below h
        clear hok
        go_wp2_with (go_at_call 9; with_reducible refine Calls.mono (HNo.out ()) ?_; rintro e w3 ⟨er, rfl, her, H3⟩; have her2 : (er == 0) = false := by simpa using her)
        exact ⟨⟨i + 1, SL, slv, by omega, by simp, HBl.out w3 H3.out⟩, by simp [intOf]; omega⟩
    · go_upto_region 8 with fail
      go_cut [39] from 31 to 38 (fun v W => v = .bool false ∧ W = wr)
      case first =>
        by_cases hlt : i < ks.length
        · have hlt' : (i : Int) < (ks.length : Int) := by omega
          have hf' : ¬ (SL.length : Int) < 20 := by omega
          go_wp2_with fail
          go_meet
          exact ⟨rfl, rfl⟩
        · have hlt' : ¬ (i : Int) < (ks.length : Int) := by omega
          go_wp2_with fail
          go_meet
          exact ⟨rfl, rfl⟩
      case rest =>
        obtain ⟨rfl, rfl⟩ := hcut
        have HNw : Hid (∀ stm : Int, (0 < SL.length → stm = st) → Calls Tryz.prog 10 #[.slice mao SL.length mc, .int .i64 stm, .int .i64 pi] wc fun e w' => ∃ sb, e = .returned (.pointer (some ⟨sb, 0, none⟩)) ∧ (w'.cell? ⟨w2.heap.size, 4, none⟩ = some (.pointer none) ∧ w'.frozen? ⟨w2.heap.size, 4, none⟩ = false) ∧ Hid (∃ K : Kx, K.wb = w2.heap.size ∧ K.w = w ∧ K.SL = SL ∧ K.slv = slv ∧ K.k = k ∧ K.sb = sb ∧ K.Ok ∧ StE K 0 (w'.setCell ⟨w2.heap.size, 4, none⟩ (.pointer (some ⟨sb, 0, none⟩))))) := fun stm hstm => by
          have fin : ∀ e w', NwQ stm pi st.toNat pi.toNat (SL.map fun X => X.kd) wc e w' → ∃ sb, e = .returned (.pointer (some ⟨sb, 0, none⟩)) ∧ (w'.cell? ⟨w2.heap.size, 4, none⟩ = some (.pointer none) ∧ w'.frozen? ⟨w2.heap.size, 4, none⟩ = false) ∧ Hid (∃ K : Kx, K.wb = w2.heap.size ∧ K.w = w ∧ K.SL = SL ∧ K.slv = slv ∧ K.k = k ∧ K.sb = sb ∧ K.Ok ∧ StE K 0 (w'.setCell ⟨w2.heap.size, 4, none⟩ (.pointer (some ⟨sb, 0, none⟩)))) := fun e w' q => ls_first HM.out hstm q
          by_cases hS : 0 < SL.length
          · obtain ⟨d1, d2, d3, d4, d5, d6⟩ := HM.out.dim hS
            obtain ⟨g, e1, hat⟩ := own_at HM.out.mdo hS
            have hln : (SL.map fun X => X.kd).length = SL.length := by simp
            have e0 := hstm hS
            rw [e0] at fin ⊢
            rw [d1, d2] at fin ⊢
            simp only [Int.toNat_natCast] at fin
            have h14 := new14_any st.toNat pi.toNat d3 d4 (SL.map fun X => X.kd) (by rw [hln]; exact HM.out.few) (fun q hq => by
              obtain ⟨X, hX, rfl⟩ := List.mem_map.1 hq
              obtain ⟨j, hj, rfl⟩ := List.getElem_of_mem hX
              exact (HM.out.sl j hj).kd) mao g 0 mc wc (fun _ => e1) (fun j hj => by
              have h := hat wc HM.out.mdo j (by simpa using hj)
              simpa using h)
            rw [hln] at h14
            exact Calls.mono h14 fin
          · have h0 : SL = [] := List.length_eq_zero_iff.1 (by omega)
            subst h0
            exact Calls.mono (new14_nil stm pi st.toNat pi.toNat mao mc wc) fin
        have HBm : Hid (0 < SL.length → 0 < st) := fun h => by
          obtain ⟨d1, d2, d3, _⟩ := HM.out.dim h
          omega
        clear HM wb0 wb2 hcond
        go_wp2_with (go_at_call 10; refine Calls.mono (HNw.out _ (by intro h; have hp := HBm.out h; (first | rfl | omega | (split <;> omega) | (simp; omega)))) ?_; rintro e w5 ⟨sb, rfl, ⟨v1, v2⟩, H5⟩)
        obtain ⟨K, kwb, kw, kSL, kslv, kk, ksb, hK, hE⟩ := H5.out
        have HK : Hid K.Ok := hK
        have HE0 : Hid (StE K 0 (w5.setCell ⟨w2.heap.size, 4, none⟩ (.pointer (some ⟨sb, 0, none⟩)))) := hE
        have HKf : Hid (K.wb = w2.heap.size ∧ K.w = w ∧ K.SL = SL ∧ K.slv = slv ∧ K.k = k ∧ K.sb = sb) := ⟨kwb, kw, kSL, kslv, kk, ksb⟩
        clear hE hK H5 HNw HBm kwb kw kSL kslv kk ksb v1 v2
        generalize w5.setCell ⟨w2.heap.size, 4, none⟩ (.pointer (some ⟨sb, 0, none⟩)) = W5 at *
        have HBel : Hid (∀ t W, StE K t W → Below w.heap.size w W) := fun t W h => by
          obtain ⟨_, _, _, _, _, _, _, _, h1⟩ := h
          have := h1.ls.bel
          rw [HKf.out.2.1] at this
          exact this
        have HStp : Hid (∀ (t : Nat) (kind on oid N : Int) (X : Nat) (W : World), t + 1 < 8796093022208 → In64 N → X < 18446744073709551616 → StE K t W → Calls Tryz.prog 11 #[.pointer (some ⟨w2.heap.size, 0, none⟩), .agg #[.int .i64 kind, .int .i64 on, .int .i64 oid, .int .i64 N, .float .f64 X]] W fun e w' => e = .returned (.bool true) ∧ Hid (StE K (t + 2) w')) := fun t kind on oid N X W h1 h2 h3 h4 => by
          have := step_any K HK.out t h1 kind on oid N X h2 h3 W h4
          rw [HKf.out.1] at this
          exact this
        go_loopw [14] (fun a wr => ∃ j : Nat, j ≤ ops.length ∧ a = .int .i64 (j : Int) ∧ Hid (StE K (2 * j) wr)) (fun a _ => ops.length - (intOf a).toNat)
        case atStart => exact ⟨0, by omega, rfl, HE0.out⟩
        case round =>
          obtain ⟨j, hj, rfl, HE⟩ := hrel
          by_cases hjl : j < ops.length
          · have hjl' : (j : Int) < (ops.length : Int) := by omega
            obtain rfl := Hso.out (by intro e; rw [e] at hjl; simp at hjl)
            obtain ⟨⟨c0, c1, c2, c3, c4⟩, hN, hX⟩ := HOp.out j hjl
            have hbl := HBel.out _ _ HE.out
            have mv : ∀ {a : Addr} {u : Value}, w.cell? a = some u → wr.cell? a = some u := fun {a} {u} e => (hbl.cell (p := a) (lt_of_cell e)).trans e
            have d0 := mv c0
            have d1 := mv c1
            have d2 := mv c2
            have d3 := mv c3
            have d4 := mv c4
            have HS1 : Hid (∀ _ : Unit, _) := fun _ => HStp.out (2 * j) ops[j].1 ops[j].2.1 ops[j].2.2.1 ops[j].2.2.2.1 ops[j].2.2.2.2 wr (by omega) hN hX HE.out
            clear c0 c1 c2 c3 c4 hN hX mv hbl
            generalize ops[j].1 = a1 at *
            generalize ops[j].2.1 = a2 at *
            generalize ops[j].2.2.1 = a3 at *
            generalize ops[j].2.2.2.1 = a4 at *
            generalize ops[j].2.2.2.2 = a5 at *
            go_wp2_with (go_at_call 11; with_reducible refine Calls.mono (HS1.out ()) ?_; rintro e w6 ⟨rfl, H6⟩)
            exact ⟨⟨j + 1, by omega, by simp, H6⟩, by simp [intOf]; omega⟩
          · obtain rfl : j = ops.length := by omega
            have hjl' : ¬ (ops.length : Int) < (ops.length : Int) := by omega
            have Ht : Hid (2 * ops.length + 1 < 8796093022208) := by unfold Hid; omega
            generalize 2 * ops.length = t at *
            obtain ⟨sao, sc, hsl⟩ : ∃ sao sc, slv = .slice sao SL.length sc := by
              obtain ⟨_, _, _, _, _, _, _, _, h1⟩ := HE.out
              have := (slv_form h1).2.2
              rw [HKf.out.2.2.2.1, HKf.out.2.2.1] at this
              exact this
            have HW2 : Hid (∀ W, StE K t W → W.cell? ⟨w2.heap.size, 2, none⟩ = some (.slice sao SL.length sc)) := fun W h => by
              obtain ⟨_, _, _, _, _, _, _, _, h1⟩ := h
              have := h1.ls.lw.2.2.1
              rw [HKf.out.1, HKf.out.2.2.2.1, hsl] at this
              exact this
            have hSf : SL.length ≤ 20 := by have := HK.out.few; rw [HKf.out.2.2.1] at this; exact this
            have HDr : Hid (∀ (id b : Nat) (W : World), id < SL.length → b < 2 → StE K t W → Calls Tryz.prog 12 #[.pointer (some ⟨w2.heap.size, 0, none⟩), .int .i64 (id : Int), .int .i64 (b : Int)] W fun e w' => e = .returned (.bool true) ∧ Hid (StE K t w')) := fun id b W h1 h2 h3 => by
              have := drain_law K HK.out t (by have := Ht.out; omega) id b (by rw [HKf.out.2.2.1]; exact h1) h2 W h3
              rw [HKf.out.1] at this
              exact this
            go_wp2_with fail
            go_loopw [16] (fun a wr => ∃ q : Nat, q ≤ SL.length ∧ a = .int .i64 (q : Int) ∧ Hid (StE K t wr)) (fun a _ => SL.length - (intOf a).toNat)
            case atStart => exact ⟨0, by omega, rfl, HE.out⟩
            case round =>
              obtain ⟨q, hq, rfl, HEq⟩ := hrel
              have x2 := HW2.out _ HEq.out
              by_cases hql : q < SL.length
              · have hql' : (q : Int) < (SL.length : Int) := by omega
                have HD0 : Hid (∀ W, StE K t W → Calls Tryz.prog 12 #[.pointer (some ⟨w2.heap.size, 0, none⟩), .int .i64 (q : Int), .int .i64 0] W fun e w' => e = .returned (.bool true) ∧ Hid (StE K t w')) := fun W h => HDr.out q 0 W hql (by decide) h
                have HD1 : Hid (∀ W, StE K t W → Calls Tryz.prog 12 #[.pointer (some ⟨w2.heap.size, 0, none⟩), .int .i64 (q : Int), .int .i64 1] W fun e w' => e = .returned (.bool true) ∧ Hid (StE K t w')) := fun W h => HDr.out q 1 W hql (by decide) h
                go_wp2_with (first
                  | (go_at_call 12; with_reducible refine Calls.mono (HD0.out _ HEq.out) ?_; rintro e w7 ⟨rfl, H7⟩)
                  | (go_at_call 12; with_reducible refine Calls.mono (HD1.out _ H7.out) ?_; rintro e w8 ⟨rfl, H8⟩))
                exact ⟨⟨q + 1, by omega, by simp, H8⟩, by simp [intOf]; omega⟩
              · obtain rfl : q = SL.length := by omega
                have hql' : ¬ (SL.length : Int) < (SL.length : Int) := by omega
                obtain ⟨a, r0, r1, lv, rv, Rs, Is, C, HS⟩ := HEq.out
                have HSd := HS.chg0 (drew0 wr)
                have lwF : ∀ {t ac ad : Nat} {r0 r1 s0 s1 : Int} {lv rv : Value} {Lp Rp : List Value} {Rs : List RcD} {Is : List Ins} {C D : Nat → Nat → Nat → List Int} {W : World}, LS K t ac ad r0 r1 s0 s1 lv rv Lp Rp Rs Is C D W → W.cell? ⟨w2.heap.size, 0, none⟩ = some (ptr K.k) ∧ W.cell? ⟨w2.heap.size, 4, none⟩ = some (ptr K.sb) := fun h => by
                  obtain ⟨h0, _, _, _, h4, _⟩ := h.lw
                  rw [HKf.out.1] at h0 h4
                  exact ⟨h0, h4⟩
                have hS0 := lwF HSd.ls
                rw [HKf.out.2.2.2.2.1, HKf.out.2.2.2.2.2] at hS0
                have HR1 : Hid (∀ _ : Unit, Calls Tryz.prog 13 #[ptr k, .pointer none, .int .i64 0] wr.drew fun e w' => e = .returned (.int .u64 (uw r0)) ∧ Hid (∀ _ : Unit, Calls Tryz.prog 14 #[ptr sb, .int .i64 0] w' fun e w'2 => e = .returned (.int .u64 (uw r0)) ∧ Hid (∀ _ : Unit, Calls Tryz.prog 13 #[ptr k, .pointer none, .int .i64 1] w'2 fun e w'3 => e = .returned (.int .u64 (uw r1)) ∧ Hid (∀ _ : Unit, Calls Tryz.prog 14 #[ptr sb, .int .i64 1] w'3 fun e w'4 => e = .returned (.int .u64 (uw r1)) ∧ Hid (Below w.heap.size w w'4) ∧ (w'4.cell? ⟨w2.heap.size, 0, none⟩ = some (ptr k) ∧ w'4.cell? ⟨w2.heap.size, 4, none⟩ = some (ptr sb))) ∧ (w'3.cell? ⟨w2.heap.size, 0, none⟩ = some (ptr k) ∧ w'3.cell? ⟨w2.heap.size, 4, none⟩ = some (ptr sb))) ∧ (w'2.cell? ⟨w2.heap.size, 0, none⟩ = some (ptr k) ∧ w'2.cell? ⟨w2.heap.size, 4, none⟩ = some (ptr sb))) ∧ (w'.cell? ⟨w2.heap.size, 0, none⟩ = some (ptr k) ∧ w'.cell? ⟨w2.heap.size, 4, none⟩ = some (ptr sb))) := fun _ => by
                  have kk := HKf.out.2.2.2.2.1
                  have ks' := HKf.out.2.2.2.2.2
                  rw [← kk, ← ks']
                  refine Calls.mono (HSd.ls.c_refused HK.out 0 (uw r0) 0 r1 (Or.inl ⟨rfl, rfl, rfl, rfl⟩)) ?_
                  rintro e y1 ⟨rfl, p1⟩
                  refine ⟨rfl, fun _ => ?_, lwF p1.out.1⟩
                  refine Calls.mono (p1.out.1.d_refused HK.out 0 (uw r0) 0 r1 (Or.inl ⟨rfl, rfl, rfl, rfl⟩)) ?_
                  rintro e y2 ⟨rfl, p2⟩
                  refine ⟨rfl, fun _ => ?_, lwF p2.out.1⟩
                  refine Calls.mono (p2.out.1.c_refused HK.out 1 (uw r1) 0 0 (Or.inr (Or.inl ⟨rfl, rfl, rfl, rfl⟩))) ?_
                  rintro e y3 ⟨rfl, p3⟩
                  refine ⟨rfl, fun _ => ?_, lwF p3.out.1⟩
                  refine Calls.mono (p3.out.1.d_refused HK.out 1 (uw r1) 0 0 (Or.inr (Or.inl ⟨rfl, rfl, rfl, rfl⟩))) ?_
                  rintro e y4 ⟨rfl, p4⟩
                  refine ⟨rfl, ?_, lwF p4.out.1⟩
                  have := p4.out.1.bel
                  rw [HKf.out.2.1] at this
                  exact this
                clear HS HSd lwF HDr HW2 HEq
                go_upto_region 28 with fail
                go_cut [8] from 118 to 141 (fun v W => v = .bool true ∧ Hid (Below w.heap.size w W))
                case first =>
                  go_region_held3 (fun W => W.cell? ⟨w2.heap.size, 0, none⟩ = some (ptr k) ∧ W.cell? ⟨w2.heap.size, 4, none⟩ = some (ptr sb))
                    (first | with_reducible assumption | with_reducible exact hS0)
                    (first
                      | (go_at_call 13; with_reducible refine Calls.mono (HR1.out ()) ?_; rintro e y1 ⟨rfl, HR2, hS1⟩)
                      | (go_at_call 14; with_reducible refine Calls.mono (HR2.out ()) ?_; rintro e y2 ⟨rfl, HR3, hS2⟩)
                      | (go_at_call 13; with_reducible refine Calls.mono (HR3.out ()) ?_; rintro e y3 ⟨rfl, HR4, hS3⟩)
                      | (go_at_call 14; with_reducible refine Calls.mono (HR4.out ()) ?_; rintro e y4 ⟨rfl, HB4, hS4⟩))
                  all_goals
                    go_wp2_with fail
                    go_meet
                    exact ⟨rfl, HB4⟩
                case rest =>
                  obtain ⟨rfl, HBe⟩ := hcut
                  go_wp2_with fail
                  go_ret
                  exact ⟨rfl, HBe.out⟩
end Go.Proofs.YtaeapikhhbjlnaaGreatDoor
