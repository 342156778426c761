/- lay where there is no room: the walk. Own work of the verifier. -/
import Derived.Test.YtgkdggcpplmnaaaGreatZBO
import Derived.BigRegion
namespace Go.Proofs.YtgkdggcpplmnaaaGreat.Ri
open Go.RowKit Me

theorem flT_set (T : List Int) (i : Nat) (t : Int) : (flT T).set i (.int .i64 t) = flT (T.set i t) := by unfold flT; rw [List.map_set]
theorem flS_set : ∀ (R : List Rs) (i : Nat) (r : Rs), i < R.length → (((flS R).set (i * 3) (.int .i64 r.1.p)).set (i * 3 + 1) r.2).set (i * 3 + 2) (.int .u64 (r.1.r : Int)) = flS (R.set i r)
  | [], i, _, h => absurd h (by simp)
  | c :: L, 0, r, _ => by simp [flS, c3]
  | c :: L, i + 1, r, h => by
    have h' : i < L.length := by simpa using h
    have ih := flS_set L i r h'
    show (((c3 c ++ flS L).set ((i + 1) * 3) _).set ((i + 1) * 3 + 1) _).set ((i + 1) * 3 + 2) _ = c3 c ++ flS (L.set i r)
    rw [List.set_append_right _ _ (by simp; omega), List.set_append_right _ _ (by simp; omega), List.set_append_right _ _ (by simp; omega), ← ih]
    congr 1
    rw [show (i + 1) * 3 - (c3 c).length = i * 3 by simp; omega, show (i + 1) * 3 + 1 - (c3 c).length = i * 3 + 1 by simp; omega, show (i + 1) * 3 + 2 - (c3 c).length = i * 3 + 2 by simp; omega]
set_option maxHeartbeats 1000000 in
/-- A place is written over. -/
theorem Rh.over {B b n k i tg sg tc sc l : Nat} {T : List Int} {R : List Rs} {tm : Int} {r : Rs} {W : World} (h : Rh B b n T R k (.slice (some ⟨tg, 0, none⟩) l tc) (.slice (some ⟨sg, 0, none⟩) l sc) W) (hl : T.length = l) (hr : R.length = l) (hi : i < l) (ho : OS B r W) :
    Rh B b n (T.set i tm) (R.set i r) k (.slice (some ⟨tg, 0, none⟩) l tc) (.slice (some ⟨sg, 0, none⟩) l sc) ((((W.setCell ⟨tg, i, none⟩ (.int .i64 tm)).setCell ⟨sg, i * 3, none⟩ (.int .i64 r.1.p)).setCell ⟨sg, i * 3 + 1, none⟩ r.2).setCell ⟨sg, i * 3 + 2, none⟩ (.int .u64 (r.1.r : Int))) := by
  have ti := h.ti
  have sn := h.sn
  rw [hl] at ti
  rw [hr] at sn
  have n1 : tg ≠ b := fun e => own_notype ti h.hd ne1 (by rw [← e]; rfl)
  have n2 : sg ≠ b := fun e => own_notype sn h.hd ne2 (by rw [← e]; rfl)
  have n3 : (Value.slice (some ⟨sg, 0, none⟩) l sc).ownBlock ≠ some tg := by
    rcases own_apart sn ti ne3 with q | q
    · cases q
    · exact q
  have n3' : sg ≠ tg := fun e => n3 (by rw [← e]; rfl)
  obtain ⟨ti1, -⟩ := ti.stored i (.int .i64 tm)
  rw [flT_set] at ti1
  have sn1 := own_set sn (a := ⟨tg, i, none⟩) n3 (.int .i64 tm)
  obtain ⟨sn2, -⟩ := sn1.stored (i * 3) (.int .i64 r.1.p)
  obtain ⟨sn3, -⟩ := sn2.stored (i * 3 + 1) r.2
  obtain ⟨sn4, -⟩ := sn3.stored (i * 3 + 2) (.int .u64 (r.1.r : Int))
  rw [flS_set R i r (by omega)] at sn4
  have nt : ∀ {W : World} {xs : List Value}, W.ownsRow B 2 1 (.slice (some ⟨tg, 0, none⟩) l tc) l xs → ∀ j u, (W.setCell ⟨sg, j, none⟩ u).ownsRow B 2 1 (.slice (some ⟨tg, 0, none⟩) l tc) l xs := fun {W xs} q j u => own_set q (by intro e; cases e; exact n3' rfl) u
  have ti4 := nt (nt (nt ti1 (i * 3) (.int .i64 r.1.p)) (i * 3 + 1) r.2) (i * 3 + 2) (.int .u64 (r.1.r : Int))
  have k0 : Chg (fun y => y = tg ∨ y = sg) W (W.setCell ⟨tg, i, none⟩ (.int .i64 tm)) := ⟨rfl, rfl, rfl, by simp, fun k _ hn => Below.heap_setCell _ _ _ _ (fun e => hn (.inl e))⟩
  have k1 := k0.trans (chg_set (W.setCell ⟨tg, i, none⟩ (.int .i64 tm)) sg (i * 3) (.int .i64 r.1.p)) (fun x e => .inl (.inr e))
  have k2 := k1.trans (chg_set ((W.setCell ⟨tg, i, none⟩ (.int .i64 tm)).setCell ⟨sg, i * 3, none⟩ (.int .i64 r.1.p)) sg (i * 3 + 1) r.2) (fun x e => .inl (.inr e))
  have c1 := k2.trans (chg_set (((W.setCell ⟨tg, i, none⟩ (.int .i64 tm)).setCell ⟨sg, i * 3, none⟩ (.int .i64 r.1.p)).setCell ⟨sg, i * 3 + 1, none⟩ r.2) sg (i * 3 + 2) (.int .u64 (r.1.r : Int))) (fun x e => .inl (.inr e))
  generalize (((W.setCell ⟨tg, i, none⟩ (.int .i64 tm)).setCell ⟨sg, i * 3, none⟩ (.int .i64 r.1.p)).setCell ⟨sg, i * 3 + 1, none⟩ r.2).setCell ⟨sg, i * 3 + 2, none⟩ (.int .u64 (r.1.r : Int)) = W4 at *
  clear k0 k1 k2 sn1 sn2 sn3 ti1
  refine ⟨?_, ?_, ?_, fun q hq => ?_, h.hB⟩
  · exact c1.at_ h.hd (by rintro (e | e); exact n1 e.symm; exact n2 e.symm)
  · rw [List.length_set, hl]
    exact ti4
  · rw [List.length_set, hr]
    exact sn4
  · have hq' : OS B q W := by
      rcases List.mem_or_eq_of_mem_set hq with c | c
      · exact h.el q c
      · subst c; exact ho
    refine hq'.chg c1 (fun p e => ?_)
    rcases e with e | e
    · obtain ⟨cs, z, g⟩ := own_block (p := p) ti (by rw [e]; rfl)
      exact ⟨_, _, _, g, t1V⟩
    · obtain ⟨cs, z, g⟩ := own_block (p := p) sn (by rw [e]; rfl)
      exact ⟨_, _, _, g, t3V⟩
/-- What the region that writes reads. -/
abbrev Sq (b X tg sg : Nat) (l tc sc k : Nat) (s : Sn) (u : Value) (W : World) : Prop :=
  W.cell? ⟨b, 1, none⟩ = some (.slice (some ⟨tg, 0, none⟩) l tc) ∧ W.cell? ⟨b, 2, none⟩ = some (.slice (some ⟨sg, 0, none⟩) l sc) ∧ W.cell? ⟨b, 3, none⟩ = some (.int .i64 (k : Int)) ∧ W.cell? ⟨X, 0, none⟩ = some (.int .i64 s.p) ∧ W.cell? ⟨X, 1, none⟩ = some u ∧ W.cell? ⟨X, 2, none⟩ = some (.int .u64 (s.r : Int))
theorem sq_set {b X tg sg l tc sc k : Nat} {s : Sn} {u : Value} {W : World} (h : Sq b X tg sg l tc sc k s u W) {p : Addr} (h1 : p.block ≠ b) (h2 : p.block ≠ X) (v : Value) : Sq b X tg sg l tc sc k s u (W.setCell p v) := by
  have key : ∀ {q : Nat} {i : Nat}, p.block ≠ q → (W.setCell p v).cell? ⟨q, i, none⟩ = W.cell? ⟨q, i, none⟩ := fun {q i} hne => cell_of_heap (Below.heap_setCell _ _ _ _ (fun e => hne e.symm)) i
  exact ⟨(key h1).trans h.1, (key h1).trans h.2.1, (key h1).trans h.2.2.1, (key h2).trans h.2.2.2.1, (key h2).trans h.2.2.2.2.1, (key h2).trans h.2.2.2.2.2⟩
set_option maxRecDepth 100000 in
set_option maxHeartbeats 8000000 in
theorem lay_over (B b n k : Nat) (T : List Int) (R : List Rs) (tv sv : Value) (tm : Int) (s : Sn) (u : Value) (w : World) (hg : Rg B b n T R k tv sv w) (hBw : B ≤ w.heap.size) (hlt : R.length = n) (hkn : k < n) (ho : OS B (s, u) w) :
    Calls Tryz.prog 14 #[.pointer (some ⟨b, 0, none⟩), .int .i64 tm, sx (s, u)] w fun e w' => (∃ v, e = .returned v) ∧ ∃ tv' sv', Rg B b n (T.set k tm) (R.set k (s, u)) (plc k 1 n) tv' sv' w' ∧ Below B w w' := by
  obtain ⟨ua, uc, hu⟩ := ho.form
  dsimp only at hu
  subst hu
  have hl := hg.hl
  have hm := hg.hm
  have hlt' : ¬ (R.length : Int) < (n : Int) := by omega
  obtain ⟨ta, tg, tc, e1, h1, -⟩ := own_slice hg.ti
  obtain ⟨sa, sg, sc, e2, h2, -⟩ := own_slice hg.sn
  rw [hl] at e1 h1
  obtain rfl := h1 (by omega)
  obtain rfl := h2 (by omega)
  subst e1 e2
  have HH := hid_of (hg.rh.below (bel1 w (.cells #[.int .i64 s.p, .slice ua s.vs.length uc, .int .u64 (s.r : Int)] 31)))
  have HO := hid_of (ho.below (bel1 w (.cells #[.int .i64 s.p, .slice ua s.vs.length uc, .int .u64 (s.r : Int)] 31)))
  have HX := hid_of (new_1 w (.cells #[.int .i64 s.p, .slice ua s.vs.length uc, .int .u64 (s.r : Int)] 31))
  have HB := hid_of ((bel1 w (.cells #[.int .i64 s.p, .slice ua s.vs.length uc, .int .u64 (s.r : Int)] 31)).mono hBw)
  have HK : Hid (B ≤ w.heap.size ∧ b < w.heap.size) := ⟨hBw, hg.lt⟩
  have HRg := hid_of hg
  clear hg ho h1 h2
  go_enter Tryz.func14, Tryz.ntmps14
  go_upto_region 1 with fail
  generalize w.alloc (.cells #[.int .i64 s.p, .slice ua s.vs.length uc, .int .u64 (s.r : Int)] 31) = w1 at *
  obtain ⟨c0, c1, c2, c3, cf⟩ := four_cells HH.out.drew.hd
  have HL : Hid (∀ W, W.cell? ⟨b, 1, none⟩ = some (.slice (some ⟨tg, 0, none⟩) R.length tc) → Calls Tryz.prog 10 #[.pointer (some ⟨b, 0, none⟩)] W fun e w' => e = .returned (.int .i64 (R.length : Int)) ∧ w' = W) := fun W h => len_any b R.length tc _ W h
  go_cut [12] from 6 to 12 (fun x W => x = .bool false ∧ W = w1.drew)
  case first =>
    go_region_with (go_at_call 10; with_reducible refine (HL.out _ c1).mono ?_; rintro e w2 ⟨rfl, rfl⟩)
    all_goals
      go_wp2
      go_meet
      exact ⟨rfl, rfl⟩
  case rest =>
  obtain ⟨rfl, rfl⟩ := hcut
  have HA := hid_of HH.out.drew.drew
  have HOA := hid_of ((HO.out.below (drew_bel1 w1)).below (drew_bel1 w1.drew))
  have HXA := hid_of (hkN (hkN HX.out (drew_bel1 w1)) (drew_bel1 w1.drew))
  have HBA := hid_of HB.out.drew.drew
  go_upto_region 4 with fail
  clear c0 c1 c2 c3 cf HL HH HO HX HB
  generalize w1.drew = wA at *
  have hT : k < T.length := by omega
  have hRk : k < R.length := by omega
  have ti := HA.out.ti
  have sn := HA.out.sn
  rw [hl] at ti
  have t0 : wA.drew.cell? ⟨tg, k, none⟩ = some (.int .i64 T[k]) := by
    rw [ti.cellAt k (by omega)]
    simp [flT, hT]
  have t1 := ti.frozenAt k
  have s0 : wA.drew.cell? ⟨sg, k * 3, none⟩ = some (.int .i64 R[k].1.p) := by
    have f := flS_get R k 0 hRk (by omega)
    rw [Nat.add_zero] at f
    rw [sn.cellAt (k * 3) (by omega), f]
    rfl
  have s1 : wA.drew.cell? ⟨sg, k * 3 + 1, none⟩ = some R[k].2 := by rw [sn.cellAt (k * 3 + 1) (by omega), flS_get R k 1 hRk (by omega)]; rfl
  have s2 : wA.drew.cell? ⟨sg, k * 3 + 2, none⟩ = some (.int .u64 (R[k].1.r : Int)) := by rw [sn.cellAt (k * 3 + 2) (by omega), flS_get R k 2 hRk (by omega)]; rfl
  have f0 := sn.frozenAt (k * 3)
  have f1 := sn.frozenAt (k * 3 + 1)
  have f2 := sn.frozenAt (k * 3 + 2)
  have n1 : tg ≠ b := fun e => own_notype ti HA.out.hd ne1 (by rw [← e]; rfl)
  have n2 : sg ≠ b := fun e => own_notype sn HA.out.hd ne2 (by rw [← e]; rfl)
  have n3 : sg ≠ tg := fun e => by
    rcases own_apart sn ti ne3 with q | q
    · cases q
    · exact q (by rw [e]; rfl)
  have n4 : tg ≠ w.heap.size := fun e => own_notype ti HXA.out (fun e => ne3 e.symm) (by rw [e]; rfl)
  have n5 : sg ≠ w.heap.size := by have := (sn.lt sg rfl); have := (HRg.out.sn.lt sg rfl).2; omega
  obtain ⟨c0, c1, c2, c3, cf⟩ := four_cells HA.out.hd
  obtain ⟨x0, x1, x2, -, -, -⟩ := three_cells HXA.out
  have hS0 : Sq b w.heap.size tg sg R.length tc sc k s (.slice ua s.vs.length uc) wA.drew := ⟨c1, c2, c3, x0, x1, x2⟩
  have i1 := index_tm tg R.length tc k (k : Int) rfl hRk
  have i2 := index_sn sg R.length sc k (k : Int) rfl hRk
  have hHS := hid_of (⟨n1, n2, n4, n5⟩ : tg ≠ b ∧ sg ≠ b ∧ tg ≠ w.heap.size ∧ sg ≠ w.heap.size)
  clear ti sn
  have key : ∀ j, (wA.setCell ⟨tg, k, none⟩ (.int .i64 tm)).drew.cell? ⟨sg, j, none⟩ = wA.drew.cell? ⟨sg, j, none⟩ := fun j => cell_of_heap (W := wA.drew) (heap_other wA ⟨tg, k, none⟩ sg (.int .i64 tm) n3) j
  have keyf : ∀ j, (wA.setCell ⟨tg, k, none⟩ (.int .i64 tm)).drew.frozen? ⟨sg, j, none⟩ = wA.drew.frozen? ⟨sg, j, none⟩ := fun j => by
    have e := heap_other wA ⟨tg, k, none⟩ sg (.int .i64 tm) n3
    show World.frozen? (wA.setCell ⟨tg, k, none⟩ (.int .i64 tm)) ⟨sg, j, none⟩ = World.frozen? wA ⟨sg, j, none⟩
    unfold World.frozen?
    rw [e]
  have s0' := (key _).trans s0
  have s1' := (key _).trans s1
  have s2' := (key _).trans s2
  have f0' := (keyf _).trans f0
  have f1' := (keyf _).trans f1
  have f2' := (keyf _).trans f2
  have s0'' : (wA.drew.setCell ⟨tg, k, none⟩ (.int .i64 tm)).cell? ⟨sg, k * 3, none⟩ = _ := s0'
  have s1'' : (wA.drew.setCell ⟨tg, k, none⟩ (.int .i64 tm)).cell? ⟨sg, k * 3 + 1, none⟩ = _ := s1'
  have s2'' : (wA.drew.setCell ⟨tg, k, none⟩ (.int .i64 tm)).cell? ⟨sg, k * 3 + 2, none⟩ = _ := s2'
  have f0'' : (wA.drew.setCell ⟨tg, k, none⟩ (.int .i64 tm)).frozen? ⟨sg, k * 3, none⟩ = _ := f0'
  have f1'' : (wA.drew.setCell ⟨tg, k, none⟩ (.int .i64 tm)).frozen? ⟨sg, k * 3 + 1, none⟩ = _ := f1'
  have f2'' : (wA.drew.setCell ⟨tg, k, none⟩ (.int .i64 tm)).frozen? ⟨sg, k * 3 + 2, none⟩ = _ := f2'
  clear key keyf
  have s03 : (wA.setCell ⟨tg, k, none⟩ (.int .i64 tm)).cell? ⟨sg, k * 3, none⟩ = _ := s0'
  have s13 : (wA.setCell ⟨tg, k, none⟩ (.int .i64 tm)).cell? ⟨sg, k * 3 + 1, none⟩ = _ := s1'
  have s23 : (wA.setCell ⟨tg, k, none⟩ (.int .i64 tm)).cell? ⟨sg, k * 3 + 2, none⟩ = _ := s2'
  have f03 : (wA.setCell ⟨tg, k, none⟩ (.int .i64 tm)).frozen? ⟨sg, k * 3, none⟩ = _ := f0'
  have f13 : (wA.setCell ⟨tg, k, none⟩ (.int .i64 tm)).frozen? ⟨sg, k * 3 + 1, none⟩ = _ := f1'
  have f23 : (wA.setCell ⟨tg, k, none⟩ (.int .i64 tm)).frozen? ⟨sg, k * 3 + 2, none⟩ = _ := f2'
  have p0 : wA.cell? ⟨sg, k * 3, none⟩ = _ := s0
  have p1 : wA.cell? ⟨sg, k * 3 + 1, none⟩ = _ := s1
  have p2 : wA.cell? ⟨sg, k * 3 + 2, none⟩ = _ := s2
  have g0 : wA.frozen? ⟨sg, k * 3, none⟩ = _ := f0
  have g1 : wA.frozen? ⟨sg, k * 3 + 1, none⟩ = _ := f1
  have g2 : wA.frozen? ⟨sg, k * 3 + 2, none⟩ = _ := f2
  go_region_held3 (fun W => Sq b w.heap.size tg sg R.length tc sc k s (.slice ua s.vs.length uc) W)
    (first | assumption | exact hS0 | exact sq_set (by assumption) hHS.out.1 hHS.out.2.2.1 _ | exact sq_set (sq_set (sq_set (by assumption) hHS.out.2.1 hHS.out.2.2.2 _) hHS.out.2.1 hHS.out.2.2.2 _) hHS.out.2.1 hHS.out.2.2.2 _)
    (fail)
  all_goals
    have hR : Rh B b n (T.set k tm) (R.set k (s, .slice ua s.vs.length uc)) k (.slice (some ⟨tg, 0, none⟩) R.length tc) (.slice (some ⟨sg, 0, none⟩) R.length sc) ((((wA.setCell ⟨tg, k, none⟩ (.int .i64 tm)).setCell ⟨sg, k * 3, none⟩ (.int .i64 s.p)).setCell ⟨sg, k * 3 + 1, none⟩ (.slice ua s.vs.length uc)).setCell ⟨sg, k * 3 + 2, none⟩ (.int .u64 (s.r : Int))).drew := HA.out.over (r := (s, .slice ua s.vs.length uc)) hl rfl hRk HOA.out
    have hbB : Below B w ((((wA.setCell ⟨tg, k, none⟩ (.int .i64 tm)).setCell ⟨sg, k * 3, none⟩ (.int .i64 s.p)).setCell ⟨sg, k * 3 + 1, none⟩ (.slice ua s.vs.length uc)).setCell ⟨sg, k * 3 + 2, none⟩ (.int .u64 (s.r : Int))).drew := ((((HBA.out.setCell (p := ⟨tg, k, none⟩) (HA.out.ti.lt tg rfl).1 _).setCell (p := ⟨sg, k * 3, none⟩) (HA.out.sn.lt sg rfl).1 _).setCell (p := ⟨sg, k * 3 + 1, none⟩) (HA.out.sn.lt sg rfl).1 _).setCell (p := ⟨sg, k * 3 + 2, none⟩) (HA.out.sn.lt sg rfl).1 _)
    rw [hlt] at hR
    have HR5 := hid_of hR
    have HB5 := hid_of hbB
    clear hR hbB s0 s1 s2 s0' s1' s2' s0'' s1'' s2'' f0 f1 f2 f0' f1' f2' f0'' f1'' f2'' s03 s13 s23 f03 f13 f23 p0 p1 p2 g0 g1 g2 t0 t1 c0 c1 c2 c3 cf x0 x1 x2 i1 i2 hS0 HA HOA HXA HBA
    generalize ((((wA.setCell ⟨tg, k, none⟩ (.int .i64 tm)).setCell ⟨sg, k * 3, none⟩ (.int .i64 s.p)).setCell ⟨sg, k * 3 + 1, none⟩ (.slice ua s.vs.length uc)).setCell ⟨sg, k * 3 + 2, none⟩ (.int .u64 (s.r : Int))).drew = W5 at *
    obtain ⟨c0, c1, c2, c3, cf⟩ := four_cells HR5.out.hd
    have HP : Hid (Calls Tryz.prog 23 #[.pointer (some ⟨b, 0, none⟩), .int .i64 1] W5 fun e w' => e = .returned (.int .i64 (plc k 1 n : Nat)) ∧ Below W5.heap.size W5 w') := place_any b n tc k 1 (some ⟨tg, 0, none⟩) W5 c1 c3 (by omega) hm (by omega) (by omega)
    have HS5 : Hid (B ≤ W5.heap.size) := Nat.le_trans (Nat.le_trans HRg.out.hB (Nat.le_of_lt HR5.out.lt)) (Nat.le_refl _)
    go_wp2_with (go_at_call 23; with_reducible refine HP.out.mono ?_; rintro e w6 ⟨rfl, hb6⟩; have HR6 := hid_of (HR5.out.below hb6); obtain ⟨d0, d1, d2, d3, df⟩ := four_cells HR6.out.hd; have df3 := df 3)
    go_end0
    have hR7 := HR6.out.fld3 (plc k 1 n)
    exact ⟨⟨_, rfl⟩, _, _, ⟨hR7.hd, hR7.ti, hR7.sn, hR7.el, by simp [hl], by simp [hlt], hm, Or.inr (by rw [List.length_set, hlt]; exact Nat.mod_lt _ (by omega)), hR7.hB⟩, (HB5.out.trans (hb6.mono HS5.out)).setCell (p := ⟨b, 3, none⟩) HRg.out.hB _⟩
end Go.Proofs.YtgkdggcpplmnaaaGreat.Ri
