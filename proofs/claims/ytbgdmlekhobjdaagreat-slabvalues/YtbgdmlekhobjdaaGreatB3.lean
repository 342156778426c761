/- THE BOOK: add. Own work of the verifier. -/
import Derived.Test.YtbgdmlekhobjdaaGreatBA
namespace Go.Proofs.YtbgdmlekhobjdaaGreat
open Go.RowKit

theorem hid_ofB {p : Prop} (h : p) : Hid p := h
theorem infoS : (Tryz.prog.info? 25).map (fun i => (i.zero, i.size, i.bytes)) = some (some (.slice none 0 0), 1, 24) := by kernel_rfl
theorem cell_one_newB (w : World) (x : Value) (t : TypeId) : ∀ j u, [x][j]? = some u → (w.alloc (.cells #[x] t)).cell? ((⟨w.heap.size, 0, none⟩ : Addr).add j) = some u := fun j u hu => by
  match j, hu with
  | 0, hu => simp at hu; subst hu; simp [go_sem]
  | j + 1, hu => simp at hu
theorem four_cells {W : World} {b : Nat} {u0 u1 u2 u3 : Value} {t : TypeId} (h : W.heap[b]? = some (.cells #[u0, u1, u2, u3] t (0, 0))) : W.cell? ⟨b, 0, none⟩ = some u0 ∧ W.cell? ⟨b, 1, none⟩ = some u1 ∧ W.cell? ⟨b, 2, none⟩ = some u2 ∧ W.cell? ⟨b, 3, none⟩ = some u3 ∧ ∀ j, W.frozen? ⟨b, j, none⟩ = false := by
  refine ⟨?_, ?_, ?_, ?_, fun j => ?_⟩ <;> simp [World.cell?, World.frozen?, h]
theorem wc_step {B : Nat} {W1 : World} {A : List Cn} {b cp c : Nat} {q : Nat} {W : World} (h : Hid (WC B W1 A (.slice (some ⟨b, 0, none⟩) A.length cp) (Mk c) q W)) (hq : q < A.length) : Hid (WC B W1 A (.slice (some ⟨b, 0, none⟩) A.length cp) (Mk c) (q + 1) ((W.setCell ⟨b, q * 2, none⟩ (.int .i64 (-1 - (c : Int)))).setCell ⟨b, q * 2 + 1, none⟩ (.int .u64 0))) := WC.step h.out hq
theorem own_two {W : World} {B g n cap : Nat} {xs : List Value} (h : W.ownsRow B 45 2 (.slice (some ⟨g, 0, none⟩) n cap) n xs) (j : Nat) (hj : j < n) : (∃ u, W.cell? ⟨g, j * 2, none⟩ = some u) ∧ (∃ u, W.cell? ⟨g, j * 2 + 1, none⟩ = some u) ∧ W.frozen? ⟨g, j * 2, none⟩ = false ∧ W.frozen? ⟨g, j * 2 + 1, none⟩ = false := by
  have hl := h.1
  refine ⟨⟨xs[j * 2], ?_⟩, ⟨xs[j * 2 + 1], ?_⟩, h.frozenAt _, h.frozenAt _⟩
  · rw [h.cellAt (j * 2) (by omega)]
    exact List.getElem?_eq_getElem _
  · rw [h.cellAt (j * 2 + 1) (by omega)]
    exact List.getElem?_eq_getElem _
theorem two_int (a b : Int) : ∀ u ∈ [Value.int .i64 a, .int .u64 b], u.oneCell' = true := by
  intro u hu
  simp at hu
  rcases hu with rfl | rfl <;> rfl
theorem one_slice (ao : Option Addr) (n c : Nat) : ∀ u ∈ [Value.slice ao n c], u.oneCell' = true := by
  intro u hu
  simp at hu
  rw [hu]; rfl
theorem own_slice {W : World} {B : Nat} {e : TypeId} {s n : Nat} {v : Value} {xs : List Value} (h : W.ownsRow B e s v n xs) : ∃ ao g cap, v = .slice ao n cap ∧ (0 < n → ao = some ⟨g, 0, none⟩) := by
  rcases h.2 with ⟨q, q2⟩ | ⟨g, cap, cur, q, _⟩
  · exact ⟨none, 0, 0, by rw [q, q2], fun k => by omega⟩
  · exact ⟨_, g, cap, q, fun _ => rfl⟩
theorem new_ne {W : World} {B : Nat} {e : TypeId} {s n : Nat} {v : Value} {xs : List Value} (h : W.ownsRow B e s v n xs) : some W.heap.size ≠ v.ownBlock := fun q => by
  have := (h.lt _ q.symm).2
  omega
set_option maxRecDepth 10000 in
set_option maxHeartbeats 4000000 in
theorem badd_any (B p : Nat) (L : List (Value × Value × Nat)) (vl vg : Value) (n : Nat) (v : Value) (A : List Cn) (w : World) (h : BK B p L vl vg n w) (hsz : B ≤ w.heap.size) (hA : OwnC B v A w) (hap : Apart L v) (hL : L.length ≤ 1000) (hn : n + 40 + A.length < 2097152) :
    Calls Tryz.prog 13 #[.pointer (some ⟨p, 0, none⟩), v] w fun e w' => e = .returned (.tuple #[]) ∧ AddQ B p L vl vg n A.length v w w' := by
  obtain ⟨i0, hi0, hz0, hz1, hz2⟩ := info_parts infoC
  obtain ⟨i1, hi1, hy0, hy1, hy2⟩ := info_parts infoS
  obtain ⟨ao, b, cp, rfl, hao⟩ := own_slice hA
  obtain ⟨al, b1, cl, rfl, -⟩ := own_slice h.rl
  obtain ⟨k0, k1, k2, k3, kf⟩ := four_cells h.blk
  have HBK : Hid (BK B p L (.slice al L.length cl) vg n w) := h
  have HA : Hid (OwnC B (.slice ao A.length cp) A w) := hA
  have HAp : Hid (Apart L (.slice ao A.length cp)) := hap
  have hNe := new_ne hA
  have HNe : Hid (some w.heap.size ≠ (Value.slice ao A.length cp).ownBlock) := hNe
  clear h hA hap hNe
  have hwr : IntKind.i64.wrap (-1 - (L.length : Int)) = -1 - (L.length : Int) := by rw [IntKind.wrap_i64]; omega
  generalize hc : L.length = c at *
  have HC : Hid (L.length = c) := hc
  clear hc
  go_enter Tryz.func13, Tryz.ntmps13
  go_upto_region 1 with fail
  clear k0 k1 k2 k3 kf
  generalize hw1 : w.alloc (.cells #[.int .i64 (-1 - (c : Int)), .int .u64 0] 45) = w1
  have HB1 : Hid (Below w.heap.size w w1) := by rw [← hw1]; exact bel1 _ _
  have HX0 : Hid (w1.cell? ⟨w.heap.size, 0, none⟩ = some (.int .i64 (-1 - (c : Int)))) := by rw [← hw1]; unfold Hid; simp [go_sem]
  have HX1 : Hid (w1.cell? ⟨w.heap.size, 1, none⟩ = some (.int .u64 0)) := by rw [← hw1]; unfold Hid; simp [go_sem]
  have HW0 : Hid (WC B w1 A (.slice ao A.length cp) (Mk c) 0 w1) := WC.start (HA.out.bel HB1.out)
  clear hw1
  generalize hq0 : w.heap.size = q0 at *
  have HQ0 : Hid (w.heap.size = q0) := hq0
  clear hq0
  go_upto_region 2 with fail
  go_loopw [5] (fun x W => ∃ (q : Nat), q ≤ A.length ∧ x = .int .i64 (q : Int) ∧ Hid (WC B w1 A (.slice ao A.length cp) (Mk c) q W)) (fun x _ => A.length - (intOf x).toNat)
  case atStart => exact ⟨0, by omega, rfl, HW0⟩
  case round =>
    clear HW0
    obtain ⟨q, hq, rfl, HW⟩ := hrel
    by_cases hql : q < A.length
    · have hql' : (q : Int) < (A.length : Int) := by omega
      obtain rfl := hao (by omega)
      obtain ⟨⟨y0, c0⟩, ⟨y1, c1⟩, f0, f1⟩ := own_two HW.out.own q hql
      have e0 := HW.out.grown.cell HX0.out HNe.out
      have e1 := HW.out.grown.cell HX1.out HNe.out
      have HWn := wc_step HW hql
      clear HW hao HBK HA HAp
      go_wp2_with fail
      exact ⟨⟨q + 1, by omega, by go_num, HWn⟩, by simp [intOf]; omega⟩
    · have hql' : ¬ (q : Int) < (A.length : Int) := by omega
      have hqe : q = A.length := by omega
      subst hqe
      have hdone := WC.done HW.out
      have HG1 : Hid (w1.grownBy wr (Value.slice ao A.length cp).ownBlock) := HW.out.grown
      have HP0 : Hid (AC B wr (.slice ao A.length cp) (.slice ao A.length cp) A.length 0 (Mk c) wr) := ⟨hdone, hdone, grown_bel (Below.refl _ _), Or.inr (Or.inl rfl)⟩
      have hsz2 : B ≤ wr.heap.size := Nat.le_trans hsz (by rw [← HQ0.out]; exact Nat.le_trans HB1.out.size HG1.out.size)
      have HX0r := hid_ofB (HG1.out.cell HX0.out HNe.out)
      have HX1r := hid_ofB (HG1.out.cell HX1.out HNe.out)
      clear hdone HW
      go_upto_region 7 with fail
      go_loopw [6, 7] (fun l x W => ∃ (k : Nat), k ≤ 30 ∧ x = .int .i64 (k : Int) ∧ Hid (AC B wr (.slice ao A.length cp) l A.length k (Mk c) W)) (fun _ x _ => 30 - (intOf x).toNat)
      case atStart => exact ⟨0, by omega, rfl, HP0⟩
      case round =>
        clear HP0
        obtain ⟨k, hk, rfl, HP⟩ := hrel
        by_cases hkl : k < 30
        · have hkl' : (k : Int) < 30 := by omega
          have e0 := HP.out.grown.cell HX0r.out HNe.out
          have e1 := HP.out.grown.cell HX1r.out HNe.out
          clear HBK HA HAp HG1 hql' hql
          go_wp2_with (first
            | (at_builtin; refine wpList_append_two _ rfl _ _ 25 rfl B 45 i0 (.agg #[.int .i64 0, .int .u64 0]) 2 16 Tryz.underlying25 hi0 hz0 hz1 hz2 rfl u6 (A.length + k) (fl (rc (A.length + k) (Mk c))) rfl (HP.out.curRow (bel1 _ _)) ⟨_, 0, none⟩ 1 1 [_, _] rfl rfl (cell_two_new _ _ _ _) (two_int _ _) (by omega) (by unfold maxLen; omega) (by omega) ?_; intro l' w4 hp4))
          exact ⟨⟨k + 1, by omega, by go_num, HP.out.push hsz2 (bel1 _ _) hp4⟩, by simp [intOf]; omega⟩
        · have hkl' : ¬ (k : Int) < 30 := by omega
          have hke : k = 30 := by omega
          subst hke
          obtain ⟨a6, b6, c6, rfl, -⟩ := own_slice (HP.out.curRow (Below.refl _ _))
          have HA3 : Hid _ := a3_of HBK.out (by rw [HQ0.out]; exact hsz) HA.out HAp.out (by rw [HQ0.out]; exact HB1.out) HG1.out (by rw [HC.out]; exact HP.out)
          have HAt : Hid ((Value.slice a6 (A.length + 30) c6).ownBlock = none ∨ (Value.slice a6 (A.length + 30) c6).ownBlock = (Value.slice ao A.length cp).ownBlock ∨ ∃ x, (Value.slice a6 (A.length + 30) c6).ownBlock = some x ∧ w.heap.size ≤ x) := by
            rcases HP.out.at_ with q | q | ⟨g, q, q1⟩
            · exact Or.inl q
            · exact Or.inr (Or.inl q)
            · exact Or.inr (Or.inr ⟨g, q, Nat.le_trans (by rw [HQ0.out]; exact Nat.le_trans (by rw [← HQ0.out]; exact HB1.out.size) HG1.out.size) q1⟩)
          obtain ⟨xs, hxs⟩ : ∃ xs, L.map (·.1) = xs := ⟨_, rfl⟩
          obtain ⟨ys, hys⟩ : ∃ ys, L.map (·.2.1) = ys := ⟨_, rfl⟩
          rw [hxs, hys] at HA3
          have HLm : Hid (xs.length = c) := by rw [← hxs]; unfold Hid; rw [List.length_map]; exact HC.out
          have HLg : Hid (ys.length = c) := by rw [← hys]; unfold Hid; rw [List.length_map]; exact HC.out
          have HXs := hid_ofB hxs
          have HYs := hid_ofB hys
          clear HP HX0r HX1r HX0 HX1 HG1 HB1 HA HBK HAp HNe hao hxs hys hql' hql hq
          go_upto_region 10 with fail
          obtain ⟨k0, k1, k2, k3, kf⟩ := four_cells HA3.out.blk
          go_upto_region 11 with (first
            | (at_builtin; refine wpList_append_two _ rfl _ _ 47 rfl B 25 i1 (.slice none 0 0) 1 24 Tryz.underlying47 hi1 hy0 hy1 hy2 rfl _ xs.length xs rfl (own_belG HA3.out.rl (bel1 _ _)) ⟨_, 0, none⟩ 1 1 [.slice ao A.length cp] rfl rfl (cell_one_newB _ _ _) (one_slice _ _ _) (by omega) (by rw [HLm.out]; unfold maxLen; omega) (by rw [HLm.out]; omega) ?_; intro l4 w4 hp4; obtain ⟨a4, b4, c4, rfl, -⟩ := own_slice (app_row _ HA3.out.rl HA3.out.sz hp4).1; have HQ4 := hid_ofB (A3.appL HA3.out _ hp4); obtain ⟨z0, z1, z2, z3, zf⟩ := four_cells HQ4.out.1; have zf0 := zf 0))
          have HA4 := hid_ofB HQ4.out.2
          clear HQ4 HA3 hp4 k0 k1 k2 k3 kf zf zf0 z0 z1 z2 z3
          generalize w4.setCell ⟨p, 0, none⟩ (.slice a4 (xs.length + 1) c4) = w5 at *
          obtain ⟨k0, k1, k2, k3, kf⟩ := four_cells HA4.out.blk
          go_upto_region 12 with (first
            | (at_builtin; refine wpList_append_two _ rfl _ _ 47 rfl B 25 i1 (.slice none 0 0) 1 24 Tryz.underlying47 hi1 hy0 hy1 hy2 rfl _ ys.length ys rfl (own_belG HA4.out.rg (bel1 _ _)) ⟨_, 0, none⟩ 1 1 [.slice a6 (A.length + 30) c6] rfl rfl (cell_one_newB _ _ _) (one_slice _ _ _) (by omega) (by rw [HLg.out]; unfold maxLen; omega) (by rw [HLg.out]; omega) ?_; intro l6 w6 hp6; obtain ⟨a7, b7, c7, rfl, -⟩ := own_slice (app_row _ HA4.out.rg HA4.out.sz hp6).1; have HQ6 := hid_ofB (A3.appG HA4.out _ hp6); obtain ⟨z0, z1, z2, z3, zf⟩ := four_cells HQ6.out.1; have zf0 := zf 1))
          have HA6 := hid_ofB HQ6.out.2
          clear HQ6 HA4 hp6 k0 k1 k2 k3 kf zf zf0 z0 z1 z2 z3
          generalize w6.setCell ⟨p, 1, none⟩ (.slice a7 (ys.length + 1) c7) = w7 at *
          obtain ⟨k0, k1, k2, k3, kf⟩ := four_cells HA6.out.blk
          have kf2 := kf 2
          have hn1 : IntKind.i64.wrap (40 + (A.length : Int)) = 40 + (A.length : Int) := by rw [IntKind.wrap_i64]; omega
          have hn2 : IntKind.i64.wrap ((n : Int) + (40 + (A.length : Int))) = ((n + 40 + A.length : Nat) : Int) := by rw [IntKind.wrap_i64]; omega
          go_upto_region 13 with fail
          have HA7 := hid_ofB (A3.setN HA6.out (n + 40 + A.length))
          have hcast : ((n + 40 + A.length : Nat) : Int) = (n : Int) + 40 + (A.length : Int) := by omega
          rw [hcast] at HA7
          clear HA6 hn1 hn2 k0 k1 k2 k3 kf kf2 hcast
          generalize w7.setCell ⟨p, 2, none⟩ (.int .i64 ((n : Int) + 40 + (A.length : Int))) = w8 at *
          obtain ⟨k0, k1, k2, k3, kf⟩ := four_cells HA7.out.blk
          have hge : ¬ (2097152 : Int) ≤ (n : Int) + 40 + (A.length : Int) := by omega
          have hge' : (n : Int) + 40 + (A.length : Int) < 2097152 := by omega
          have HD : Hid (AddQ B p L (.slice al c cl) vg n A.length (.slice ao A.length cp) w w8) := A3.done (by rw [HXs.out, HYs.out]; exact HA7.out) HAt.out
          go_wp2_with fail
          refine bodyPost_end (results_none rfl _ _ _) rfl ?_
          exact ⟨rfl, HD.out⟩
end Go.Proofs.YtbgdmlekhobjdaaGreat
