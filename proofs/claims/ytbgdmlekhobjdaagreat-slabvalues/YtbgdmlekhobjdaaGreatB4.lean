/- THE BOOK: stays. Own work of the verifier. -/
import Derived.Test.YtbgdmlekhobjdaaGreatB3
import Derived.BigQuiet
namespace Go.Proofs.YtbgdmlekhobjdaaGreat
open Go.RowKit

theorem cellB {W W' : World} {a : Addr} {u : Value} (hb : Below W.heap.size W W') (h : W.cell? a = some u) : W'.cell? a = some u := (hb.cell (p := a) (World.block_lt_of_cell? W a h)).trans h
theorem bel_drewNB {B : Nat} {a w : World} (h : Below B a w) (n : Nat) : Below B a (w.drewN n) := by
  induction n with
  | zero => exact h
  | succ n ih => exact ⟨ih.os, ih.tape, ih.output, ih.size, ih.block⟩
/-- A row of lists, one of them read. -/
theorem rowL_one {W : World} {B g cap : Nat} {xs : List Value} (h : W.ownsRow B 25 1 (.slice (some ⟨g, 0, none⟩) xs.length cap) xs.length xs) (j : Nat) (hj : j < xs.length) : W.cell? ⟨g, j, none⟩ = some xs[j] := by
  rw [h.cellAt j (by omega)]
  exact List.getElem?_eq_getElem _
theorem rc_cells {W : World} {B g n cap k : Nat} {m : Cn} (h : OwnC B (.slice (some ⟨g, 0, none⟩) n cap) (rc n m) W) (hk : k < n) : W.cell? ⟨g, k * 2, none⟩ = some (.int .i64 m.1) ∧ W.cell? ⟨g, k * 2 + 1, none⟩ = some (.int .u64 (m.2 : Int)) := by
  have h' : W.ownsRow B 45 2 (.slice (some ⟨g, 0, none⟩) n cap) n (fl (rc n m)) := by have := h; unfold OwnC at this; rw [rc_len] at this; exact this
  obtain ⟨g1, g2⟩ := fl_get (rc n m) k (by rw [rc_len]; exact hk)
  have e : (rc n m)[k]'(by rw [rc_len]; exact hk) = m := by simp [rc]
  rw [e] at g1 g2
  rw [h'.cellAt (k * 2) (by omega), h'.cellAt (k * 2 + 1) (by omega)]
  exact ⟨g1, g2⟩
theorem OwnC.form {W : World} {B n : Nat} {v : Value} {m : Cn} (h : OwnC B v (rc n m) W) : ∃ ao g cap, v = .slice ao n cap ∧ (0 < n → ao = some ⟨g, 0, none⟩) := by
  have h' : W.ownsRow B 45 2 v n (fl (rc n m)) := by have := h; unfold OwnC at this; rw [rc_len] at this; exact this
  exact own_slice h'
set_option maxRecDepth 10000 in
set_option maxHeartbeats 4000000 in
theorem stays_any (B p : Nat) (L : List (Value × Value × Nat)) (vl vg : Value) (n : Nat) (w : World) (h : BK B p L vl vg n w) (hL : L.length ≤ 1000) (hk : ∀ e ∈ L, e.2.2 ≤ 1048576) :
    Calls Tryz.prog 14 #[.pointer (some ⟨p, 0, none⟩)] w fun e w' => e = .returned (.bool true) ∧ Below w.heap.size w w' := by
  obtain ⟨al, b1, cl, rfl, hal⟩ := own_slice h.rl
  obtain ⟨ag, b2, cg, rfl, hag⟩ := own_slice h.rg
  have HBK : Hid (BK B p L (.slice al L.length cl) (.slice ag L.length cg) n w) := h
  have HK : Hid (∀ e ∈ L, e.2.2 ≤ 1048576) := hk
  clear h hk
  generalize hc : L.length = c at *
  have HC : Hid (L.length = c) := hc
  clear hc
  go_enter Tryz.func14, Tryz.ntmps14
  go_upto_region 2 with fail
  go_loopw [3] (fun x W => ∃ (j : Nat), j ≤ c ∧ x = .int .i64 (j : Int) ∧ Hid (Below w.heap.size w W)) (fun x _ => c - (intOf x).toNat)
  case atStart => exact ⟨0, by omega, rfl, Below.refl _ _⟩
  case round =>
    obtain ⟨j, hj, rfl, HB⟩ := hrel
    have HBr := hid_ofB (HBK.out.below HB.out)
    obtain ⟨k0, k1, k2, k3, kf⟩ := four_cells HBr.out.blk
    by_cases hlt : j < c
    · have hlt' : (j : Int) < (c : Int) := by omega
      obtain rfl := hal (by omega)
      obtain rfl := hag (by omega)
      have hjL : j < L.length := by rw [HC.out]; exact hlt
      have HO := hid_ofB (HBr.out.own j hjL)
      have HG := hid_ofB (HBr.out.grw j hjL)
      have hkj := HK.out L[j] (List.getElem_mem hjL)
      have r1 := rowL_one (xs := L.map (·.1)) (by rw [List.length_map, HC.out]; have := HBr.out.rl; rw [HC.out] at this; exact this) j (by rw [List.length_map]; exact hjL)
      have r2 := rowL_one (xs := L.map (·.2.1)) (by rw [List.length_map, HC.out]; have := HBr.out.rg; rw [HC.out] at this; exact this) j (by rw [List.length_map]; exact hjL)
      rw [List.getElem_map] at r1 r2
      generalize L[j] = ent at HO HG hkj r1 r2
      obtain ⟨v1, v2, m⟩ := ent
      simp only at HO HG hkj r1 r2
      obtain ⟨ao, ob, oc, rfl, hao⟩ := HO.out.form
      obtain ⟨gg, gb, gc, rfl, hgg⟩ := HG.out.form
      have hgg := hgg (by omega)
      subst hgg
      have hwr : IntKind.i64.wrap (-1 - (j : Int)) = -1 - (j : Int) := by rw [IntKind.wrap_i64]; omega
      clear HBr HBK HK
      go_upto_region 5 with fail
      generalize hw1 : wr.alloc (.cells #[.int .i64 (-1 - (j : Int)), .int .u64 0] 45) = w1
      have hb1 : Below wr.heap.size wr w1 := by rw [← hw1]; exact bel1 _ _
      have HX0 : Hid (w1.cell? ⟨wr.heap.size, 0, none⟩ = some (.int .i64 (-1 - (j : Int)))) := by rw [← hw1]; unfold Hid; simp [go_sem]
      have HX1 : Hid (w1.cell? ⟨wr.heap.size, 1, none⟩ = some (.int .u64 0)) := by rw [← hw1]; unfold Hid; simp [go_sem]
      have HK0 := hid_ofB (cellB hb1 k0)
      have HK1 := hid_ofB (cellB hb1 k1)
      have HR1 := hid_ofB (cellB hb1 r1)
      have HR2 := hid_ofB (cellB hb1 r2)
      have HO1 := hid_ofB (HO.out.bel hb1)
      have HG1 := hid_ofB (HG.out.bel hb1)
      have HBw := hid_ofB (bt HB.out hb1)
      clear hw1 hb1 k0 k1 k2 k3 kf r1 r2 HO HG HB
      generalize wr.heap.size = q0 at *
      go_upto_region 6 with fail
      go_loopw [5] (fun x W => ∃ (i : Nat), i ≤ m + 30 ∧ x = .int .i64 (i : Int) ∧ Hid (Below w1.heap.size w1 W)) (fun x _ => m + 30 - (intOf x).toNat)
      case atStart => exact ⟨0, by omega, rfl, Below.refl _ _⟩
      case round =>
        obtain ⟨i, hi, rfl, HBi⟩ := hrel
        have k0 := cellB HBi.out HK0.out
        have k1 := cellB HBi.out HK1.out
        have r1 := cellB HBi.out HR1.out
        have r2 := cellB HBi.out HR2.out
        by_cases hil : i < m + 30
        · have hil' : (i : Int) < ((m + 30 : Nat) : Int) := by omega
          have x0 := cellB HBi.out HX0.out
          have x1 := cellB HBi.out HX1.out
          obtain ⟨g0, g1⟩ := rc_cells (HG1.out.bel HBi.out) hil
          by_cases him : i < m
          · have him' : (i : Int) < (m : Int) := by omega
            obtain rfl := hao (by omega)
            obtain ⟨o0, o1⟩ := rc_cells (HO1.out.bel HBi.out) him
            simp only [Mk] at g0 g1 o0 o1
            go_upto_region 8 with fail
            go_quiet (fail)
            go_wp2_with fail
            exact ⟨⟨i + 1, by omega, by go_num, bel_drewNB HBi.out nq⟩, by simp [intOf]; omega⟩
          · have him' : ¬ (i : Int) < (m : Int) := by omega
            simp only [Mk] at g0 g1
            go_upto_region 8 with fail
            go_quiet (fail)
            go_wp2_with fail
            exact ⟨⟨i + 1, by omega, by go_num, bel_drewNB HBi.out nq⟩, by simp [intOf]; omega⟩
        · have hil' : ¬ (i : Int) < ((m + 30 : Nat) : Int) := by omega
          go_wp2_with fail
          exact ⟨⟨j + 1, by omega, by go_num, bt HBw.out HBi.out⟩, by simp [intOf]; omega⟩
    · have hlt' : ¬ (j : Int) < (c : Int) := by omega
      have HB1 := HB
      clear HBr hal hag
      go_wp2_with fail
      go_ret
      exact ⟨rfl, HB1.out⟩
end Go.Proofs.YtbgdmlekhobjdaaGreat
