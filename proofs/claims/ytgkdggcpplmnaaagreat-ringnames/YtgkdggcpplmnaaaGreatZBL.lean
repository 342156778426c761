/- THE ITERATOR over those of a window. Own work of the verifier. -/
import Derived.Test.YtgkdggcpplmnaaaGreatZBK
import Derived.Test.YtgkdggcpplmnaaaGreatZAN
namespace Go.Proofs.YtgkdggcpplmnaaaGreat.Ri
open Go.RowKit Go.Shelf Me

attribute [local go_sem] Oper.semAt_some
/-- Is the i-th in the window? -/
def inW (T : List Int) (k N : Nat) (fr tO : Int) (i : Nat) : Bool := decide (fr < T.getD (plc k i N) 0) && decide (T.getD (plc k i N) 0 ≤ tO)
/-- Those of a window, the oldest first. -/
def wL (T : List Int) (R : List Rs) (k : Nat) (fr tO : Int) : List Rs := ((List.range R.length).filter (inW T k R.length fr tO)).map fun i => R.getD (plc k i R.length) dR
def encB (T : List Int) (R : List Rs) (k : Nat) (fr tO : Int) (j : Nat) : Array Value := #[sx ((wL T R k fr tO).getD j dR)]
def cnt (T : List Int) (N k : Nat) (fr tO : Int) (i : Nat) : Nat := ((List.range i).filter (inW T k N fr tO)).length
theorem cnt_all (T : List Int) (R : List Rs) (k : Nat) (fr tO : Int) : cnt T R.length k fr tO R.length = (wL T R k fr tO).length := by unfold cnt wL; rw [List.length_map]
theorem wL_at {T : List Int} {R : List Rs} {k : Nat} {fr tO : Int} {i : Nat} (hi : i < R.length) (h : inW T k R.length fr tO i = true) : (wL T R k fr tO).getD (cnt T R.length k fr tO i) dR = R.getD (plc k i R.length) dR := by
  unfold wL cnt
  rw [List.getD, List.getElem?_map, filt_at _ _ _ hi h]
  rfl
theorem cnt_lt {T : List Int} {R : List Rs} {k : Nat} {fr tO : Int} {i : Nat} (hi : i < R.length) (h : inW T k R.length fr tO i = true) : cnt T R.length k fr tO i < (wL T R k fr tO).length := by
  rw [← cnt_all]
  exact filt_lt _ _ _ hi h
set_option maxHeartbeats 1000000 in
theorem all_in (m b : Nat) (w : World) : CallsIn Fence.wide m Tryz.prog 25 #[.pointer (some ⟨b, 0, none⟩)] w fun e w' => e = .returned (.func (.func 38) #[] #[.pointer (some ⟨w.heap.size, 0, none⟩)]) ∧ w' = w.alloc (.cells #[.pointer (some ⟨b, 0, none⟩)] 23) := by
  refine callsIn_of_wp Tryz.func25 rfl trivial ?_ rfl
  simp only [Tryz.ntmps25, List.size_toArray, List.length_cons, List.length_nil, Nat.reduceAdd, Nat.reduceSub, Array.replicate_succ, Array.replicate_zero, List.push_toArray, List.append_toArray, List.nil_append, List.cons_append]
  gi_wp2
  go_ret
  exact ⟨rfl, rfl⟩
theorem yield_bool {P : Program} {l : Nat} {args : Array Value} {m m' l' n0 B : Nat} {W : World} {J Jx : World → Prop} (h : YieldAt Fence.wide m P l args W fun e W' => (e = .returned (.bool true) ∧ Mid n0 B W W' ∧ J W') ∨ (e = .returned (.bool false) ∧ MidX n0 B l W W' ∧ Jx W')) :
    YieldAt (Fence.wide.inRound l') m' P l args W fun e W' => ∃ c : Bool, e = .returned (.bool c) ∧ Hid ((c = true → Mid n0 B W W' ∧ J W') ∧ (c = false → MidX n0 B l W W' ∧ Jx W')) := (yield_any h).mono (by
  rintro e w (⟨rfl, h1, h2⟩ | ⟨rfl, h3, h4⟩)
  · exact ⟨true, rfl, fun _ => ⟨h1, h2⟩, fun k => by cases k⟩
  · exact ⟨false, rfl, (fun k => by cases k), fun _ => ⟨h3, h4⟩⟩)
/-- What the window's iterator holds between two rounds. -/
structure Bw (l Bf Bt By : Nat) (fr tO : Int) (W : World) : Prop where
  f : W.cell? ⟨Bf, 0, none⟩ = some (.int .i64 fr)
  t : W.cell? ⟨Bt, 0, none⟩ = some (.int .i64 tO)
  y : W.cell? ⟨By, 0, none⟩ = some (.func (.yield l) #[] #[])
theorem Tn.cell {B : Nat} {a : Addr} {W W1 : World} {u : Value} (h : Tn B W W1) (e : W.cell? a = some u) : W1.cell? a = some u := by
  unfold World.cell? at e ⊢
  generalize hq : W.heap[a.block]? = q at e
  match q, e with
  | some (.cells c t z), e => rw [h.cells hq]; exact e
theorem Bw.tn {l Bf Bt By B : Nat} {fr tO : Int} {W W1 : World} (h : Bw l Bf Bt By fr tO W) (hb : Tn B W W1) : Bw l Bf Bt By fr tO W1 := ⟨hb.cell h.f, hb.cell h.t, hb.cell h.y⟩
theorem cell_of_heap {W W1 : World} {b : Nat} (h : W1.heap[b]? = W.heap[b]?) (i : Nat) : W1.cell? ⟨b, i, none⟩ = W.cell? ⟨b, i, none⟩ := by unfold World.cell?; rw [h]
theorem Bw.mid {l Bf Bt By n0 B : Nat} {fr tO : Int} {W W1 : World} (h : Bw l Bf Bt By fr tO W) (hb : Mid n0 B W W1) (h1 : B ≤ Bf) (h2 : B ≤ Bt) (h3 : B ≤ By) : Bw l Bf Bt By fr tO W1 :=
  ⟨(cell_of_heap (hb.block Bf (World.block_lt_of_cell? W _ h.f) (by omega)) 0).trans h.f, (cell_of_heap (hb.block Bt (World.block_lt_of_cell? W _ h.t) (by omega)) 0).trans h.t, (cell_of_heap (hb.block By (World.block_lt_of_cell? W _ h.y) (by omega)) 0).trans h.y⟩
theorem three_cells0 {W : World} {b : Nat} {x y z : Value} {t : TypeId} (h : W.heap[b]? = some (.cells #[x, y, z] t (0, 0))) : W.cell? ⟨b, 0, none⟩ = some x ∧ W.cell? ⟨b, 1, none⟩ = some y ∧ W.cell? ⟨b, 2, none⟩ = some z ∧ W.frozen? ⟨b, 0, none⟩ = false ∧ W.frozen? ⟨b, 1, none⟩ = false ∧ W.frozen? ⟨b, 2, none⟩ = false :=
  ⟨by simp [World.cell?, h], by simp [World.cell?, h], by simp [World.cell?, h], by simp [World.frozen?, h], by simp [World.frozen?, h], by simp [World.frozen?, h]⟩
set_option maxRecDepth 100000 in
set_option maxHeartbeats 4000000 in
theorem between_seq (m Br Bf Bt n0 B b k tg tc sg sc : Nat) (T : List Int) (R : List Rs) (ta sa : Option Addr) (fr tO : Int) (w : World) (h1 : w.cell? ⟨Br, 0, none⟩ = some (.pointer (some ⟨b, 0, none⟩))) (h2 : w.cell? ⟨Bf, 0, none⟩ = some (.int .i64 fr)) (h3 : w.cell? ⟨Bt, 0, none⟩ = some (.int .i64 tO)) (hBr : B ≤ Br) (hBf : B ≤ Bf) (hBt : B ≤ Bt) (hn : n0 ≤ B) (hR : ∀ W, Below n0 w W → Rw b T R k tg tc sg sc ta sa W) :
    SeqX Tryz.prog m 27 #[.pointer (some ⟨Br, 0, none⟩), .pointer (some ⟨Bf, 0, none⟩), .pointer (some ⟨Bt, 0, none⟩)] n0 B (wL T R k fr tO).length (encB T R k fr tO) w := by
  intro l J Jx W hWb hsz hl hlW hJ hJx hY h0
  have z1 : Br < w.heap.size := World.block_lt_of_cell? w _ h1
  have z2 : Bf < w.heap.size := World.block_lt_of_cell? w _ h2
  have z3 : Bt < w.heap.size := World.block_lt_of_cell? w _ h3
  have g1 : W.cell? ⟨Br, 0, none⟩ = some (.pointer (some ⟨b, 0, none⟩)) := cellB hWb h1
  have g2 : W.cell? ⟨Bf, 0, none⟩ = some (.int .i64 fr) := cellB hWb h2
  have g3 : W.cell? ⟨Bt, 0, none⟩ = some (.int .i64 tO) := cellB hWb h3
  have HR := hid_of hR
  have HA : Hid (∀ W, _) := all_in (m - 1) b
  clear h1 h2 h3
  have g1' := cellB (bel1 W (.cells #[.func (.yield l) #[] #[]] 54)) g1
  refine callsIn_of_wp_marks Tryz.func27 rfl trivial ?_ rfl
  simp only [Tryz.ntmps27, List.size_toArray, List.length_cons, List.length_nil, Nat.reduceAdd, Nat.reduceSub, Array.replicate_succ, Array.replicate_zero, List.push_toArray, List.append_toArray, List.nil_append, List.cons_append]
  gi_wp2_with (refine ⟨trivial, (fun h => by simp [Fence.wide] at h), ?_⟩; gi_at_call 25; refine (HA.out _).mono ?_; rintro e w' ⟨rfl, rfl⟩)
  have HBl := hid_of (bt (bel1 W (.cells #[.func (.yield l) #[] #[]] 54)) (bel1 _ (.cells #[.pointer (some ⟨b, 0, none⟩)] 23)))
  have n1 := new_1 W (.cells #[.func (.yield l) #[] #[]] 54)
  have n2 := new_1 (W.alloc (.cells #[.func (.yield l) #[] #[]] 54)) (.cells #[.pointer (some ⟨b, 0, none⟩)] 23)
  have n1' := hkN n1 (bel1 _ (.cells #[.pointer (some ⟨b, 0, none⟩)] 23))
  have hs2 : ((W.alloc (.cells #[.func (.yield l) #[] #[]] 54)).alloc (.cells #[.pointer (some ⟨b, 0, none⟩)] 23)).heap.size = W.heap.size + 2 := by simp
  rw [show (W.alloc (.cells #[.func (.yield l) #[] #[]] 54)).heap.size = W.heap.size + 1 by simp] at n2
  obtain ⟨W0, hW0⟩ : ∃ W0, (W.alloc (.cells #[.func (.yield l) #[] #[]] 54)).alloc (.cells #[.pointer (some ⟨b, 0, none⟩)] 23) = W0 := ⟨_, rfl⟩
  rw [hW0] at HBl n1' n2 hs2 ⊢
  clear hW0 n1 g1'
  have HW : Hid (Bw l Bf Bt W.heap.size fr tO W0) := ⟨cellB HBl.out g2, cellB HBl.out g3, by simp [World.cell?, n1']⟩
  have HZ : Hid (n0 ≤ w.heap.size ∧ w.heap.size ≤ W.heap.size ∧ W0.heap.size = W.heap.size + 2 ∧ w.heap.size ≤ l ∧ l < W.heap.size ∧ B ≤ l ∧ n0 ≤ l ∧ Bf < W.heap.size ∧ Bt < W.heap.size) := ⟨by omega, hsz, hs2, hl, hlW, by omega, by omega, by omega, by omega⟩
  refine wpIn_rangeFunc_seqX (gf := 38) (lb := #[.pointer (some ⟨W.heap.size + 1, 0, none⟩)]) (n0 := n0) (B := l + 1) (N := R.length) (encs := encR T R k) rfl (enters_of Tryz.func38 (by kernel_rfl) rfl) (by omega)
    (all_seq (m - 1) (W.heap.size + 1) n0 (l + 1) b k tg tc sg sc T R ta sa W0 (by simp [World.cell?, n2]) (by omega) (by omega) (fun W1 hb => hR W1 (((hWb.mono (by omega)).trans (HBl.out.mono (by omega))).trans hb))) (fun _ => rfl)
    (fun i W1 => J (cnt T R.length k fr tO i) W1 ∧ Hid (Bw l Bf Bt W.heap.size fr tO W1)) (fun c i W1 => c = .ret ∧ ∃ j, j ≤ (wL T R k fr tO).length ∧ Jx j W1)
    (fun i A A' h hb => ⟨hJ _ _ _ h.1 (hb.mono (by omega)), h.2.out.tn hb⟩) (fun c i A A' h hb => ⟨h.1, h.2.imp fun j q => ⟨q.1, hJx _ _ _ q.2 (hb.mono (by omega))⟩⟩) ⟨hJ _ _ _ h0 (Tn.of HBl.out), HW⟩ ?round ?done ?stop
  case round =>
    clear n1' n2 HW g1 g2 g3
    rintro l' i W1 hi hl1 hl2 ⟨hJi, HBw⟩
    unfold encR
    have HYi : Hid (inW T k R.length fr tO i = true → ∀ W2, J (cnt T R.length k fr tO i) W2 → YieldAt (Fence.wide.inRound l') (m - 1 - 1 - 1) Tryz.prog l #[sx (R.getD (plc k i R.length) dR)] W2 fun e W' => ∃ c : Bool, e = .returned (.bool c) ∧ Hid ((c = true → Mid n0 B W2 W' ∧ J (cnt T R.length k fr tO i + 1) W') ∧ (c = false → MidX n0 B l W2 W' ∧ Jx (cnt T R.length k fr tO i + 1) W'))) := fun hin W2 hj => by
      have := yield_bool (l' := l') (m' := m - 1 - 1 - 1) (hY _ W2 (cnt_lt hi hin) hj)
      unfold encB at this
      rw [wL_at hi hin] at this
      exact this
    have HCl : Hid (inW T k R.length fr tO i = true → cnt T R.length k fr tO i < (wL T R k fr tO).length) := fun h => cnt_lt hi h
    have HCy : Hid (inW T k R.length fr tO i = true → cnt T R.length k fr tO (i + 1) = cnt T R.length k fr tO i + 1) := fun h => filt_yes _ _ h
    have HCn : Hid (inW T k R.length fr tO i = false → cnt T R.length k fr tO (i + 1) = cnt T R.length k fr tO i) := fun h => filt_no _ _ h
    have hin : inW T k R.length fr tO i = (decide (fr < T.getD (plc k i R.length) 0) && decide (T.getD (plc k i R.length) 0 ≤ tO)) := rfl
    obtain ⟨ra, rn, rc, hrs⟩ := (hR w (Below.refl _ _)).slD (plc k i R.length)
    generalize T.getD (plc k i R.length) 0 = x at *
    generalize R.getD (plc k i R.length) dR = r at *
    obtain ⟨rs, rv⟩ := r
    dsimp only at hrs HYi
    subst hrs
    generalize cnt T R.length k fr tO i = c0 at *
    generalize inW T k R.length fr tO i = qin at *
    clear hY
    gi_wp2
    refine ⟨(Below.refl _ _).alloc (Nat.le_refl _) _, ?_⟩
    rintro W2 ⟨hJ2, HB2⟩ hs2 hot
    have hnb := (hot W1.heap.size (by omega)).trans (World.alloc_heap_new W1 _)
    obtain ⟨v0, v1, v2, -, -, -⟩ := three_cells0 hnb
    have f1 := HB2.out.f
    have f2 := HB2.out.t
    have f3 := HB2.out.y
    have HS2 : Hid (W1.heap.size < W2.heap.size) := (Array.getElem?_eq_some_iff.1 hnb).1
    clear hnb hot hs2
    by_cases q1 : fr < x
    · by_cases q2 : x ≤ tO
      · have hq : qin = true := by rw [hin]; simp [q1, q2]
        subst hq
        obtain ⟨fn, tmps, assign, body, hy, hRd⟩ := HYi.out rfl W2 hJ2
        clear hin
        have HCl' := hid_of (HCl.out rfl)
        have HCy' := hid_of (HCy.out rfl)
        clear HCl HCy HCn HYi hJ2
        gi_wp2
        refine ⟨fun h => by simp [Fence.wide] at h, hRd.mono ?_⟩
        rintro e W4 ⟨c, rfl, HQ⟩
        cases c with
        | true =>
          obtain ⟨hM, hJ4⟩ := HQ.out.1 rfl
          clear HQ
          gi_wp2
          refine ⟨mid_wide hM (by have := HZ.out; omega), ?_⟩
          show J (cnt T R.length k fr tO (i + 1)) W4 ∧ _
          rw [HCy'.out]
          exact ⟨hJ4, HB2.out.mid hM hBf hBt (by have := HZ.out; omega)⟩
        | false =>
          obtain ⟨hM, hJ4⟩ := HQ.out.2 rfl
          clear HQ
          gi_wp2
          exact ⟨hM.mid (by have := HZ.out; omega) (by have := HZ.out; omega), rfl, c0 + 1, HCl'.out, hJ4⟩
      · have hq : qin = false := by rw [hin]; simp [q2]
        have hq2 : ¬ x ≤ tO := q2
        gi_wp2
        refine ⟨fun _ h => (by cases h), ?_⟩
        gi_wp2
        refine ⟨Mid.refl _ _ _, ?_⟩
        show J (cnt T R.length k fr tO (i + 1)) W2 ∧ _
        rw [HCn.out hq]
        exact ⟨hJ2, HB2⟩
    · have hq : qin = false := by rw [hin]; simp [q1]
      gi_wp2
      refine ⟨fun _ h => (by cases h), ?_⟩
      gi_wp2
      refine ⟨Mid.refl _ _ _, ?_⟩
      show J (cnt T R.length k fr tO (i + 1)) W2 ∧ _
      rw [HCn.out hq]
      exact ⟨hJ2, HB2⟩
  case done =>
    rintro D W1 hD ⟨hJi, -⟩ hK
    gi_wp2
    refine ⟨by simp, .inl ⟨_, _, rfl, run_takeDeferred hK, ?_⟩⟩
    refine ⟨_, results_none rfl _ _ _, ⟨_, rfl⟩, .inl ?_⟩
    rw [← cnt_all]
    exact hJ _ _ _ hJi (Tn.putD hK (by omega) _)
  case stop =>
    rintro D c i W1 hD hiN ⟨rfl, j, hj, hJj⟩ hK
    gi_wp2
    refine ⟨by simp, .inl ⟨_, _, rfl, run_takeDeferred hK, ?_⟩⟩
    refine ⟨_, results_none rfl _ _ _, ⟨_, rfl⟩, .inr ⟨j, hj, ?_⟩⟩
    exact hJx _ _ _ hJj (Tn.putD hK (by omega) _)
end Go.Proofs.YtgkdggcpplmnaaaGreat.Ri
