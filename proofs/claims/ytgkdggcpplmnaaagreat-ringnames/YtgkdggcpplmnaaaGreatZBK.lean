/- THE ITERATOR round a ring. Own work of the verifier. -/
import Derived.Test.YtgkdggcpplmnaaaGreatZBJ
namespace Go.Proofs.YtgkdggcpplmnaaaGreat.Ri
open Go.RowKit Go.Shelf Me

attribute [local go_sem] Oper.semAt_some
theorem seq_lt {P : Program} {l : Nat} {args : Array Value} {m n0 B : Nat} {W : World} {J Jx : World → Prop} (h : YieldAt Fence.wide m P l args W fun e W' => (e = .returned (.bool true) ∧ Mid n0 B W W' ∧ J W') ∨ (e = .returned (.bool false) ∧ MidX n0 B l W W' ∧ Jx W')) :
    YieldAt Fence.wide m P l args W fun e W' => ∃ c : Bool, e = .returned (.bool c) ∧ Hid ((c = true → Mid n0 B W W' ∧ J W') ∧ (c = false → Jx W')) := h.mono (by
  rintro e w (⟨rfl, h1, h2⟩ | ⟨rfl, -, h3⟩)
  · exact ⟨true, rfl, fun _ => ⟨h1, h2⟩, fun k => by cases k⟩
  · exact ⟨false, rfl, (fun k => by cases k), fun _ => h3⟩)
set_option maxRecDepth 100000 in
set_option maxHeartbeats 4000000 in
theorem all_seq (m Bx n0 B b k tg tc sg sc : Nat) (T : List Int) (R : List Rs) (ta sa : Option Addr) (w : World) (hBx : w.cell? ⟨Bx, 0, none⟩ = some (.pointer (some ⟨b, 0, none⟩))) (hB : B ≤ Bx) (hn : n0 ≤ B) (hR : ∀ W, Below n0 w W → Rw b T R k tg tc sg sc ta sa W) :
    SeqX Tryz.prog m 38 #[.pointer (some ⟨Bx, 0, none⟩)] n0 B R.length (encR T R k) w := by
  intro l J Jx W hWb hsz hl hlW hJ hJx hY h0
  have hBlt : Bx < w.heap.size := World.block_lt_of_cell? w _ hBx
  have hBs1 : W.cell? ⟨Bx, 0, none⟩ = some (.pointer (some ⟨b, 0, none⟩)) := (hWb.cell (p := ⟨Bx, 0, none⟩) hBlt).trans hBx
  have HR := hid_of hR
  have HW0 : Hid (Below n0 w W) := hWb.mono (by omega)
  have HN : Hid (n0 ≤ w.heap.size ∧ Bx < w.heap.size ∧ B ≤ Bx) := ⟨by omega, hBlt, hB⟩
  have HL : Hid (∀ W, W.cell? ⟨b, 1, none⟩ = some (.slice ta R.length tc) → CallsIn Fence.wide (m - 1) Tryz.prog 10 #[.pointer (some ⟨b, 0, none⟩)] W fun e w' => e = .returned (.int .i64 (R.length : Int)) ∧ w' = W) := fun W h => callsIn_wide.2 (len_any b R.length tc ta W h)
  have HP : Hid (∀ W i, Below n0 w W → i < R.length → CallsIn Fence.wide (m - 1) Tryz.prog 23 #[.pointer (some ⟨b, 0, none⟩), .int .i64 (i : Int)] W fun e w' => e = .returned (.int .i64 (plc k i R.length : Nat)) ∧ Below W.heap.size W w') := fun W i h hi => callsIn_wide.2 ((hR W h).pl (by omega) i (by have := (hR W h).hm; omega))
  have hm256 : R.length ≤ 256 := (hR W HW0.out).hm
  have hmo : Tryz.prog.follows .mixedOrders = true := by kernel_rfl
  clear hBx hR
  have r1 := (HR.out W HW0.out).c1
  refine callsIn_of_wp Tryz.func38 rfl trivial ?_ rfl
  simp only [Tryz.ntmps38, List.size_toArray, List.length_cons, List.length_nil, Nat.reduceAdd, Nat.reduceSub, Array.replicate_succ, Array.replicate_zero, List.push_toArray, List.append_toArray, List.nil_append, List.cons_append]
  gi_wp2_with (refine ⟨trivial, (fun h => by simp [Fence.wide] at h), ?_⟩; gi_at_call 10; refine (HL.out _ r1).mono ?_; rintro e W ⟨rfl, rfl⟩)
  have HX : Hid (W.cell? ⟨Bx, 0, none⟩ = some (.pointer (some ⟨b, 0, none⟩))) := hBs1
  clear r1 hBs1
  gi_loopw [7] (fun i wr => ∃ j : Nat, j ≤ R.length ∧ i = .int .i64 j ∧ J j wr ∧ Hid (Below n0 w wr) ∧ Hid (wr.heap[Bx]? = W.heap[Bx]?) ∧ Hid (W.heap.size ≤ wr.heap.size))
    (fun i _ => R.length - (intOf i).toNat)
  case atStart => exact ⟨0, Nat.zero_le _, rfl, h0, HW0, rfl, Nat.le_refl _⟩
  case round =>
    obtain ⟨j, hj, rfl, hJs, HBw, HBx, HSz⟩ := hrel
    by_cases hlt : j < R.length
    · have hlt' : (j : Int) < (R.length : Int) := by omega
      have q0 : wr.cell? ⟨Bx, 0, none⟩ = some (.pointer (some ⟨b, 0, none⟩)) := by
        unfold World.cell? at HX ⊢
        rw [HBx.out]
        exact HX.out
      obtain ⟨p, hp⟩ : ∃ p, plc k j R.length = p := ⟨_, rfl⟩
      have HPj : Hid (∀ W, Below n0 w W → CallsIn Fence.wide (m - 1) Tryz.prog 23 #[.pointer (some ⟨b, 0, none⟩), .int .i64 (j : Int)] W fun e w' => e = .returned (.int .i64 (p : Int)) ∧ Below W.heap.size W w') := fun W h => by
        rw [← hp]
        exact HP.out W j h hlt
      gi_upto_region 4 with (refine ⟨trivial, (fun h => by simp [Fence.wide] at h), ?_⟩; gi_at_call 23; refine (HPj.out _ HBw.out).mono ?_; rintro e w1 ⟨rfl, hb1⟩)
      have HB1 : Hid (Below n0 w w1) := HBw.out.trans (hb1.mono (by have := HN.out.1; have := HSz.out; have := HW0.out.size; omega))
      have HK1 := hid_of hb1
      have HBx1 : Hid (w1.heap[Bx]? = W.heap[Bx]?) := (hb1.block _ (by have := HN.out.2.1; have := HSz.out; have := HW0.out.size; omega)).trans HBx.out
      have HS1 : Hid (W.heap.size ≤ w1.heap.size) := Nat.le_trans HSz.out hb1.size
      have q1 : w1.cell? ⟨Bx, 0, none⟩ = some (.pointer (some ⟨b, 0, none⟩)) := cellB hb1 q0
      have HRw := hid_of (HR.out w1 HB1.out)
      have hpl : p < R.length := by rw [← hp]; exact Nat.mod_lt _ (by omega)
      have hpt : p < T.length := by rw [HRw.out.hl]; exact hpl
      have HE : Hid (YieldAt Fence.wide (m - 1) Tryz.prog l #[.int .i64 T[p], .agg #[.int .i64 R[p].1.p, R[p].2, .int .u64 (R[p].1.r : Int)]] w1.drew fun e W' => ∃ c : Bool, e = .returned (.bool c) ∧ Hid ((c = true → Mid n0 B w1.drew W' ∧ J (j + 1) W') ∧ (c = false → Jx (j + 1) W'))) := by
        have := seq_lt (hY j w1.drew hlt (hJ _ _ _ hJs (Tn.of (bt hb1 (drew_bel1 w1)))))
        unfold encR at this
        rw [hp] at this
        simp only [List.getD, List.getElem?_eq_getElem hpt, List.getElem?_eq_getElem hpl, Option.getD_some] at this
        exact this
      obtain ⟨e1, e2⟩ := HRw.out.ho (by omega)
      subst e1 e2
      have x1 := HRw.out.c1
      have x2 := HRw.out.c2
      have x3 := HRw.out.t p hpt
      obtain ⟨x4, x5, x6⟩ := HRw.out.s p hpl
      have i1 := index_tm tg R.length tc p (p : Int) rfl hpl
      have i2 := index_sn sg R.length sc p (p : Int) rfl hpl
      clear hb1 hJs
      generalize T[p] = tx at *
      generalize R[p] = rx at *
      obtain ⟨fn, tmps, assign, body, hy, hRd⟩ := HE.out
      clear HE q0
      gi_region_with_o (refine ⟨fun h => by simp [Fence.wide] at h, hRd.mono ?_⟩; rintro e W4 ⟨c, rfl, HQ⟩)
      all_goals
        cases c with
        | true =>
          obtain ⟨hM, hJ4⟩ := HQ.out.1 rfl
          have HM := hid_of hM
          clear hM HQ
          gi_wp2
          go_roundw
          case rel =>
            have z1 := HN.out
            have z2 := HW0.out.size
            have z3 := HS1.out
            have z4 := HM.out.size
            refine ⟨j + 1, by omega, by simp, hJ4, HB1.out.drew.trans (HM.out.toBelow (Nat.le_trans z1.1 (Nat.le_trans z2 z3))), ?_, Nat.le_trans z3 z4⟩
            exact (HM.out.block Bx (Nat.lt_of_lt_of_le (Nat.lt_of_lt_of_le z1.2.1 z2) z3) (by omega)).trans HBx1.out
          case measure => simp [intOf]; omega
        | false =>
          have hJ4 := HQ.out.2 rfl
          clear HQ
          gi_wp2
          refine bodyPost_ret (results_none rfl _ _ _) rfl ?_
          exact ⟨⟨_, rfl⟩, .inr ⟨j + 1, by omega, hJ4⟩⟩
    · obtain rfl : j = R.length := by omega
      have hlt' : ¬ (R.length : Int) < (R.length : Int) := by omega
      gi_wp2
      go_end0
      exact ⟨⟨_, rfl⟩, .inl hJs⟩
end Go.Proofs.YtgkdggcpplmnaaaGreat.Ri
