/- THE ITERATOR of the sums. Own work of the verifier. -/
import Derived.Test.YtckdkcnnfjbdmaaGreatZY1
import Derived.Test.YtckdkcnnfjbdmaaGreatZA1
import Derived.Test.YtckdkcnnfjbdmaaGreatZT
import Derived.Sort.CutIn
import Derived.Test.YtckdkcnnfjbdmaaGreatZA4
namespace Go.Proofs.YtckdkcnnfjbdmaaGreat
open Go.RowKit Go.Shelf

attribute [local go_sem] Oper.semAt_some

def sN (L : List Cn) (i : Nat) : Nat := sumN (L.take i)
/-- What a round is handed: the count, and the sum up to it. -/
def encS (L : List Cn) (i : Nat) : Array Value :=
  #[.agg #[.int .i64 (L.getD i (0, 0)).1, .int .u64 ((L.getD i (0, 0)).2 : Int)], .agg #[.int .i64 ((sN L (i + 1) / 18446744073709551616 : Nat) : Int), .int .u64 ((sN L (i + 1) % 18446744073709551616 : Nat) : Int)]]
theorem sN_le {L : List Cn} (hW : Wc L) (i : Nat) : sN L i ≤ 18446744073709551616 * i := by
  induction i with
  | zero => simp [sN, sumN]
  | succ i ih =>
    by_cases h : i < L.length
    · unfold sN at *; rw [sumN_take L i h]; have := (hW _ (List.getElem_mem h)).2.2; omega
    · unfold sN at *; rw [List.take_of_length_le (by omega)]; rw [List.take_of_length_le (by omega)] at ih; omega
theorem sN_succ {L : List Cn} {i : Nat} (h : i < L.length) : sN L (i + 1) = sN L i + (L.getD i (0, 0)).2 := by
  unfold sN; rw [sumN_take L i h]; simp [List.getD, h]

theorem cell_0 {W : World} {b : Nat} {u v : Value} {t : TypeId} (h : W.heap[b]? = some (.cells #[u, v] t (0, 0))) : W.cell? ⟨b, 0, none⟩ = some u := by simp [World.cell?, h]
theorem cell_1 {W : World} {b : Nat} {u v : Value} {t : TypeId} (h : W.heap[b]? = some (.cells #[u, v] t (0, 0))) : W.cell? ⟨b, 1, none⟩ = some v := by simp [World.cell?, h]
theorem froz_0 {W : World} {b : Nat} {u v : Value} {t : TypeId} (h : W.heap[b]? = some (.cells #[u, v] t (0, 0))) : W.frozen? ⟨b, 0, none⟩ = false := by simp [World.frozen?, h]
theorem froz_1 {W : World} {b : Nat} {u v : Value} {t : TypeId} (h : W.heap[b]? = some (.cells #[u, v] t (0, 0))) : W.frozen? ⟨b, 1, none⟩ = false := by simp [World.frozen?, h]
theorem keep_0 {W W' : World} {p : Addr} {v : Value} (hk : Below W.heap.size W W') (h : W.cell? p = some v) : W'.cell? p = some v := (hk.cell (lt_of_cell h)).trans h
theorem set_2 {W : World} {b : Nat} {u v : Value} {t : TypeId} (x y : Value) (h : W.heap[b]? = some (.cells #[u, v] t (0, 0))) : ((W.setCell ⟨b, 0, none⟩ x).setCell ⟨b, 1, none⟩ y).heap[b]? = some (.cells #[x, y] t (0, 0)) := by
  obtain ⟨hlt, hk⟩ := Array.getElem?_eq_some_iff.1 h
  have h1 : (W.setCell ⟨b, 0, none⟩ x).heap[b]? = some (.cells #[x, v] t (0, 0)) := by
    show (W.heap.modify b _)[b]? = _
    rw [Array.getElem?_eq_getElem (by rw [Array.size_modify]; exact hlt), Array.getElem_modify_self, hk]
    rfl
  obtain ⟨hlt1, hk1⟩ := Array.getElem?_eq_some_iff.1 h1
  show ((W.setCell ⟨b, 0, none⟩ x).heap.modify b _)[b]? = _
  rw [Array.getElem?_eq_getElem (by rw [Array.size_modify]; exact hlt1), Array.getElem_modify_self, hk1]
  rfl
theorem hid_keep {W W' : World} {b : Nat} {o : Obj} (hk : Below W.heap.size W W') (h : Hid (W.heap[b]? = some o)) : Hid (W'.heap[b]? = some o) := (hk.block b (Array.getElem?_eq_some_iff.1 h).1).trans h
set_option maxRecDepth 100000 in
set_option maxHeartbeats 4000000 in
theorem sums_seq (m Bs n0 B : Nat) (ao : Option Addr) (b o cap : Nat) (L : List Cn) (hao : L ≠ [] → ao = some ⟨b, o, none⟩) (hW : Wc L) (hl : L.length ≤ 8796093022208) (w : World) (hBs : w.cell? ⟨Bs, 0, none⟩ = some (.slice ao L.length cap)) (hB : B ≤ Bs) (hR : RowC w b o L) (hb : L ≠ [] → b < n0) (hn : n0 ≤ B) :
    Seq Tryz.prog m 135 #[.pointer (some ⟨Bs, 0, none⟩)] n0 B L.length (encS L) w := by
  intro l J Jx W hWb hsz hJ hJx hY h0
  have hBlt : Bs < w.heap.size := lt_of_cell hBs
  have hBs1 : W.cell? ⟨Bs, 0, none⟩ = some (.slice ao L.length cap) := (hWb.cell (p := ⟨Bs, 0, none⟩) hBlt).trans hBs
  have hR1 : RowC W b o L := hR.below hWb (fun k => by have := hb k; omega)
  have hal : Below W.heap.size W (W.alloc (.cells #[.int .i64 0, .int .u64 0] 41)) := (Below.refl _ _).alloc (Nat.le_refl _) _
  have hBs2 : (W.alloc (.cells #[.int .i64 0, .int .u64 0] 41)).cell? ⟨Bs, 0, none⟩ = some (.slice ao L.length cap) := (hal.cell (p := ⟨Bs, 0, none⟩) (by show Bs < _; omega)).trans hBs1
  have HL : Hid (∀ k, k ≠ 0 → k ≤ L.length → L ≠ []) := fun k h1 h2 e => by rw [e] at h2; simp at h2; omega
  have HN : Hid (n0 ≤ W.heap.size) := by unfold Hid; omega
  have HU : Hid (∀ (n : Nat) W, n < 18446744073709551616 → CallsIn Fence.wide (m - 1) Tryz.prog 109 #[.int .u64 (n : Int)] W fun e w' => e = .returned (.agg #[.int .i64 0, .int .u64 (n : Int)]) ∧ Below W.heap.size W w') := fun n W h => callsIn_wide.2 ((uns_any (n : Int) (by omega) (by omega) W).mono (by
    rintro e w' ⟨rfl, hb⟩
    refine ⟨?_, hb⟩
    unfold num hiOf loOf
    rw [show (n : Int) / 18446744073709551616 = 0 by omega, show (n : Int) % 18446744073709551616 = (n : Int) by omega]))
  have HA : Hid (∀ (s n : Nat) W, s + n < 18446744073709551616 * 17592186044416 → n < 18446744073709551616 → CallsIn Fence.wide (m - 1) Tryz.prog 122 #[.agg #[.int .i64 ((s / 18446744073709551616 : Nat) : Int), .int .u64 ((s % 18446744073709551616 : Nat) : Int)], .agg #[.int .i64 0, .int .u64 (n : Int)]] W fun e w' => e = .returned (.agg #[.int .i64 (((s + n) / 18446744073709551616 : Nat) : Int), .int .u64 (((s + n) % 18446744073709551616 : Nat) : Int)]) ∧ Below W.heap.size W w') := fun s n W h hn' => callsIn_wide.2 ((add_any _ _ _ _ ⟨by omega, by omega, by omega, by omega⟩ ⟨by omega, by omega, by omega, by omega⟩ W).mono (by
    rintro e w' ⟨rfl, hb⟩
    refine ⟨?_, hb⟩
    have ev : rnd (val ((s / 18446744073709551616 : Nat) : Int) ((s % 18446744073709551616 : Nat) : Int) + val 0 (n : Int)) = ((s + n : Nat) : Int) := by unfold rnd val; omega
    rw [ev]
    unfold num hiOf loOf
    rw [show ((s + n : Nat) : Int) / 18446744073709551616 = (((s + n) / 18446744073709551616 : Nat) : Int) by omega, show ((s + n : Nat) : Int) % 18446744073709551616 = (((s + n) % 18446744073709551616 : Nat) : Int) by omega]))
  refine callsIn_of_wp Tryz.func135 rfl trivial ?_ rfl
  simp only [Tryz.ntmps135, List.size_toArray, List.length_cons, List.length_nil, Nat.reduceAdd, Nat.reduceSub, Array.replicate_succ, Array.replicate_zero, List.push_toArray, List.append_toArray, List.nil_append, List.cons_append]
  have hnew : (W.alloc (.cells #[.int .i64 0, .int .u64 0] 41)).heap[W.heap.size]? = some (.cells #[.int .i64 0, .int .u64 0] 41 (0, 0)) := World.alloc_heap_new W _
  have HS0 : Hid (sN L 0 = 0) := rfl
  gi_wp2
  generalize hW1 : W.alloc (.cells #[.int .i64 0, .int .u64 0] 41) = W1 at *
  have HB1 : Hid (Below W.heap.size W W1) := hal
  have HC1 : Hid (W1.heap[W.heap.size]? = some (.cells #[.int .i64 0, .int .u64 0] 41 (0, 0))) := hnew
  clear hal hBs2 hW1 hnew
  gi_loopw [9] (fun i wr => ∃ k : Nat, k ≤ L.length ∧ i = .int .i64 k ∧ J k wr ∧ Hid (RowC wr b o L) ∧ Hid (wr.heap[W.heap.size]? = some (.cells #[.int .i64 ((sN L k / 18446744073709551616 : Nat) : Int), .int .u64 ((sN L k % 18446744073709551616 : Nat) : Int)] 41 (0, 0))))
    (fun i _ => L.length - (intOf i).toNat)
  case atStart => exact ⟨0, Nat.zero_le _, rfl, hJ _ _ _ h0 HB1.out, hR1.below HB1.out (fun k => by have := hb k; have := HN.out; omega), by rw [HS0.out]; exact HC1.out⟩
  case round =>
    obtain ⟨k, hk, rfl, hJs, HR, HC⟩ := hrel
    by_cases hlt : k < L.length
    · have hlt' : (k : Int) < (L.length : Int) := by omega
      obtain rfl := hao (by intro e; rw [e] at hlt; simp at hlt)
      obtain ⟨q1, q2⟩ := HR.out k hlt
      have hsz2 : W.heap.size < wr.heap.size := (Array.getElem?_eq_some_iff.1 HC.out).1
      have hx1 : L.getD k (0, 0) = L[k] := by simp [List.getD, hlt]
      have HSS : Hid (sN L (k + 1) = sN L k + (L.getD k (0, 0)).2) := sN_succ hlt
      have HE : Hid (∀ A : World, J k A → YieldAt Fence.wide (m - 1) Tryz.prog l (encS L k) A fun e W' => (e = .returned (.bool true) ∧ Mid n0 B A W' ∧ J (k + 1) W') ∨ (e = .returned (.bool false) ∧ Jx (k + 1) W')) := fun A hA => hY k A hlt hA
      have hy2 : L[k].2 < 18446744073709551616 := (hW _ (List.getElem_mem hlt)).2.2
      have hsk : sN L k ≤ 18446744073709551616 * 8796093022208 := by have := sN_le hW k; omega
      unfold encS at HE
      rw [HSS.out, hx1] at HE
      rw [hx1] at HSS
      have HBW : Hid (W.heap.size + 0 < wr.heap.size) := hsz2
      obtain ⟨x, y, hxy⟩ : ∃ x y, L[k] = (x, y) := ⟨_, _, rfl⟩
      rw [hxy] at q1 q2 HE HSS hy2
      clear hxy hx1 hY
      dsimp only at HE HSS hy2
      generalize sN L k = s at *
      have HCk : Hid (W.heap.size < wr.heap.size) := hsz2
      gi_upto_region 4 with fail
      have hbA : Below wr.heap.size wr (wr.alloc (.cells #[.int .i64 x, .int .u64 (y : Int)] 57)) := (Below.refl _ _).alloc (Nat.le_refl _) _
      have hnew : (wr.alloc (.cells #[.int .i64 x, .int .u64 (y : Int)] 57)).heap[wr.heap.size]? = some (.cells #[.int .i64 x, .int .u64 (y : Int)] 57 (0, 0)) := World.alloc_heap_new wr _
      have hsumA := (hbA.block W.heap.size hsz2).trans HC.out
      generalize hWA : wr.alloc (.cells #[.int .i64 x, .int .u64 (y : Int)] 57) = WA at *
      have HAB : Hid (Below wr.heap.size wr WA) := hbA
      clear hWA hbA q1 q2
      refine wpIn_wide.2 ?_
      have c1 : WA.cell? ⟨wr.heap.size, 1, none⟩ = some (.int .u64 (y : Int)) := cell_1 hnew
      have s0 : WA.cell? ⟨W.heap.size, 0, none⟩ = some (.int .i64 ((s / 18446744073709551616 : Nat) : Int)) := cell_0 hsumA
      have s1 : WA.cell? ⟨W.heap.size, 1, none⟩ = some (.int .u64 ((s % 18446744073709551616 : Nat) : Int)) := cell_1 hsumA
      have HU1 : Hid (∀ W, Calls Tryz.prog 109 #[.int .u64 (y : Int)] W fun e w' => e = .returned (.agg #[.int .i64 0, .int .u64 (y : Int)]) ∧ Below W.heap.size W w') := fun W => callsIn_wide.1 (HU.out y W hy2)
      have HA1 : Hid (∀ W, Calls Tryz.prog 122 #[.agg #[.int .i64 ((s / 18446744073709551616 : Nat) : Int), .int .u64 ((s % 18446744073709551616 : Nat) : Int)], .agg #[.int .i64 0, .int .u64 (y : Int)]] W fun e w' => e = .returned (.agg #[.int .i64 (((s + y) / 18446744073709551616 : Nat) : Int), .int .u64 (((s + y) % 18446744073709551616 : Nat) : Int)]) ∧ Below W.heap.size W w') := fun W => callsIn_wide.1 (HA.out s y W (by omega) hy2)
      have HNW : Hid _ := hnew
      have HSM : Hid _ := hsumA
      clear hnew hsumA HU HA
      generalize ((s / 18446744073709551616 : Nat) : Int) = sh at *
      generalize ((s % 18446744073709551616 : Nat) : Int) = sl at *
      generalize hth : (((s + y) / 18446744073709551616 : Nat) : Int) = th at *
      generalize htl : (((s + y) % 18446744073709551616 : Nat) : Int) = tl at *
      have HTH : Hid _ := hth
      have HTL : Hid _ := htl
      clear hth htl
      have D0 : Hid (WA.drew.cell? ⟨W.heap.size, 0, none⟩ = some (.int .i64 sh)) := s0
      have D1 : Hid (WA.drew.cell? ⟨W.heap.size, 1, none⟩ = some (.int .u64 sl)) := s1
      have DN : Hid (WA.drew.heap[wr.heap.size]? = some (.cells #[.int .i64 x, .int .u64 (y : Int)] 57 (0, 0))) := HNW.out
      have DS : Hid (WA.drew.heap[W.heap.size]? = some (.cells #[.int .i64 sh, .int .u64 sl] 41 (0, 0))) := HSM.out
      go_region_with (first
        | (go_at_call 109; with_reducible refine (HU1.out _).mono ?_; rintro e w1 ⟨rfl, hk1⟩; have N1 := hid_keep hk1 DN; have S1 := hid_keep hk1 DS; have s0' := keep_0 hk1 D0.out; have s1' := keep_0 hk1 D1.out)
        | (go_at_call 122; with_reducible refine (HA1.out _).mono ?_; rintro e w2 ⟨rfl, hk2⟩; have N2 := hid_keep hk2 N1; have S2 := hid_keep hk2 S1; have s0' := keep_0 hk2 s0'; have s1' := keep_0 hk2 s1'; have f0 := froz_0 S2.out; have f1 := froz_1 S2.out))
      all_goals
        have hN3 : ((w2.setCell ⟨W.heap.size, 0, none⟩ (.int .i64 th)).setCell ⟨W.heap.size, 1, none⟩ (.int .u64 tl)).heap[wr.heap.size]? = some (.cells #[.int .i64 x, .int .u64 (y : Int)] 57 (0, 0)) := (Below.heap_setCell _ _ _ _ (by have := HCk.out; show wr.heap.size ≠ W.heap.size; omega)).trans ((Below.heap_setCell _ _ _ _ (by have := HCk.out; show wr.heap.size ≠ W.heap.size; omega)).trans N2.out)
        have hS3 := set_2 (.int .i64 th) (.int .u64 tl) S2.out
        have hB3 : Below W.heap.size wr ((w2.setCell ⟨W.heap.size, 0, none⟩ (.int .i64 th)).setCell ⟨W.heap.size, 1, none⟩ (.int .u64 tl)) := (((((HAB.out.mono (Nat.le_of_lt HCk.out)).drew).trans (hk1.mono (Nat.le_trans (Nat.le_of_lt HCk.out) HAB.out.size))).trans (hk2.mono (Nat.le_trans (Nat.le_of_lt HCk.out) (Nat.le_trans HAB.out.size hk1.size)))).setCell (p := ⟨W.heap.size, 0, none⟩) (Nat.le_refl _) _).setCell (p := ⟨W.heap.size, 1, none⟩) (Nat.le_refl _) _
        clear hk1 hk2 N2 S2 s0' s1' f0 f1 N1 S1 D0 D1 DN DS
        generalize ((w2.setCell ⟨W.heap.size, 0, none⟩ (.int .i64 th)).setCell ⟨W.heap.size, 1, none⟩ (.int .u64 tl)) = W3 at *
        obtain ⟨fn, tmps, assign, body, hy, hRd⟩ := HE.out W3 (hJ _ _ _ hJs hB3)
        have c0' := cell_0 hN3
        have c1' := cell_1 hN3
        have t0' := cell_0 hS3
        have t1' := cell_1 hS3
        have HB3 : Hid _ := hB3
        have HS3 : Hid _ := hS3
        clear hB3 hS3 hN3
        gi_wp2
        refine ⟨fun h => by simp [Fence.wide] at h, hRd.mono ?_⟩
        rintro e W4 (⟨rfl, hM, hJ4⟩ | ⟨rfl, hJx4⟩)
        · have HM4 : Hid (Mid n0 B W3 W4) := hM
          clear hM
          gi_wp2
          go_roundw
          case rel =>
            have hlt3 : W.heap.size < W3.heap.size := (Array.getElem?_eq_some_iff.1 HS3.out).1
            refine ⟨k + 1, by omega, by simp, hJ4, (HR.out.below HB3.out (fun hL => by have := hb hL; have := HN.out; omega)).below (HM4.out.toBelow (by have := HN.out; omega)) hb, ?_⟩
            rw [HSS.out, HTH.out, HTL.out]
            exact (HM4.out.block _ hlt3 (by omega)).trans HS3.out
          case measure => simp [intOf]; omega
        · gi_wp2
          refine bodyPost_ret (results_none rfl _ _ _) rfl ?_
          exact ⟨⟨_, rfl⟩, .inr ⟨k + 1, by omega, hJx4⟩⟩
    · obtain rfl : k = L.length := by omega
      have hlt' : ¬ (L.length : Int) < (L.length : Int) := by omega
      gi_wp2
      go_end0
      exact ⟨⟨_, rfl⟩, .inl hJs⟩
end Go.Proofs.YtckdkcnnfjbdmaaGreat
/- Total, the code's. Own work of the verifier. -/
namespace Go.Proofs.YtckdkcnnfjbdmaaGreat
open Go.RowKit Go.Shelf

attribute [local go_sem] Oper.semAt_some

set_option maxHeartbeats 1000000 in
theorem sums_in (m : Nat) (a : Option Addr) (len cap : Nat) (w : World) :
    CallsIn Fence.wide m Tryz.prog 104 #[.slice a len cap] w fun e w' => e = .returned (.func (.func 135) #[] #[.pointer (some ⟨w.heap.size, 0, none⟩)]) ∧ w' = w.alloc (.cells #[.slice a len cap] 42) := by
  refine callsIn_of_wp Tryz.func104 rfl trivial ?_ rfl
  simp only [Tryz.ntmps104, List.size_toArray, List.length_cons, List.length_nil, Nat.reduceAdd, Nat.reduceSub, Array.replicate_succ, Array.replicate_zero, List.push_toArray, List.append_toArray, List.nil_append, List.cons_append]
  gi_wp2
  go_ret
  exact ⟨rfl, rfl⟩
theorem bx_below {W W' : World} {b : Nat} {t : TypeId} {v : Value} {B : Nat} (h : Boxed W b t v) (hk : Below B W W') (hB : b < B) : Boxed W' b t v := (hk.block b hB).trans h
theorem tot_sN (L : List Cn) : tot L = sN L L.length % 18446744073709551616 := by unfold tot sN sumN; rw [List.take_length]

set_option maxRecDepth 100000 in
set_option maxHeartbeats 4000000 in
theorem total_any (w : World) (v : Value) (L : List Cn) (hS : SN w v L) (hW : Wc L) (hl : L.length ≤ 8796093022208) :
    Calls Tryz.prog 72 #[v] w fun e w' => e = .returned (.int .u64 (tot L : Nat)) ∧ Below w.heap.size w w' := by
  rw [tot_sN]
  obtain ⟨ao, b, o, cap, rfl, hao, hR⟩ := hS.sc
  refine (callsIn_wide (n := 5)).1 ?_
  have HSu : Hid (∀ W, _) := sums_in 4 ao L.length cap
  refine callsIn_of_wp_marks Tryz.func72 rfl trivial ?_ rfl
  simp only [Tryz.ntmps72, List.size_toArray, List.length_cons, List.length_nil, Nat.reduceAdd, Nat.reduceSub, Array.replicate_succ, Array.replicate_zero, List.push_toArray, List.append_toArray, List.nil_append, List.cons_append]
  gi_wp2_with (refine ⟨trivial, ?_⟩; gi_at_call 104; refine (HSu.out _).mono ?_; rintro e w' ⟨rfl, rfl⟩)
  have bT := (Boxed.new w 24 (.int .u64 0)).alloc (.cells #[.slice ao L.length cap] 42)
  have bS := Boxed.new (w.alloc (.cells #[.int .u64 0] 24)) 42 (.slice ao L.length cap)
  rw [World.size_alloc] at bS
  have hB0 : Below w.heap.size w ((w.alloc (.cells #[.int .u64 0] 24)).alloc (.cells #[.slice ao L.length cap] 42)) := ((Below.refl _ w).alloc (Nat.le_refl _) _).alloc (by simp) _
  have hsz : ((w.alloc (.cells #[.int .u64 0] 24)).alloc (.cells #[.slice ao L.length cap] 42)).heap.size = w.heap.size + 2 := by simp
  obtain ⟨W0, hW0⟩ : ∃ W0, (w.alloc (.cells #[.int .u64 0] 24)).alloc (.cells #[.slice ao L.length cap] 42) = W0 := ⟨_, rfl⟩
  rw [hW0] at bT bS hB0 hsz ⊢
  clear hW0
  have hRb : L ≠ [] → b < w.heap.size := fun h => hR.lt h
  refine wpIn_rangeFunc_seq (gf := 135) (lb := #[.pointer (some ⟨w.heap.size + 1, 0, none⟩)]) (n0 := w.heap.size) (B := w.heap.size + 1) (N := L.length) (encs := encS L) rfl (enters_of Tryz.func135 (by kernel_rfl) rfl) (by omega)
    (sums_seq (5 - 1) (w.heap.size + 1) w.heap.size (w.heap.size + 1) ao b o cap L hao hW hl W0 bS.cell (Nat.le_refl _) (hR.below hB0 hRb) hRb (by omega)) (fun _ => rfl)
    (fun i W => Boxed W w.heap.size 24 (.int .u64 ((sN L i % 18446744073709551616 : Nat) : Int)) ∧ Below w.heap.size w W) (fun _ _ _ => False)
    (fun i A A' h k => ⟨bx_below h.1 k (by omega), h.2.trans (k.mono (by omega))⟩) (fun _ _ _ _ h _ => h) ⟨bT, hB0⟩ ?round ?done ?stop
  case round =>
    rintro l i W hi hl1 hl2 ⟨hBx, hBel⟩
    unfold encS
    gi_wp2
    refine ⟨(Below.refl _ _).alloc (Nat.le_refl _) _, ?_⟩
    rintro W2 ⟨hBx2, hBel2⟩ hs2 hot
    have hnb := (hot W.heap.size (by omega)).trans (World.alloc_heap_new W _)
    have c1 := cell_1 hnb
    have d0 := hBx2.cell
    have d1 := hBx2.frozen
    gi_wp2
    exact ⟨(Mid.refl _ _ _).setCell (p := ⟨w.heap.size, 0, none⟩) (Or.inl ⟨Nat.le_refl _, Nat.lt_succ_self _⟩) _, hBx2.set _, hBel2.setCell (p := ⟨w.heap.size, 0, none⟩) (Nat.le_refl _) _⟩
  case done =>
    rintro D W hD ⟨hBx, hBel⟩ hK
    have d0 := hBx.cell
    gi_wp2
    refine ⟨by simp, .inl ⟨_, _, rfl, run_takeDeferred hK, ?_⟩⟩
    exact ⟨_, results_tmp rfl _ _ _, rfl, hBel.trans ((Below.refl _ _).grown (grownBy_putObj' _ _ _) (by have := hBel.size; omega) (fun k e => by cases e; omega))⟩
  case stop =>
    rintro D c i W _ _ h _
    exact h.elim
end Go.Proofs.YtckdkcnnfjbdmaaGreat
/- At, the code's. Own work of the verifier. -/
namespace Go.Proofs.YtckdkcnnfjbdmaaGreat
open Go.RowKit Go.Shelf

attribute [local go_sem] Oper.semAt_some

theorem atF_from (L : List Cn) (r : Nat) : ∀ k, k ≤ L.length → sN L k < r → atF L r = atF (L.drop k) (r - sN L k)
  | 0, _, _ => by simp [sN, sumN]
  | k + 1, hk, h => by
    have e := sN_succ (L := L) (i := k) (by omega)
    have g : L.getD k (0, 0) = L[k] := by simp [List.getD, show k < L.length by omega]
    rw [g] at e
    rw [atF_from L r k (by omega) (by omega), atF_drop (by omega) (by omega), if_neg (by omega), e]
    congr 1
    omega
theorem atF_hit {L : List Cn} {r k : Nat} (hk : k < L.length) (h1 : sN L k < r) (h2 : r ≤ sN L (k + 1)) : atF L r = ((L.getD k (0, 0)).1, 0) := by
  have e := sN_succ (L := L) (i := k) hk
  have g : L.getD k (0, 0) = L[k] := by simp [List.getD, hk]
  rw [g] at e ⊢
  rw [atF_from L r k (by omega) h1, atF_drop hk (by omega), if_pos (by omega)]
theorem atF_miss {L : List Cn} {r : Nat} (h : sN L L.length < r) : atF L r = (0, 2) := by
  rw [atF_from L r _ (Nat.le_refl _) h, List.drop_length]
  rfl
theorem cmp_sum (s r : Nat) : cmp (val ((s / 18446744073709551616 : Nat) : Int) ((s % 18446744073709551616 : Nat) : Int)) (r : Int) = if s < r then -1 else if s = r then 0 else 1 := by
  have e : val ((s / 18446744073709551616 : Nat) : Int) ((s % 18446744073709551616 : Nat) : Int) = (s : Int) := by unfold val; omega
  rw [e]
  unfold cmp
  split <;> split <;> (try split) <;> omega
theorem compare_sum (s r : Nat) (hs : s < 18446744073709551616 * 17592186044416) (hr : r < 18446744073709551616) (w : World) :
    Calls Tryz.prog 105 #[.agg #[.int .i64 ((s / 18446744073709551616 : Nat) : Int), .int .u64 ((s % 18446744073709551616 : Nat) : Int)], .agg #[.int .i64 0, .int .u64 (r : Int)]] w fun e w' =>
      e = .returned (.int .i64 (if s < r then -1 else if s = r then 0 else 1)) ∧ Below w.heap.size w w' := by
  refine (cmp_any _ _ _ _ ⟨by omega, by omega, by omega, by omega⟩ ⟨by omega, by omega, by omega, by omega⟩ w).mono ?_
  rintro e w' ⟨rfl, hb⟩
  refine ⟨?_, hb⟩
  rw [show val 0 (r : Int) = (r : Int) by unfold val; omega, cmp_sum]
theorem unsigned_any (n : Nat) (h : n < 18446744073709551616) (W : World) : Calls Tryz.prog 109 #[.int .u64 (n : Int)] W fun e w' => e = .returned (.agg #[.int .i64 0, .int .u64 (n : Int)]) ∧ Below W.heap.size W w' :=
  (uns_any (n : Int) (by omega) (by omega) W).mono (by
    rintro e w' ⟨rfl, hb⟩
    refine ⟨?_, hb⟩
    unfold num hiOf loOf
    rw [show (n : Int) / 18446744073709551616 = 0 by omega, show (n : Int) % 18446744073709551616 = (n : Int) by omega])

theorem results_c2 {fn : Func} {t u : Tmp} (h : fn.results = #[.cell t 3, .cell u 27]) (tmps : Array Value) (w : World) (a b : Addr) {x y : Int} (ha : tmps[t]?.getD undef = .pointer (some a)) (hb : tmps[u]?.getD undef = .pointer (some b)) (hx : w.cell? a = some (.int .i64 x)) (hy : w.cell? b = some (.int .i64 y)) : (results fn tmps).run Tryz.prog w = .ok (.tuple #[.int .i64 x, .int .i64 y]) w := by
  simp [results, h, ha, hb, hx, hy, go_sem]
theorem results_c1 {fn : Func} {t : Tmp} (h : fn.results = #[.cell t 27]) (tmps : Array Value) (w : World) (a : Addr) {x : Int} (ha : tmps[t]?.getD undef = .pointer (some a)) (hx : w.cell? a = some (.int .i64 x)) : (results fn tmps).run Tryz.prog w = .ok (.int .i64 x) w := by
  simp [results, h, ha, hx, go_sem]
theorem new_2 (W : World) (o1 o2 : Obj) : ((W.alloc o1).alloc o2).heap[W.heap.size]? = some o1 ∧ ((W.alloc o1).alloc o2).heap[W.heap.size + 1]? = some o2 := by
  refine ⟨(Below.heap_alloc _ _ _ (by simp)).trans (World.alloc_heap_new W _), ?_⟩
  have := World.alloc_heap_new (W.alloc o1) o2
  rwa [World.size_alloc] at this
theorem Mid.st {n0 B : Nat} {a w : World} (h : Mid n0 B a w) {b : Nat} (h1 : n0 ≤ b) (h2 : b < B) (u : Value) : Mid n0 B a (w.setCell ⟨b, 0, none⟩ u) := h.setCell (p := ⟨b, 0, none⟩) (Or.inl ⟨h1, h2⟩) u
theorem bl_st {B : Nat} {a w : World} (h : Below B a w) {b : Nat} (hp : B ≤ b) (u : Value) : Below B a (w.setCell ⟨b, 0, none⟩ u) := h.setCell (p := ⟨b, 0, none⟩) hp u
theorem below_put {w W : World} {D : Nat} {o : Obj} (h : Below w.heap.size w W) (hD : w.heap.size ≤ D) : Below w.heap.size w (W.putObj D o) := h.grown (grownBy_putObj' _ _ _) (by have := h.size; omega) (fun k e => by cases e; omega)
theorem bx_put {W : World} {b D : Nat} {t : TypeId} {v : Value} {o : Obj} (h : Boxed W b t v) (hne : b ≠ D) : Boxed (W.putObj D o) b t v := (World.putObj_heap_other hne).trans h
theorem not_deferred {W : World} {b D : Nat} {t : TypeId} {v : Value} {x : Option (List Deferred)} (h : Boxed W b t v) (hD : W.heap[D]? = some (.deferred x)) : b ≠ D := fun e => by
  subst e
  have := (show W.heap[b]? = _ from h).symm.trans hD
  cases this

set_option maxRecDepth 100000 in
set_option maxHeartbeats 4000000 in
theorem at_any (w : World) (v : Value) (L : List Cn) (r : Nat) (hS : SN w v L) (hW : Wc L) (hl : L.length ≤ 8796093022208) (hr : r < 18446744073709551616) :
    Calls Tryz.prog 73 #[v, .int .u64 (r : Int)] w fun e w' => e = two (atF L r).1 (atF L r).2 ∧ Below w.heap.size w w' := by
  obtain ⟨ao, b, o, cap, rfl, hao, hR⟩ := hS.sc
  refine (callsIn_wide (n := 5)).1 ?_
  have HSu : Hid (∀ W, _) := sums_in 4 ao L.length cap
  refine callsIn_of_wp_marks Tryz.func73 rfl trivial ?_ rfl
  simp only [Tryz.ntmps73, List.size_toArray, List.length_cons, List.length_nil, Nat.reduceAdd, Nat.reduceSub, Array.replicate_succ, Array.replicate_zero, List.push_toArray, List.append_toArray, List.nil_append, List.cons_append]
  by_cases h0 : r = 0
  · subst h0
    rw [atF_zero]
    gi_wp2
    have b1 := (Boxed.new (w.alloc (.cells #[.int .u64 0] 24)) 3 (.int .i64 0)).alloc (.cells #[.int .i64 2] 27)
    have b2 := Boxed.new ((w.alloc (.cells #[.int .u64 0] 24)).alloc (.cells #[.int .i64 0] 3)) 27 (.int .i64 2)
    simp only [World.size_alloc] at b1 b2
    exact ⟨_, results_c2 rfl _ _ _ _ rfl rfl b1.cell b2.cell, rfl, bel3 _ _ _ _⟩
  · have c0 : ((r : Int) == 0) = false := by rw [beq_eq_false_iff_ne]; omega
    gi_wp2_with (refine ⟨trivial, ?_⟩; gi_at_call 104; refine (HSu.out _).mono ?_; rintro e w' ⟨rfl, rfl⟩)
    have bR := (((Boxed.new w 24 (.int .u64 (r : Int))).alloc (.cells #[.int .i64 0] 3)).alloc (.cells #[.int .i64 0] 27)).alloc (.cells #[.slice ao L.length cap] 42)
    have b1 := ((Boxed.new (w.alloc (.cells #[.int .u64 (r : Int)] 24)) 3 (.int .i64 0)).alloc (.cells #[.int .i64 0] 27)).alloc (.cells #[.slice ao L.length cap] 42)
    have b2 := (Boxed.new ((w.alloc (.cells #[.int .u64 (r : Int)] 24)).alloc (.cells #[.int .i64 0] 3)) 27 (.int .i64 0)).alloc (.cells #[.slice ao L.length cap] 42)
    have bS := Boxed.new (((w.alloc (.cells #[.int .u64 (r : Int)] 24)).alloc (.cells #[.int .i64 0] 3)).alloc (.cells #[.int .i64 0] 27)) 42 (.slice ao L.length cap)
    have hB0 : Below w.heap.size w ((((w.alloc (.cells #[.int .u64 (r : Int)] 24)).alloc (.cells #[.int .i64 0] 3)).alloc (.cells #[.int .i64 0] 27)).alloc (.cells #[.slice ao L.length cap] 42)) := (bel3 _ _ _ _).alloc (by simp; omega) _
    have hsz : ((((w.alloc (.cells #[.int .u64 (r : Int)] 24)).alloc (.cells #[.int .i64 0] 3)).alloc (.cells #[.int .i64 0] 27)).alloc (.cells #[.slice ao L.length cap] 42)).heap.size = w.heap.size + 4 := by simp
    simp only [World.size_alloc] at b1 b2 bS
    obtain ⟨W0, hW0⟩ : ∃ W0, ((((w.alloc (.cells #[.int .u64 (r : Int)] 24)).alloc (.cells #[.int .i64 0] 3)).alloc (.cells #[.int .i64 0] 27)).alloc (.cells #[.slice ao L.length cap] 42)) = W0 := ⟨_, rfl⟩
    rw [hW0] at bR b1 b2 bS hB0 hsz ⊢
    clear hW0
    have hRb : L ≠ [] → b < w.heap.size := fun h => hR.lt h
    have HA : Hid (∀ k, k < L.length → sN L k < r → r ≤ sN L (k + 1) → atF L r = ((L.getD k (0, 0)).1, 0)) := fun k a1 a2 a3 => atF_hit a1 a2 a3
    have HM : Hid (sN L L.length < r → atF L r = (0, 2)) := atF_miss
    have HSN : Hid (∀ k, k ≤ L.length → sN L k ≤ 18446744073709551616 * 8796093022208) := fun k h => by have := sN_le hW k; omega
    have HU : Hid (∀ W, _) := unsigned_any r hr
    have hmx : Tryz.prog.follows .mixedOrders = true := by kernel_rfl
    refine wpIn_rangeFunc_seq (gf := 135) (lb := #[.pointer (some ⟨w.heap.size + 1 + 1 + 1, 0, none⟩)]) (n0 := w.heap.size) (B := w.heap.size + 1 + 1 + 1) (N := L.length) (encs := encS L) rfl (enters_of Tryz.func135 (by kernel_rfl) rfl) (by omega)
      (sums_seq (5 - 1) (w.heap.size + 1 + 1 + 1) w.heap.size (w.heap.size + 1 + 1 + 1) ao b o cap L hao hW hl W0 bS.cell (Nat.le_refl _) (hR.below hB0 hRb) hRb (by omega)) (fun _ => rfl)
      (fun i W => (Boxed W w.heap.size 24 (.int .u64 (r : Int)) ∧ Boxed W (w.heap.size + 1) 3 (.int .i64 0) ∧ Boxed W (w.heap.size + 1 + 1) 27 (.int .i64 0)) ∧ Below w.heap.size w W ∧ Hid (sN L i < r))
      (fun c i W => Hid (c = .ret) ∧ (∃ k, k < L.length ∧ sN L k < r ∧ r ≤ sN L (k + 1) ∧ Boxed W (w.heap.size + 1) 3 (.int .i64 (L.getD k (0, 0)).1) ∧ Boxed W (w.heap.size + 1 + 1) 27 (.int .i64 0)) ∧ Below w.heap.size w W)
      (fun i A A' h k => ⟨⟨bx_below h.1.1 k (by omega), bx_below h.1.2.1 k (by omega), bx_below h.1.2.2 k (by omega)⟩, h.2.1.trans (k.mono (by omega)), h.2.2⟩)
      (fun c i A A' h k => by
        obtain ⟨h1, ⟨j, h2, h3, h4, h5, h6⟩, h7⟩ := h
        exact ⟨h1, ⟨j, h2, h3, h4, bx_below h5 k (by omega), bx_below h6 k (by omega)⟩, h7.trans (k.mono (by omega))⟩) ⟨⟨bR, b1, b2⟩, hB0, by show 0 < r; omega⟩ ?round ?done ?stop
    case round =>
      rintro l i W hi hl1 hl2 ⟨⟨hR1, h11, h21⟩, hBel, hlow⟩
      have hsi := HSN.out (i + 1) (by omega)
      unfold encS
      generalize hx : (L.getD i (0, 0)).1 = x
      generalize hy : ((L.getD i (0, 0)).2 : Int) = y
      gi_wp2
      refine ⟨bel2 _ _ _, ?_⟩
      rintro W2 ⟨⟨hR2, h12, h22⟩, hBel2, hlow2⟩ hs2 hot
      have hnb : W2.heap[W.heap.size]? = some (.cells #[.int .i64 x, .int .u64 y] 57 (0, 0)) := (hot W.heap.size (by omega)).trans (new_2 W _ _).1
      have hnc : W2.heap[W.heap.size + 1]? = some (.cells #[.int .i64 ((sN L (i + 1) / 18446744073709551616 : Nat) : Int), .int .u64 ((sN L (i + 1) % 18446744073709551616 : Nat) : Int)] 41 (0, 0)) := (hot (W.heap.size + 1) (by omega)).trans (new_2 W _ _).2
      clear hot
      have HM2 : Hid (Mid w.heap.size (w.heap.size + 1 + 1 + 1) W2 W2.drew) := (Mid.refl _ _ _).drew
      have HC : Hid (∀ W, _) := compare_sum (sN L (i + 1)) r (by omega) hr
      have HSi : Hid (sN L (i + 1) = sN L (i + 1)) := rfl
      have DN : Hid (W2.drew.heap[W.heap.size]? = some (.cells #[.int .i64 x, .int .u64 y] 57 (0, 0))) := hnb
      have D0 := cell_0 hnc
      have D1 := cell_1 hnc
      have DS : Hid (W2.drew.heap[W.heap.size + 1]? = _) := hnc
      have DR : Hid (W2.drew.heap[w.heap.size]? = some (.cells #[.int .u64 (r : Int)] 24 (0, 0))) := hR2
      have E0 := hR2.cell
      have E1 : Hid (W2.drew.heap[w.heap.size + 1]? = some (.cells #[.int .i64 0] 3 (0, 0))) := h12
      have E2 : Hid (W2.drew.heap[w.heap.size + 1 + 1]? = some (.cells #[.int .i64 0] 27 (0, 0))) := h22
      have EB : Hid (Below w.heap.size w W2.drew) := hBel2.drew
      have hsz2 : w.heap.size + 4 ≤ W2.heap.size := by rw [hs2]; simp; omega
      clear hR1 h11 h21 hR2 h12 h22 hBel2 hBel hnb hnc HSu HSN HA HM hs2
      by_cases hcmp : sN L (i + 1) < r
      · rw [if_pos hcmp] at HC
        have HIn : Hid (sN L (i + 1) < r) := hcmp
        generalize ((sN L (i + 1) / 18446744073709551616 : Nat) : Int) = sh at *
        generalize ((sN L (i + 1) % 18446744073709551616 : Nat) : Int) = sl at *
        clear hcmp HSi hsi
        gi_wp2
        gi_region_with_o (first
          | (refine ⟨trivial, ?_⟩; gi_at_call 109; refine (CallsIn.inRound l (callsIn_wide.2 (HU.out _))).mono ?_; rintro e w1 ⟨rfl, hk1⟩; have N1 := hid_keep hk1 DN; have S1 := hid_keep hk1 DS; have R1 := hid_keep hk1 DR; have F1 := hid_keep hk1 E1; have F2 := hid_keep hk1 E2; have s0' := cell_0 S1.out; have s1' := cell_1 S1.out)
          | (refine ⟨trivial, ?_⟩; gi_at_call 105; refine (CallsIn.inRound l (callsIn_wide.2 (HC.out _))).mono ?_; rintro e w2 ⟨rfl, hk2⟩; have N2 := hid_keep hk2 N1; have R2 := hid_keep hk2 R1; have G1 := hid_keep hk2 F1; have G2 := hid_keep hk2 F2))
        all_goals gi_wp2
        all_goals exact ⟨(HM2.out.below hk1).below hk2, ⟨R2.out, G1.out, G2.out⟩, bt (bt EB.out hk1) hk2, HIn⟩
      · obtain ⟨C, hC, hC0⟩ : ∃ C : Int, (if sN L (i + 1) < r then (-1 : Int) else if sN L (i + 1) = r then 0 else 1) = C ∧ 0 ≤ C := ⟨_, rfl, by rw [if_neg hcmp]; split <;> omega⟩
        rw [hC] at HC
        have HIn : Hid (r ≤ sN L (i + 1)) := by unfold Hid; omega
        have HX : Hid _ := hx
        generalize ((sN L (i + 1) / 18446744073709551616 : Nat) : Int) = sh at *
        generalize ((sN L (i + 1) % 18446744073709551616 : Nat) : Int) = sl at *
        clear hcmp HSi hsi hC hx
        gi_wp2
        gi_region_with_o (first
          | (refine ⟨trivial, ?_⟩; gi_at_call 109; refine (CallsIn.inRound l (callsIn_wide.2 (HU.out _))).mono ?_; rintro e w1 ⟨rfl, hk1⟩; have N1 := hid_keep hk1 DN; have S1 := hid_keep hk1 DS; have R1 := hid_keep hk1 DR; have F1 := hid_keep hk1 E1; have F2 := hid_keep hk1 E2; have s0' := cell_0 S1.out; have s1' := cell_1 S1.out)
          | (refine ⟨trivial, ?_⟩; gi_at_call 105; refine (CallsIn.inRound l (callsIn_wide.2 (HC.out _))).mono ?_; rintro e w2 ⟨rfl, hk2⟩; have N2 := hid_keep hk2 N1; have R2 := hid_keep hk2 R1; have G1 := hid_keep hk2 F1; have G2 := hid_keep hk2 F2; have g0 := cell_0 N2.out; have g1 := Boxed.cell G1.out; have g2 := Boxed.frozen G1.out; have g3 := Boxed.cell G2.out; have g4 := Boxed.frozen G2.out))
        all_goals gi_wp2
        all_goals exact ⟨(((HM2.out.below hk1).below hk2).st (by omega) (by omega) _).st (by omega) (by omega) _, rfl, ⟨i, hi, hlow2.out, HIn.out, by rw [HX.out]; exact Boxed.other (Boxed.set _ G1.out) (by omega) _, Boxed.set _ (Boxed.other G2.out (by omega) _)⟩, bl_st (bl_st (bt (bt EB.out hk1) hk2) (by omega) _) (by omega) _⟩
    case done =>
      rintro D W hD ⟨⟨hR1, h11, h21⟩, hBel, hlow⟩ hK
      have d0 := h11.cell
      have d1 := h11.frozen
      have d2 := h21.cell
      have d3 := h21.frozen
      have ne1 := not_deferred h11 hK
      have ne2 := not_deferred h21 hK
      gi_wp2
      have hK2 : ((W.setCell ⟨w.heap.size + 1, 0, none⟩ (.int .i64 0)).setCell ⟨w.heap.size + 1 + 1, 0, none⟩ (.int .i64 2)).heap[D]? = some (.deferred (some [])) := (Below.heap_setCell _ _ _ _ (by show D ≠ w.heap.size + 1 + 1; omega)).trans ((Below.heap_setCell _ _ _ _ (by show D ≠ w.heap.size + 1; omega)).trans hK)
      have e1 := Boxed.other (Boxed.set (.int .i64 0) h11) (B' := w.heap.size + 1 + 1) (by omega) (.int .i64 2)
      have e2 := Boxed.set (.int .i64 2) (Boxed.other h21 (B' := w.heap.size + 1) (by omega) (.int .i64 0))
      have e3 := bl_st (bl_st hBel (b := w.heap.size + 1) (by omega) (.int .i64 0)) (b := w.heap.size + 1 + 1) (by omega) (.int .i64 2)
      refine ⟨by simp, .inl ⟨_, _, rfl, run_takeDeferred hK2, ?_⟩⟩
      exact ⟨_, results_c2 rfl _ _ _ _ rfl rfl (bx_put e1 ne1).cell (bx_put e2 ne2).cell, by rw [HM.out hlow.out], below_put e3 (by omega)⟩
    case stop =>
      rintro D c i W hD hi ⟨hc, ⟨k, h2, h3, h4, h5, h6⟩, h7⟩ hK
      obtain rfl := hc.out
      have ne1 := not_deferred h5 hK
      have ne2 := not_deferred h6 hK
      gi_wp2
      refine ⟨by simp, .inl ⟨_, _, rfl, run_takeDeferred hK, ?_⟩⟩
      exact ⟨_, results_c2 rfl _ _ _ _ rfl rfl (bx_put h5 ne1).cell (bx_put h6 ne2).cell, by rw [HA.out k h2 h3 h4], below_put h7 (by omega)⟩
end Go.Proofs.YtckdkcnnfjbdmaaGreat
