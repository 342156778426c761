/- THE LAW'S one. Own work of the verifier. -/
import Derived.Test.YtckdkcnnfjbdmaaGreatZP5
import Derived.Deep.RegionHeld3
namespace Go.Proofs.YtckdkcnnfjbdmaaGreat
open Go.RowKit Me

/-- A snapshot of one counter. -/
def oneV (n : Nat) : Vl := ⟨⟨1, [99], [], []⟩, (n : Int), [], 0, 0, 0, 0⟩
def oneS (n : Nat) : Sn := ⟨2, [oneV n], 0⟩
theorem one_chkD (n : Nat) : La.chkD (oneV n).d = 0 := by
  show La.chkD ⟨1, [99], [], []⟩ = 0
  decide +kernel
theorem one_hold (n : Nat) : holdB 2 (oneV n) = true := by
  unfold holdB
  rw [if_pos (show (oneV n).d.kind = 1 from rfl)]
  simp [oneV, fz]
theorem one_chk1 (n : Nat) : chk1 2 none (oneV n) = 0 := by
  unfold chk1
  rw [if_neg (by simp [one_chkD n]), if_neg (by rw [one_hold n]; decide)]
theorem one_chkS (n : Nat) : chkS (oneS n) = (0, 0) := by
  unfold chkS oneS
  rw [if_neg (by simp), if_neg (by simp)]
  show chkV 2 none [oneV n] 0 = (0, 0)
  rw [chkV, if_neg (by simp [one_chk1 n])]
  rfl
theorem one_W (n : Nat) (h : n < 9223372036854775808) : SnW (oneS n) := by
  refine ⟨fun x hx => ?_, by show 0 < _; omega⟩
  rw [show (oneS n).vs = [oneV n] from rfl, List.mem_singleton] at hx
  subst hx
  exact ⟨⟨by show _ ≤ (n : Int); omega, by show (n : Int) < _; omega⟩, (fun c hc => by cases hc), by show 0 ≤ _; omega, by show 0 < _; omega, by show 0 < _; omega, by show 0 < _; omega, by show 0 < _; omega, ⟨by show 1 ≤ _; omega, by show 0 ≤ _; omega, fun a ha => by cases ha⟩⟩
set_option maxRecDepth 100000 in
set_option maxHeartbeats 2000000 in
theorem one_any (n : Nat) (h : n < 9223372036854775808) (w : World) :
    Calls Tryz.prog 27 #[.int .u64 (n : Int)] w fun e w' => ∃ v, e = .returned v ∧ SnAt w' (oneS n) v ∧ Below w.heap.size w w' := by
  have hhi : hiOf (n : Int) = 0 := by unfold hiOf; omega
  have hlo : loOf (n : Int) = (n : Int) := by unfold loOf; omega
  have sF := store_f
  have HH := hid_of (⟨hhi, hlo⟩ : _ ∧ _)
  clear hhi hlo
  go_enter Tryz.func27, Tryz.ntmps27
  go_wp2_with fail
  simp [bodyPost, results, Tryz.results27, go_sem]
  refine ⟨?_, bel2 w _ _⟩
  generalize ho : (Obj.cells #[Value.int .i64 2, Value.slice (some ⟨w.heap.size + 1, 0, none⟩) 1 1, Value.int .u64 0] 26) = o1
  have hh : ((w.alloc o1).alloc (.cells #[.int .i64 1, .string ⟨#[99]⟩, .string ⟨#[]⟩, .slice none 0 0, .int .i64 0, .int .u64 (n : Int), .slice none 0 0, .int .u64 0, .float .f64 0, .float .f64 0, .float .f64 0] 45)).heap[w.heap.size + 1]? = some (.cells #[.int .i64 1, .string ⟨#[99]⟩, .string ⟨#[]⟩, .slice none 0 0, .int .i64 0, .int .u64 (n : Int), .slice none 0 0, .int .u64 0, .float .f64 0, .float .f64 0, .float .f64 0] 45 (0, 0)) := by
    have := new_1 (w.alloc o1) (.cells #[.int .i64 1, .string ⟨#[99]⟩, .string ⟨#[]⟩, .slice none 0 0, .int .i64 0, .int .u64 (n : Int), .slice none 0 0, .int .u64 0, .float .f64 0, .float .f64 0, .float .f64 0] 45)
    rw [show (w.alloc o1).heap.size = w.heap.size + 1 by simp] at this
    exact this
  obtain ⟨k0, k1, k2, k3, k4, k5, k6, k7, k8, k9, k10⟩ := eleven_cells (hid_of hh)
  refine ⟨_, rfl, Or.inr ⟨w.heap.size + 1, 0, 1, rfl, by show 1 ≤ 1; omega, by omega, fun i hi => ?_⟩⟩
  have hi0 : i = 0 := by have : i < 1 := hi; omega
  subst hi0
  refine ⟨.slice none 0 0, .slice none 0 0, ⟨k0, k1, k2, k3, ?_, ?_, k6, k7, k8, k9, k10⟩, Or.inl ⟨rfl, rfl⟩, Or.inl ⟨rfl, rfl⟩⟩
  · rw [show hiOf ((oneS n).vs[0]).t = 0 from HH.out.1]; exact k4
  · rw [show loOf ((oneS n).vs[0]).t = (n : Int) from HH.out.2]; exact k5
end Go.Proofs.YtckdkcnnfjbdmaaGreat
/- Two snapshots of one counter. Own work of the verifier. -/
namespace Go.Proofs.YtckdkcnnfjbdmaaGreat

theorem one_ord (n m : Nat) : La.ordD (oneV n).d (oneV m).d = 0 := (La.ordD_zero _ _).2 ⟨rfl, rfl⟩
theorem one_unl (n m : Nat) : unlB (oneV n) (oneV m) = false := by simp [unlB, oneV]
theorem one_join (n m : Nat) (h : n + m < 9223372036854775808) : joinV (oneV n) (oneV m) = (oneV (n + m), 0) := by
  have hr : rnd ((oneV n).t + (oneV m).t) = ((n + m : Nat) : Int) := by
    show rnd ((n : Int) + (m : Int)) = _
    rw [rnd_of ⟨by omega, by omega⟩, Int.natCast_add]
  have hF : jF (oneV n) (oneV m) = (0, 0, 0) := by
    unfold jF
    rw [if_pos (show (oneV n).n = 0 from rfl)]
    rfl
  have hC : mrgC (oneV n).cs (oneV m).cs = [] := mrgC_eq isMerge_nil
  have hN : ((oneV n).n + (oneV m).n) % 18446744073709551616 = 0 := rfl
  unfold joinV
  rw [hr, hN, hF, if_neg (by rintro (k | k) <;> omega), if_neg (by decide)]
  unfold jV
  rw [hr, hN, hF, hC]
  rfl
theorem one_all (n m : Nat) : mAllV (oneS n).vs (oneS m).vs = [oneV n, oneV m] := by
  show mAllV [oneV n] [oneV m] = _
  rw [mAllV, if_pos (by rw [one_ord]; decide), mAllV]
theorem one_mv (n m : Nat) (h : n + m < 9223372036854775808) : mvL [oneV n, oneV m] = ([oneV (n + m)], 0) := by
  unfold mvL
  have h1 : unN none [oneV n, oneV m] = false := by rw [unN, unN, one_unl]; rfl
  have h2 : serN none [oneV n, oneV m] = 1 := by rw [serN, serN, if_neg (by simp [one_ord])]; rfl
  rw [h1, h2, if_neg (by decide), if_neg (by decide), jnL, jnL, if_neg (by simp [one_ord]), one_join n m h, if_neg (by simp), jnL]
  rfl
theorem one_merge (n m : Nat) (h : n + m < 9223372036854775808) : mgS (oneS n) (oneS m) = (oneS (n + m), 0) := by
  unfold mgS
  rw [one_chkS, one_chkS, one_all, one_mv n m h, if_neg (by simp), if_neg (by simp), if_neg (by simp [oneS]), if_neg (by simp), if_neg (by simp [oneS])]
  rfl
end Go.Proofs.YtckdkcnnfjbdmaaGreat
/- THE LAW'S fixed. Own work of the verifier. -/
namespace Go.Proofs.YtckdkcnnfjbdmaaGreat
open Go.RowKit Me

theorem one_find (n : Nat) : fndS (oneS n) [99] [] = (oneV n, 0) := by
  have h : hitB (qV [99] []) (oneV n) = true := by
    unfold hitB
    rw [(La.ordD_zero (oneV n).d (qV [99] []).d).2 ⟨rfl, rfl⟩]
    rfl
  have e : fdI (qV [99] []) (oneS n).vs 0 = 0 := by
    show fdI (qV [99] []) [oneV n] 0 = 0
    rw [fdI, if_pos h]
    rfl
  unfold fndS
  rw [e, if_neg (by decide)]
  rfl
theorem one_none (n : Nat) : fndS (oneS n) [100] [] = (zV, 6) := by
  have h : hitB (qV [100] []) (oneV n) = false := by
    unfold hitB
    rw [beq_eq_false_iff_ne]
    intro k
    have : ([99] : List UInt8) = [100] := ((La.ordD_zero _ _).1 k).1
    exact absurd this (by decide)
  have e : fdI (qV [100] []) (oneS n).vs 0 = -1 := by
    show fdI (qV [100] []) [oneV n] 0 = -1
    rw [fdI, if_neg (by rw [h]; decide)]
    rfl
  unfold fndS
  rw [e, if_pos (by decide)]
theorem one_same (n m : Nat) : smS (oneS n) (oneS m) = decide (n = m) := by
  show (decide ((2 : Int) = 2) && (decide (0 = 0) && (smV (oneV n) (oneV m) && true))) = decide (n = m)
  have e : smV (oneV n) (oneV m) = decide (n = m) := by
    unfold smV
    show (decide _ && (decide ((n : Int) = (m : Int)) && (decide ([] = []) && (decide (0 = 0) && (Re.sF 0 0 && Re.sF 0 0 && Re.sF 0 0))))) = _
    have e1 : Re.sF 0 0 = true := by rw [Re.sF_eq]; simp
    have e2 : decide ((n : Int) = (m : Int)) = decide (n = m) := decide_eq_decide.2 (by omega)
    rw [e1, e2]
    simp [oneV]
  rw [e]
  simp
theorem zero_chk : chkS ⟨0, [], 0⟩ = (1, 0) := by
  unfold chkS
  rw [if_pos (Or.inl (by decide))]
theorem JV.svA {w W : World} {v : Value} {J : List Rv} (h : JV w v J W) : SV W v (J.map (·.1)) := h.g.sv (fun r hr => ⟨(h.el r hr).1.slb, (h.el r hr).2.sn h.g.size⟩)
/-- What fixed holds on to: the merged snapshot, the Total that was found. -/
abbrev Fx (w : World) (b c : Nat) (ao : Option Addr) (cap : Nat) (W : World) : Prop := W.cell? ⟨b, 0, none⟩ = some (.int .i64 2) ∧ W.cell? ⟨b, 1, none⟩ = some (.slice ao 1 cap) ∧ W.cell? ⟨b, 2, none⟩ = some (.int .u64 0) ∧ W.cell? ⟨c, 5, none⟩ = some (.int .u64 11) ∧ Hid (SnAt W (oneS 11) (.agg #[.int .i64 2, .slice ao 1 cap, .int .u64 0])) ∧ Hid (Below w.heap.size w W)
theorem fx_keep {w W W1 : World} {b c : Nat} {ao : Option Addr} {cap : Nat} (hb : Below W.heap.size W W1) (h : Fx w b c ao cap W) : Fx w b c ao cap W1 := ⟨cellB hb h.1, cellB hb h.2.1, cellB hb h.2.2.1, cellB hb h.2.2.2.1, h.2.2.2.2.1.out.below hb, bt h.2.2.2.2.2.out hb⟩
set_option maxRecDepth 100000 in
set_option maxHeartbeats 8000000 in
theorem fixed_any (w : World) : Calls Tryz.prog 9 #[] w fun e w' => e = .returned (.bool true) ∧ Below w.heap.size w w' := by
  have H1 : ∀ n : Nat, n < 9223372036854775808 → Hid (∀ W, Calls Tryz.prog 27 #[.int .u64 (n : Int)] W fun e w' => ∃ v, e = .returned v ∧ SnAt w' (oneS n) v ∧ Below W.heap.size W w') := fun n h W => one_any n h W
  have O5 : Hid (∀ W, Calls Tryz.prog 27 #[.int .u64 5] W fun e w' => ∃ v, e = .returned v ∧ SnAt w' (oneS 5) v ∧ Below W.heap.size W w') := H1 5 (by decide)
  have O6 : Hid (∀ W, Calls Tryz.prog 27 #[.int .u64 6] W fun e w' => ∃ v, e = .returned v ∧ SnAt w' (oneS 6) v ∧ Below W.heap.size W w') := H1 6 (by decide)
  have O11 : Hid (∀ W, Calls Tryz.prog 27 #[.int .u64 11] W fun e w' => ∃ v, e = .returned v ∧ SnAt w' (oneS 11) v ∧ Below W.heap.size W w') := H1 11 (by decide)
  have O10 : Hid (∀ W, Calls Tryz.prog 27 #[.int .u64 10] W fun e w' => ∃ v, e = .returned v ∧ SnAt w' (oneS 10) v ∧ Below W.heap.size W w') := H1 10 (by decide)
  clear H1
  have HC : Hid (∀ W v, SnAt W (oneS 5) v → Calls Tryz.prog 10 #[v] W fun e w' => e = two 0 0 ∧ Below W.heap.size W w') := fun W v h => by
    have := check_any (oneS 5) v (one_W 5 (by decide)) W h
    rw [one_chkS] at this
    exact this
  have HZ : Hid (∀ W, Calls Tryz.prog 10 #[.agg #[.int .i64 0, .slice none 0 0, .int .u64 0]] W fun e w' => e = two 1 0 ∧ Below W.heap.size W w') := fun W => by
    have := check_any ⟨0, [], 0⟩ (.agg #[.int .i64 0, .slice none 0 0, .int .u64 0]) ⟨fun x hx => absurd hx (by simp), by show 0 < _; omega⟩ W ⟨.slice none 0 0, rfl, Or.inl ⟨rfl, rfl⟩⟩
    rw [zero_chk] at this
    exact this
  have HM : Hid (∀ W v u, SnAt W (oneS 5) v → SnAt W (oneS 6) u → Calls Tryz.prog 12 #[v, u] W fun e w' => ∃ ao cap, e = .returned (.tuple #[.agg #[.int .i64 2, .slice ao 1 cap, .int .u64 0], .int .i64 0]) ∧ SnAt w' (oneS 11) (.agg #[.int .i64 2, .slice ao 1 cap, .int .u64 0]) ∧ Below W.heap.size W w') := fun W v u h k => by
    refine (merge_any (oneS 5) (oneS 6) v u (one_W 5 (by decide)) (one_W 6 (by decide)) W h k).mono ?_
    rintro e w' ⟨x, J, rfl, hb, hj, hJ⟩
    rw [one_merge 5 6 (by decide)] at hJ
    have hs := hj.svA
    rw [hJ] at hs
    obtain ⟨ao, g, cap, rfl, -⟩ := own_slice hj.g.own
    have hl : J.length = 1 := by have := congrArg List.length hJ; simpa [oneS] using this
    rw [hl] at hs ⊢
    rw [one_merge 5 6 (by decide)]
    exact ⟨ao, cap, rfl, ⟨_, rfl, hs⟩, hb⟩
  have hi11 : hiOf (11 : Int) = 0 := by decide
  have lo11 : loOf (11 : Int) = 11 := by decide
  have HF : Hid (∀ W v, SnAt W (oneS 11) v → Calls Tryz.prog 16 #[v, .string ⟨#[99]⟩, .slice none 0 0] W fun e w' => ∃ la lc ca cc, e = .returned (.tuple #[.agg #[.int .i64 1, .string ⟨#[99]⟩, .string ⟨#[]⟩, .slice la 0 lc, .int .i64 0, .int .u64 11, .slice ca 0 cc, .int .u64 0, .float .f64 0, .float .f64 0, .float .f64 0], .int .i64 0]) ∧ Below W.heap.size W w') := fun W v h => by
    refine (find_any (oneS 11) v [99] (.slice none 0 0) [] W h (Or.inl ⟨rfl, rfl⟩) (fun x hx => by
      rw [show (oneS 11).vs = [oneV 11] from rfl, List.mem_singleton] at hx
      subst hx
      exact ⟨by show 0 ≤ _; omega, by show 0 ≤ _; omega⟩)).mono ?_
    rintro e w' ⟨lv, cv, rfl, h1, h2, hb⟩
    rw [one_find] at h1 h2
    obtain ⟨la, g, lc, rfl, -⟩ := own_slice h1
    obtain ⟨ca, g', cc, rfl, -⟩ := own_slice h2
    refine ⟨la, lc, ca, cc, ?_, hb⟩
    rw [one_find]
    show Ending.returned (.tuple #[.agg #[.int .i64 1, .string ⟨#[99]⟩, .string ⟨#[]⟩, .slice la 0 lc, .int .i64 (hiOf (11 : Int)), .int .u64 (loOf (11 : Int)), .slice ca 0 cc, .int .u64 0, .float .f64 0, .float .f64 0, .float .f64 0], .int .i64 0]) = _
    rw [hi11, lo11]
  have HG : Hid (∀ W v, SnAt W (oneS 11) v → Calls Tryz.prog 16 #[v, .string ⟨#[100]⟩, .slice none 0 0] W fun e w' => ∃ la lc ca cc, e = .returned (.tuple #[.agg #[.int .i64 0, .string ⟨#[]⟩, .string ⟨#[]⟩, .slice la 0 lc, .int .i64 0, .int .u64 0, .slice ca 0 cc, .int .u64 0, .float .f64 0, .float .f64 0, .float .f64 0], .int .i64 6]) ∧ Below W.heap.size W w') := fun W v h => by
    refine (find_any (oneS 11) v [100] (.slice none 0 0) [] W h (Or.inl ⟨rfl, rfl⟩) (fun x hx => by
      rw [show (oneS 11).vs = [oneV 11] from rfl, List.mem_singleton] at hx
      subst hx
      exact ⟨by show 0 ≤ _; omega, by show 0 ≤ _; omega⟩)).mono ?_
    rintro e w' ⟨lv, cv, rfl, h1, h2, hb⟩
    rw [one_none] at h1 h2
    obtain ⟨la, g, lc, rfl, -⟩ := own_slice h1
    obtain ⟨ca, g', cc, rfl, -⟩ := own_slice h2
    refine ⟨la, lc, ca, cc, ?_, hb⟩
    rw [one_none]
    rfl
  have HS : Hid (∀ W v u, SnAt W (oneS 11) v → SnAt W (oneS 11) u → Calls Tryz.prog 21 #[v, u] W fun e w' => e = .returned (.bool true) ∧ Below W.heap.size W w') := fun W v u h k => by
    have := csames_any (oneS 11) (oneS 11) v u (one_W 11 (by decide)) (one_W 11 (by decide)) W h k
    rw [one_same] at this
    exact this
  have HN : Hid (∀ W v u, SnAt W (oneS 11) v → SnAt W (oneS 10) u → Calls Tryz.prog 21 #[v, u] W fun e w' => e = .returned (.bool false) ∧ Below W.heap.size W w') := fun W v u h k => by
    have := csames_any (oneS 11) (oneS 10) v u (one_W 11 (by decide)) (one_W 10 (by decide)) W h k
    rw [one_same] at this
    exact this
  have sF := store_f
  clear hi11 lo11
  go_enter Tryz.func9, Tryz.ntmps9
  go_upto_region 2 with (first
    | (go_at_call 27; (with_reducible refine (O5.out _).mono ?_); rintro e w1 ⟨v1, rfl, h1, hb1⟩)
    | (go_at_call 10; (with_reducible refine (HC.out _ _ h1).mono ?_); rintro e w2 ⟨rfl, hb2⟩))
  have B2 := hid_of (bt hb1 hb2)
  clear h1 hb1 hb2 HC
  go_upto_region 3 with (first
    | (go_at_call 27; (with_reducible refine (O5.out _).mono ?_); rintro e w3 ⟨v3, rfl, h3, hb3⟩)
    | (go_at_call 27; (with_reducible refine (O6.out _).mono ?_); rintro e w4 ⟨v4, rfl, h4, hb4⟩)
    | (go_at_call 12; (with_reducible refine (HM.out _ _ _ (h3.below hb4) h4).mono ?_); rintro e w5 ⟨ao, cap, rfl, h5, hb5⟩))
  have B5 := hid_of (bt (bt (bt B2.out hb3) hb4) hb5)
  have HX5 := hid_of (fun T => (⟨by simp [go_sem], by simp [go_sem], by simp [go_sem]⟩ : ((w5.alloc (.cells #[.int .i64 2, .slice ao 1 cap, .int .u64 0] T)).cell? ⟨w5.heap.size, 0, none⟩ = some (.int .i64 2) ∧ (w5.alloc (.cells #[.int .i64 2, .slice ao 1 cap, .int .u64 0] T)).cell? ⟨w5.heap.size, 1, none⟩ = some (.slice ao 1 cap) ∧ (w5.alloc (.cells #[.int .i64 2, .slice ao 1 cap, .int .u64 0] T)).cell? ⟨w5.heap.size, 2, none⟩ = some (.int .u64 0))))
  obtain ⟨a0, a1, a2⟩ := HX5.out 26
  have hS6 := h5.below (bel1 w5 (.cells #[.int .i64 2, .slice ao 1 cap, .int .u64 0] 26))
  have B6 := hid_of (bt B5.out (bel1 w5 (.cells #[.int .i64 2, .slice ao 1 cap, .int .u64 0] 26)))
  clear HX5 h3 h4 h5 hb3 hb4 hb5 B2 B5 O5 O6 HM
  generalize w5.alloc (.cells #[.int .i64 2, .slice ao 1 cap, .int .u64 0] 26) = w6 at *
  generalize w5.heap.size = b at *
  have HS6 := hid_of hS6
  clear hS6
  go_upto_region 4 with (go_at_call 16; (with_reducible refine (HF.out _ _ HS6.out).mono ?_); rintro e w7 ⟨la, lc, ca, cc, rfl, hb7⟩)
  have hb8 := bt hb7 (bel1 w7 (.cells #[.int .i64 1, .string ⟨#[99]⟩, .string ⟨#[]⟩, .slice la 0 lc, .int .i64 0, .int .u64 11, .slice ca 0 cc, .int .u64 0, .float .f64 0, .float .f64 0, .float .f64 0] 45))
  have c5 : (w7.alloc (.cells #[.int .i64 1, .string ⟨#[99]⟩, .string ⟨#[]⟩, .slice la 0 lc, .int .i64 0, .int .u64 11, .slice ca 0 cc, .int .u64 0, .float .f64 0, .float .f64 0, .float .f64 0] 45)).cell? ⟨w7.heap.size, 5, none⟩ = some (.int .u64 11) := by simp [go_sem]
  have hF8 := (⟨cellB hb8 a0, cellB hb8 a1, cellB hb8 a2, c5, HS6.out.below hb8, bt B6.out hb8⟩ : Fx w b w7.heap.size ao cap _)
  clear a0 a1 a2 c5 hb8 hb7 B6 HS6 HF
  generalize w7.alloc (.cells #[.int .i64 1, .string ⟨#[99]⟩, .string ⟨#[]⟩, .slice la 0 lc, .int .i64 0, .int .u64 11, .slice ca 0 cc, .int .u64 0, .float .f64 0, .float .f64 0, .float .f64 0] 45) = w8 at *
  generalize w7.heap.size = c at *
  have HF8 := hid_of hF8
  obtain ⟨a0, a1, a2, a3, -, -⟩ := hF8
  go_upto_region 5 with (go_at_call 16; (with_reducible refine (HG.out _ _ HF8.out.2.2.2.2.1.out).mono ?_); rintro e w9 ⟨la', lc', ca', cc', rfl, hb9⟩)
  have hb10 := bt hb9 (bel1 w9 (.cells #[.int .i64 0, .string ⟨#[]⟩, .string ⟨#[]⟩, .slice la' 0 lc', .int .i64 0, .int .u64 0, .slice ca' 0 cc', .int .u64 0, .float .f64 0, .float .f64 0, .float .f64 0] 45))
  have HFa := hid_of (fx_keep hb10 HF8.out)
  clear a0 a1 a2 a3 HF8 hb9 hb10 HG
  generalize w9.alloc (.cells #[.int .i64 0, .string ⟨#[]⟩, .string ⟨#[]⟩, .slice la' 0 lc', .int .i64 0, .int .u64 0, .slice ca' 0 cc', .int .u64 0, .float .f64 0, .float .f64 0, .float .f64 0] 45) = w10 at *
  go_upto_region 6 with (go_at_call 10; (with_reducible refine (HZ.out _).mono ?_); rintro e w11 ⟨rfl, hb11⟩)
  have hG0 := fx_keep hb11 HFa.out
  clear HFa hb11 HZ sF
  go_region_held3 (fun W => Fx w b c ao cap W)
    (first | assumption | exact fx_keep (by assumption) (by assumption) | exact fx_keep (drew_bel _) hG0)
    (first
      | (go_at_call 27; (with_reducible refine Calls.mono (O11.out _) ?_); rintro e wa ⟨va, rfl, hva, hba⟩; have hka := fx_keep hba (by first | assumption | exact fx_keep (drew_bel _) hG0))
      | (go_at_call 21; (with_reducible refine Calls.mono (HS.out _ _ _ hka.2.2.2.2.1.out hva) ?_); rintro e wb ⟨rfl, hbb⟩; have hkb := fx_keep hbb hka)
      | (go_at_call 27; (with_reducible refine Calls.mono (O10.out _) ?_); rintro e wc ⟨vc, rfl, hvc, hbc⟩; have hkc := fx_keep hbc hkb)
      | (go_at_call 21; (with_reducible refine Calls.mono (HN.out _ _ _ hkc.2.2.2.2.1.out hvc) ?_); rintro e wd ⟨rfl, hbd⟩; have hkd := fx_keep hbd hkc))
  rename_i hGe
  go_wp2_with fail
  go_ret
  exact ⟨rfl, hGe.2.2.2.2.2.out⟩
end Go.Proofs.YtckdkcnnfjbdmaaGreat
