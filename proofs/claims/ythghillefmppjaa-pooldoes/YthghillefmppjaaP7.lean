/- PoolDoes: THE WALK. Own work of the verifier. -/
import Derived.Test.YthghillefmppjaaDr
namespace Go.Proofs.Ythghillefmppjaa
open Go.RowKit

theorem step_any (bp br gr : Nat) (T : List Bool) (k n : Int) (o : Bool) (w : World) (hp : CP w bp T) (hr : RP w br gr T) (hT : T.length ≤ 16) :
    Calls Try.prog 8 #[.pointer (some ⟨bp, 0, none⟩), .pointer (some ⟨br, 0, none⟩), .agg #[.int .i64 k, .int .i64 n, .bool o]] w fun e w' => e = .returned (.bool true) ∧ StQ bp br gr T w w' := by
  by_cases h1 : k = 1
  · subst h1
    exact step_take bp br gr T n o w hp hr hT
  · by_cases h2 : k = 2
    · subst h2
      exact step_give bp br gr T n o w hp hr hT
    · exact step_free bp br gr T k n o w hp hr hT h1 h2
/-- Both pools, somewhere in the call's own memory. -/
def PB (w : World) (bp br gr : Nat) (W : World) : Prop := ∃ T : List Bool, T.length ≤ 16 ∧ CP W bp T ∧ RP W br gr T ∧ w.heap.size ≤ bp ∧ w.heap.size ≤ gr
theorem PB.bel {w : World} {bp br gr : Nat} {W W' : World} (h : PB w bp br gr W) (hb : Below W.heap.size W W') : PB w bp br gr W' := by
  obtain ⟨T, h1, h2, h3, h4⟩ := h
  exact ⟨T, h1, h2.bel hb, h3.bel hb, h4⟩
theorem PB.step {w : World} {bp br gr : Nat} {W : World} (h : PB w bp br gr W) (k n : Int) (o : Bool) (hW : Below w.heap.size w W) :
    Calls Try.prog 8 #[.pointer (some ⟨bp, 0, none⟩), .pointer (some ⟨br, 0, none⟩), .agg #[.int .i64 k, .int .i64 n, .bool o]] W fun e w' => e = .returned (.bool true) ∧ Hid (PB w bp br gr w') ∧ Hid (Chg (fun y => y = bp ∨ y = gr) W w') ∧ Hid (Below w.heap.size w w') := by
  obtain ⟨T, h1, h2, h3, h4, h5⟩ := h
  refine (step_any bp br gr T k n o W h2 h3 h1).mono ?_
  rintro e w' ⟨rfl, T', q1, q2, q3, q4⟩
  exact ⟨rfl, ⟨T', by omega, q2, q3, h4, h5⟩, q4, hW.trans (q4.below hW.size (fun x hx => by omega))⟩
theorem rp_nerb {W : World} {b g g' : Nat} {T T' : List Bool} (h : RP W b g T) (h' : RB W g' T') : b ≠ g' := fun e => by
  have h1 := h.blk
  unfold RB at h'
  rw [e, h'] at h1
  injection h1 with h1
  injection h1 with _ h1
  exact absurd h1 (by decide)
theorem PB.other {w : World} {bp br gr bq bs gs : Nat} {W W' : World} (h : PB w bp br gr W) (h' : PB w bq bs gs W) (c : Chg (fun y => y = bp ∨ y = gr) W W') (hne : bp ≠ bq ∧ gr ≠ gs) : PB w bq bs gs W' := by
  obtain ⟨T, _, h2, h3, _, _⟩ := h
  obtain ⟨T', k1, k2, k3, k4⟩ := h'
  refine ⟨T', k1, k2.chg c ?_, k3.chg c ?_ ?_, k4⟩
  · rintro (e | e)
    · exact hne.1 e.symm
    · exact cp_ne k2 h3.row e
  · rintro (e | e)
    · exact cp_ner h2 k3 e.symm
    · exact rp_nerb k3 h3.row e
  · rintro (e | e)
    · exact cp_ne h2 k3.row e.symm
    · exact hne.2 e.symm
set_option maxRecDepth 10000 in
set_option maxHeartbeats 4000000 in
theorem pd_yy (n : Nat) (k : Nat) (n1 : 1 ≤ n) (n2 : n ≤ 16) (k1 : 1 ≤ k) (k2 : k ≤ 16) (ao : Option Addr) (b off cap : Nat) (L : List Sp) (w : World) (hL : SS w b off L) (hao : 0 < L.length → ao = some ⟨b, off, none⟩) (hlen : L.length ≤ 9223372036854775807) :
    Calls Try.prog 3 #[.int .i64 (n : Int), .int .i64 (k : Int), .slice ao L.length cap] w fun e w' => e = .returned (.bool true) ∧ Below w.heap.size w w' := by
  have HF : Hid (∀ W, Calls Try.prog 5 #[] W fun e w' => e = .returned (.bool true) ∧ Hid (Below W.heap.size W w')) := fixed_any
  have Pn : Hid (∀ W, Calls Try.prog 6 #[.int .i64 (n : Int)] W fun e w' => e = .returned (.tuple #[.pointer (some ⟨W.heap.size, 0, none⟩), .int .i64 0]) ∧ Hid (CP w' W.heap.size (List.replicate n false)) ∧ Hid (Below W.heap.size W w')) := fun W => new_ok n n1 n2 W
  have Rn : Hid (∀ W, Calls Try.prog 7 #[.int .i64 (n : Int)] W fun e w' => e = .returned (.tuple #[.pointer (some ⟨W.heap.size + 1, 0, none⟩), .int .i64 0]) ∧ Hid (RP w' (W.heap.size + 1) W.heap.size (List.replicate n false)) ∧ Hid (Below W.heap.size W w')) := fun W => rnew_ok n n1 n2 W
  have Pk : Hid (∀ W, Calls Try.prog 6 #[.int .i64 (k : Int)] W fun e w' => e = .returned (.tuple #[.pointer (some ⟨W.heap.size, 0, none⟩), .int .i64 0]) ∧ Hid (CP w' W.heap.size (List.replicate k false)) ∧ Hid (Below W.heap.size W w')) := fun W => new_ok k k1 k2 W
  have Rk : Hid (∀ W, Calls Try.prog 7 #[.int .i64 (k : Int)] W fun e w' => e = .returned (.tuple #[.pointer (some ⟨W.heap.size + 1, 0, none⟩), .int .i64 0]) ∧ Hid (RP w' (W.heap.size + 1) W.heap.size (List.replicate k false)) ∧ Hid (Below W.heap.size W w')) := fun W => rnew_ok k k1 k2 W
  have Hn : Hid (n ≤ 16) := n2
  have Hk : Hid (k ≤ 16) := k2
  have HL := hid_of hL
  clear hL n1 k1 n2 k2
  go_enter Try.func3, Try.ntmps3
  go_upto_region 2 with (go_at_call 5; with_reducible refine (HF.out _).mono ?_; rintro e w0 ⟨rfl, B0⟩)
  go_upto_region 3 with (go_at_call 6; with_reducible refine (Pn.out _).mono ?_; rintro e w1 ⟨rfl, C1, B1⟩)
  go_upto_region 4 with (go_at_call 7; with_reducible refine (Rn.out _).mono ?_; rintro e w2 ⟨rfl, C2, B2⟩)
  go_upto_region 5 with (go_at_call 6; with_reducible refine (Pk.out _).mono ?_; rintro e w3 ⟨rfl, C3, B3⟩)
  go_upto_region 6 with (go_at_call 7; with_reducible refine (Rk.out _).mono ?_; rintro e w4 ⟨rfl, C4, B4⟩)
  have hs1 : w0.heap.size < w1.heap.size := C1.out.lt
  have hs2 : w1.heap.size < w2.heap.size := C2.out.row.lt
  have X2 : Hid (PB w w0.heap.size (w1.heap.size + 1) w1.heap.size w2) := ⟨_, by rw [List.length_replicate]; exact Hn.out, C1.out.bel B2.out, C2.out, B0.out.size, Nat.le_trans B0.out.size (Nat.le_of_lt hs1)⟩
  have B02 : Hid (Below w.heap.size w w2) := bt (bt B0.out B1.out) B2.out
  clear C1 C2 B1 B2 B0
  generalize hp1 : w0.heap.size = bp at *
  generalize hp2 : w1.heap.size = gr at *
  clear hp1 hp2
  have ht1 : w2.heap.size < w3.heap.size := C3.out.lt
  have ht2 : w3.heap.size < w4.heap.size := C4.out.row.lt
  have Y4 : Hid (PB w w2.heap.size (w3.heap.size + 1) w3.heap.size w4) := ⟨_, by rw [List.length_replicate]; exact Hk.out, C3.out.bel B4.out, C4.out, B02.out.size, Nat.le_trans B02.out.size (Nat.le_of_lt ht1)⟩
  have B04 : Hid (Below w.heap.size w w4) := bt (bt B02.out B3.out) B4.out
  have X4 := hid_of ((X2.out.bel B3.out).bel B4.out)
  have hne : Hid (bp ≠ w2.heap.size ∧ gr ≠ w3.heap.size) := ⟨by omega, by omega⟩
  clear X2
  clear C3 C4 B3 B4 B02
  generalize hq1 : w2.heap.size = bq at *
  generalize hq2 : w3.heap.size = gs at *
  clear hq1 hq2 ht1 ht2
  clear hs1 hs2
  clear HF Pn Rn Pk Rk Hn Hk
  go_upto_region 9 with fail
  go_loopw [16] (fun x W => ∃ i : Nat, i ≤ L.length ∧ x = .int .i64 (i : Int) ∧ Hid (PB w bp (gr + 1) gr W) ∧ Hid (PB w bq (gs + 1) gs W) ∧ Hid (Below w.heap.size w W)) (fun x _ => L.length - (intOf x).toNat)
  case atStart => exact ⟨0, by omega, rfl, X4, Y4, B04⟩
  case round =>
    clear X4 Y4 B04
    obtain ⟨i, hi, rfl, X, Y, HB⟩ := hrel
    by_cases hlt : i < L.length
    · have hlt' : (i : Int) < (L.length : Int) := by omega
      obtain rfl := hao (by omega)
      obtain ⟨c0, c1, c2⟩ := HL.out.bel HB.out i hlt
      generalize L[i] = s at c0 c1 c2
      obtain ⟨sk, sn, so⟩ := s
      simp only at c0 c1 c2
      clear hao
      cases so
      · go_wp2_with (go_at_call 8; with_reducible refine (PB.step X.out _ _ _ HB.out).mono ?_; rintro e w9 ⟨rfl, Xn, Cn, Bn⟩)
        have Yn := hid_of (PB.other X.out Y.out Cn.out hne.out)
        exact ⟨⟨i + 1, by omega, by go_num, Xn, Yn, Bn⟩, by simp [intOf]; omega⟩
      · go_wp2_with (go_at_call 8; with_reducible refine (PB.step Y.out _ _ _ HB.out).mono ?_; rintro e w9 ⟨rfl, Yn, Cn, Bn⟩)
        have Xn := hid_of (PB.other Y.out X.out Cn.out ⟨fun e => hne.out.1 e.symm, fun e => hne.out.2 e.symm⟩)
        exact ⟨⟨i + 1, by omega, by go_num, Xn, Yn, Bn⟩, by simp [intOf]; omega⟩
    · have hlt' : ¬ (i : Int) < (L.length : Int) := by omega
      go_wp2_with fail
      go_ret
      exact ⟨rfl, HB.out⟩
set_option maxRecDepth 10000 in
set_option maxHeartbeats 4000000 in
theorem pd_yn (n : Nat) (k : Int) (n1 : 1 ≤ n) (n2 : n ≤ 16) (k1 : ¬ (1 ≤ k ∧ k ≤ 16)) (ao : Option Addr) (b off cap : Nat) (L : List Sp) (w : World) (hL : SS w b off L) (hao : 0 < L.length → ao = some ⟨b, off, none⟩) (hlen : L.length ≤ 9223372036854775807) :
    Calls Try.prog 3 #[.int .i64 (n : Int), .int .i64 k, .slice ao L.length cap] w fun e w' => e = .returned (.bool true) ∧ Below w.heap.size w w' := by
  have HF : Hid (∀ W, Calls Try.prog 5 #[] W fun e w' => e = .returned (.bool true) ∧ Hid (Below W.heap.size W w')) := fixed_any
  have Pn : Hid (∀ W, Calls Try.prog 6 #[.int .i64 (n : Int)] W fun e w' => e = .returned (.tuple #[.pointer (some ⟨W.heap.size, 0, none⟩), .int .i64 0]) ∧ Hid (CP w' W.heap.size (List.replicate n false)) ∧ Hid (Below W.heap.size W w')) := fun W => new_ok n n1 n2 W
  have Rn : Hid (∀ W, Calls Try.prog 7 #[.int .i64 (n : Int)] W fun e w' => e = .returned (.tuple #[.pointer (some ⟨W.heap.size + 1, 0, none⟩), .int .i64 0]) ∧ Hid (RP w' (W.heap.size + 1) W.heap.size (List.replicate n false)) ∧ Hid (Below W.heap.size W w')) := fun W => rnew_ok n n1 n2 W
  have Pk : Hid (∀ W, Calls Try.prog 6 #[.int .i64 k] W fun e w' => e = .returned (.tuple #[.pointer none, .int .i64 1]) ∧ w' = W) := fun W => new_arg k k1 W
  have Rk : Hid (∀ W, Calls Try.prog 7 #[.int .i64 k] W fun e w' => e = .returned (.tuple #[.pointer none, .int .i64 1]) ∧ w' = W) := fun W => rnew_arg k k1 W
  have Hn : Hid (n ≤ 16) := n2
  have HL := hid_of hL
  clear hL n1 k1 n2
  go_enter Try.func3, Try.ntmps3
  go_upto_region 2 with (go_at_call 5; with_reducible refine (HF.out _).mono ?_; rintro e w0 ⟨rfl, B0⟩)
  go_upto_region 3 with (go_at_call 6; with_reducible refine (Pn.out _).mono ?_; rintro e w1 ⟨rfl, C1, B1⟩)
  go_upto_region 4 with (go_at_call 7; with_reducible refine (Rn.out _).mono ?_; rintro e w2 ⟨rfl, C2, B2⟩)
  go_upto_region 5 with (go_at_call 6; with_reducible refine (Pk.out _).mono ?_; rintro e w2 ⟨rfl, rfl⟩)
  go_upto_region 6 with (go_at_call 7; with_reducible refine (Rk.out _).mono ?_; rintro e w2 ⟨rfl, rfl⟩)
  have hs1 : w0.heap.size < w1.heap.size := C1.out.lt
  have hs2 : w1.heap.size < w2.heap.size := C2.out.row.lt
  have X2 : Hid (PB w w0.heap.size (w1.heap.size + 1) w1.heap.size w2) := ⟨_, by rw [List.length_replicate]; exact Hn.out, C1.out.bel B2.out, C2.out, B0.out.size, Nat.le_trans B0.out.size (Nat.le_of_lt hs1)⟩
  have B02 : Hid (Below w.heap.size w w2) := bt (bt B0.out B1.out) B2.out
  clear C1 C2 B1 B2 B0
  generalize hp1 : w0.heap.size = bp at *
  generalize hp2 : w1.heap.size = gr at *
  clear hp1 hp2
  clear hs1 hs2
  clear HF Pn Rn Pk Rk Hn
  go_upto_region 9 with fail
  go_loopw [16] (fun x W => ∃ i : Nat, i ≤ L.length ∧ x = .int .i64 (i : Int) ∧ Hid (PB w bp (gr + 1) gr W) ∧ Hid (Below w.heap.size w W)) (fun x _ => L.length - (intOf x).toNat)
  case atStart => exact ⟨0, by omega, rfl, X2, B02⟩
  case round =>
    clear X2 B02
    obtain ⟨i, hi, rfl, X, HB⟩ := hrel
    by_cases hlt : i < L.length
    · have hlt' : (i : Int) < (L.length : Int) := by omega
      obtain rfl := hao (by omega)
      obtain ⟨c0, c1, c2⟩ := HL.out.bel HB.out i hlt
      generalize L[i] = s at c0 c1 c2
      obtain ⟨sk, sn, so⟩ := s
      simp only at c0 c1 c2
      clear hao
      cases so
      · go_wp2_with (go_at_call 8; with_reducible refine (PB.step X.out _ _ _ HB.out).mono ?_; rintro e w9 ⟨rfl, Xn, Cn, Bn⟩)
        exact ⟨⟨i + 1, by omega, by go_num, Xn, Bn⟩, by simp [intOf]; omega⟩
      · go_wp2_with fail
        exact ⟨⟨i + 1, by omega, by go_num, X, HB⟩, by simp [intOf]; omega⟩
    · have hlt' : ¬ (i : Int) < (L.length : Int) := by omega
      go_wp2_with fail
      go_ret
      exact ⟨rfl, HB.out⟩
set_option maxRecDepth 10000 in
set_option maxHeartbeats 4000000 in
theorem pd_ny (n : Int) (k : Nat) (n1 : ¬ (1 ≤ n ∧ n ≤ 16)) (k1 : 1 ≤ k) (k2 : k ≤ 16) (ao : Option Addr) (b off cap : Nat) (L : List Sp) (w : World) (hL : SS w b off L) (hao : 0 < L.length → ao = some ⟨b, off, none⟩) (hlen : L.length ≤ 9223372036854775807) :
    Calls Try.prog 3 #[.int .i64 n, .int .i64 (k : Int), .slice ao L.length cap] w fun e w' => e = .returned (.bool true) ∧ Below w.heap.size w w' := by
  have HF : Hid (∀ W, Calls Try.prog 5 #[] W fun e w' => e = .returned (.bool true) ∧ Hid (Below W.heap.size W w')) := fixed_any
  have Pn : Hid (∀ W, Calls Try.prog 6 #[.int .i64 n] W fun e w' => e = .returned (.tuple #[.pointer none, .int .i64 1]) ∧ w' = W) := fun W => new_arg n n1 W
  have Rn : Hid (∀ W, Calls Try.prog 7 #[.int .i64 n] W fun e w' => e = .returned (.tuple #[.pointer none, .int .i64 1]) ∧ w' = W) := fun W => rnew_arg n n1 W
  have Pk : Hid (∀ W, Calls Try.prog 6 #[.int .i64 (k : Int)] W fun e w' => e = .returned (.tuple #[.pointer (some ⟨W.heap.size, 0, none⟩), .int .i64 0]) ∧ Hid (CP w' W.heap.size (List.replicate k false)) ∧ Hid (Below W.heap.size W w')) := fun W => new_ok k k1 k2 W
  have Rk : Hid (∀ W, Calls Try.prog 7 #[.int .i64 (k : Int)] W fun e w' => e = .returned (.tuple #[.pointer (some ⟨W.heap.size + 1, 0, none⟩), .int .i64 0]) ∧ Hid (RP w' (W.heap.size + 1) W.heap.size (List.replicate k false)) ∧ Hid (Below W.heap.size W w')) := fun W => rnew_ok k k1 k2 W
  have Hk : Hid (k ≤ 16) := k2
  have HL := hid_of hL
  clear hL n1 k1 k2
  go_enter Try.func3, Try.ntmps3
  go_upto_region 2 with (go_at_call 5; with_reducible refine (HF.out _).mono ?_; rintro e w0 ⟨rfl, B0⟩)
  go_upto_region 3 with (go_at_call 6; with_reducible refine (Pn.out _).mono ?_; rintro e w0 ⟨rfl, rfl⟩)
  go_upto_region 4 with (go_at_call 7; with_reducible refine (Rn.out _).mono ?_; rintro e w0 ⟨rfl, rfl⟩)
  go_upto_region 5 with (go_at_call 6; with_reducible refine (Pk.out _).mono ?_; rintro e w3 ⟨rfl, C3, B3⟩)
  go_upto_region 6 with (go_at_call 7; with_reducible refine (Rk.out _).mono ?_; rintro e w4 ⟨rfl, C4, B4⟩)
  have ht1 : w0.heap.size < w3.heap.size := C3.out.lt
  have ht2 : w3.heap.size < w4.heap.size := C4.out.row.lt
  have Y4 : Hid (PB w w0.heap.size (w3.heap.size + 1) w3.heap.size w4) := ⟨_, by rw [List.length_replicate]; exact Hk.out, C3.out.bel B4.out, C4.out, B0.out.size, Nat.le_trans B0.out.size (Nat.le_of_lt ht1)⟩
  have B04 : Hid (Below w.heap.size w w4) := bt (bt B0.out B3.out) B4.out
  clear C3 C4 B3 B4 B0
  generalize hq1 : w0.heap.size = bq at *
  generalize hq2 : w3.heap.size = gs at *
  clear hq1 hq2 ht1 ht2
  clear HF Pn Rn Pk Rk Hk
  go_upto_region 9 with fail
  go_loopw [16] (fun x W => ∃ i : Nat, i ≤ L.length ∧ x = .int .i64 (i : Int) ∧ Hid (PB w bq (gs + 1) gs W) ∧ Hid (Below w.heap.size w W)) (fun x _ => L.length - (intOf x).toNat)
  case atStart => exact ⟨0, by omega, rfl, Y4, B04⟩
  case round =>
    clear Y4 B04
    obtain ⟨i, hi, rfl, Y, HB⟩ := hrel
    by_cases hlt : i < L.length
    · have hlt' : (i : Int) < (L.length : Int) := by omega
      obtain rfl := hao (by omega)
      obtain ⟨c0, c1, c2⟩ := HL.out.bel HB.out i hlt
      generalize L[i] = s at c0 c1 c2
      obtain ⟨sk, sn, so⟩ := s
      simp only at c0 c1 c2
      clear hao
      cases so
      · go_wp2_with fail
        exact ⟨⟨i + 1, by omega, by go_num, Y, HB⟩, by simp [intOf]; omega⟩
      · go_wp2_with (go_at_call 8; with_reducible refine (PB.step Y.out _ _ _ HB.out).mono ?_; rintro e w9 ⟨rfl, Yn, Cn, Bn⟩)
        exact ⟨⟨i + 1, by omega, by go_num, Yn, Bn⟩, by simp [intOf]; omega⟩
    · have hlt' : ¬ (i : Int) < (L.length : Int) := by omega
      go_wp2_with fail
      go_ret
      exact ⟨rfl, HB.out⟩
set_option maxRecDepth 10000 in
set_option maxHeartbeats 4000000 in
theorem pd_nn (n : Int) (k : Int) (n1 : ¬ (1 ≤ n ∧ n ≤ 16)) (k1 : ¬ (1 ≤ k ∧ k ≤ 16)) (ao : Option Addr) (b off cap : Nat) (L : List Sp) (w : World) (hL : SS w b off L) (hao : 0 < L.length → ao = some ⟨b, off, none⟩) (hlen : L.length ≤ 9223372036854775807) :
    Calls Try.prog 3 #[.int .i64 n, .int .i64 k, .slice ao L.length cap] w fun e w' => e = .returned (.bool true) ∧ Below w.heap.size w w' := by
  have HF : Hid (∀ W, Calls Try.prog 5 #[] W fun e w' => e = .returned (.bool true) ∧ Hid (Below W.heap.size W w')) := fixed_any
  have Pn : Hid (∀ W, Calls Try.prog 6 #[.int .i64 n] W fun e w' => e = .returned (.tuple #[.pointer none, .int .i64 1]) ∧ w' = W) := fun W => new_arg n n1 W
  have Rn : Hid (∀ W, Calls Try.prog 7 #[.int .i64 n] W fun e w' => e = .returned (.tuple #[.pointer none, .int .i64 1]) ∧ w' = W) := fun W => rnew_arg n n1 W
  have Pk : Hid (∀ W, Calls Try.prog 6 #[.int .i64 k] W fun e w' => e = .returned (.tuple #[.pointer none, .int .i64 1]) ∧ w' = W) := fun W => new_arg k k1 W
  have Rk : Hid (∀ W, Calls Try.prog 7 #[.int .i64 k] W fun e w' => e = .returned (.tuple #[.pointer none, .int .i64 1]) ∧ w' = W) := fun W => rnew_arg k k1 W
  have HL := hid_of hL
  clear hL n1 k1
  go_enter Try.func3, Try.ntmps3
  go_upto_region 2 with (go_at_call 5; with_reducible refine (HF.out _).mono ?_; rintro e w0 ⟨rfl, B0⟩)
  go_upto_region 3 with (go_at_call 6; with_reducible refine (Pn.out _).mono ?_; rintro e w0 ⟨rfl, rfl⟩)
  go_upto_region 4 with (go_at_call 7; with_reducible refine (Rn.out _).mono ?_; rintro e w0 ⟨rfl, rfl⟩)
  go_upto_region 5 with (go_at_call 6; with_reducible refine (Pk.out _).mono ?_; rintro e w0 ⟨rfl, rfl⟩)
  go_upto_region 6 with (go_at_call 7; with_reducible refine (Rk.out _).mono ?_; rintro e w0 ⟨rfl, rfl⟩)
  clear HF Pn Rn Pk Rk
  go_upto_region 9 with fail
  go_loopw [16] (fun x W => ∃ i : Nat, i ≤ L.length ∧ x = .int .i64 (i : Int) ∧ Hid (Below w.heap.size w W)) (fun x _ => L.length - (intOf x).toNat)
  case atStart => exact ⟨0, by omega, rfl, B0⟩
  case round =>
    clear B0
    obtain ⟨i, hi, rfl, HB⟩ := hrel
    by_cases hlt : i < L.length
    · have hlt' : (i : Int) < (L.length : Int) := by omega
      obtain rfl := hao (by omega)
      obtain ⟨c0, c1, c2⟩ := HL.out.bel HB.out i hlt
      generalize L[i] = s at c0 c1 c2
      obtain ⟨sk, sn, so⟩ := s
      simp only at c0 c1 c2
      clear hao
      cases so
      · go_wp2_with fail
        exact ⟨⟨i + 1, by omega, by go_num, HB⟩, by simp [intOf]; omega⟩
      · go_wp2_with fail
        exact ⟨⟨i + 1, by omega, by go_num, HB⟩, by simp [intOf]; omega⟩
    · have hlt' : ¬ (i : Int) < (L.length : Int) := by omega
      go_wp2_with fail
      go_ret
      exact ⟨rfl, HB.out⟩
end Go.Proofs.Ythghillefmppjaa
