/- THE LAW'S free. Own work of the verifier. -/
import Derived.Test.YthghillefmppjaaP4
namespace Go.Proofs.Ythghillefmppjaa
open Go.RowKit

theorem Tx.form {w : World} {x y : Value} {X Y : List Int} {W : World} (h : Tx w x y X Y W) : ∃ ao g cap, x = .slice ao X.length cap ∧ (0 < X.length → ao = some ⟨g, 0, none⟩) := own_slice h.ox
theorem Tx.over {w : World} {y : Value} {A Y : List Int} {W : World} {g n cap : Nat} {m : Int} {q : Nat} (h : Hid (Tx w (.slice (some ⟨g, 0, none⟩) n cap) y (rp q m ++ A.drop q) Y W)) (hn : A.length = n) (hq : q < n) : Hid (Tx w (.slice (some ⟨g, 0, none⟩) n cap) y (rp (q + 1) m ++ A.drop (q + 1)) Y (W.setCell ⟨g, q, none⟩ (.int .i64 m))) := by
  unfold Hid at *
  have := h.set q m (by rw [List.length_append, rp_len, List.length_drop]; omega)
  rw [rp_over A m q (by omega)] at this
  exact this
theorem over_len {A : List Int} {m : Int} {q n : Nat} (hn : A.length = n) (hq : q ≤ n) : (rp q m ++ A.drop q).length = n := by rw [List.length_append, rp_len, List.length_drop]; omega
theorem over_done {A : List Int} {m : Int} {n : Nat} (hn : A.length = n) : rp n m ++ A.drop n = rp n m := by rw [List.drop_of_length_le (by omega), List.append_nil]
theorem Tw.formU {w : World} {x y u v : Value} {n m k : Nat} {a b : Int} {W : World} (h : Tw w x y u v n m k a b W) : ∃ ao g cap, u = .slice ao (n + m) cap ∧ (0 < n + m → ao = some ⟨g, 0, none⟩) := by
  have := own_slice h.ou
  rw [rp_len] at this
  exact this
set_option maxRecDepth 10000 in
set_option maxHeartbeats 4000000 in
theorem lfree_any (bp br gr : Nat) (T : List Bool) (w : World) (hp : CP w bp T) (hr : RP w br gr T) (hT : T.length ≤ 16) :
    Calls Try.prog 14 #[.pointer (some ⟨bp, 0, none⟩), .pointer (some ⟨br, 0, none⟩)] w fun e w' => e = .returned (.bool true) ∧ Below w.heap.size w w' := by
  obtain ⟨i0, hi0, hz0, hz1, hz2⟩ := info_parts infoI
  have HP := hid_of hp
  have HR := hid_of hr
  have HF : Hid (∀ W, CP W bp T → Calls Try.prog 17 #[.pointer (some ⟨bp, 0, none⟩)] W fun e w' => ∃ v, e = .returned v ∧ Hid (FI W v (fr 0 T) w')) := fun W h => free_any bp T W h hT
  have HG : Hid (∀ W, RP W br gr T → Calls Try.prog 16 #[.pointer (some ⟨br, 0, none⟩)] W fun e w' => ∃ v, e = .returned v ∧ Hid (FI W v (fr 0 T) w')) := fun W h => rfree_any br gr T W h hT
  have HS : Hid (∀ B B' v v' (L : List Int) W, OwnI B v L W → OwnI B' v' L W → L.length ≤ 1000 → _) := same_any
  have hl := fr_len T 0
  clear hp hr
  obtain ⟨L, hL⟩ : ∃ L, fr 0 T = L := ⟨_, rfl⟩
  rw [hL] at HF HG hl
  clear hL
  obtain ⟨n, hn⟩ : ∃ n, L.length = n := ⟨_, rfl⟩
  have HN := hid_of hn
  have hn16 : n ≤ 16 := by omega
  clear hn hl
  go_enter Try.func14, Try.ntmps14
  go_upto_region 4 with (first
    | (go_at_call 16; with_reducible refine (HG.out _ HR.out).mono ?_; rintro e w1 ⟨v1, rfl, H1⟩)
    | (go_at_call 17; with_reducible refine (HF.out _ (HP.out.bel H1.out.bel)).mono ?_; rintro e w2 ⟨v2, rfl, H2⟩)
    | (go_at_call 17; with_reducible refine (HF.out _ ((HP.out.bel H1.out.bel).bel H2.out.bel)).mono ?_; rintro e w3 ⟨v3, rfl, H3⟩))
  have HX : Hid (Tx w v2 v3 L L w3) := ⟨own_leG (H2.out.own.bel H3.out.bel) H1.out.bel.size, own_leG H3.out.own (Nat.le_trans H1.out.bel.size H2.out.bel.size), fun k a b => by
    have q1 := (own_geI H2.out.own k a).2
    have q2 := (own_geI H3.out.own k b).1
    omega, bt (bt H1.out.bel H2.out.bel) H3.out.bel⟩
  have HV : Hid (OwnI w.heap.size v1 L w3) := (H1.out.own.bel H2.out.bel).bel H3.out.bel
  clear HF HG H1 H2 H3 HP HR
  go_upto_region 7 with (first
    | (go_at_call 18; with_reducible refine (HS.out _ _ _ _ _ _ HX.out.ox HV.out (by rw [HN.out]; omega)).mono ?_; rintro e w4 ⟨rfl, n4, rfl⟩)
    | (go_at_call 18; with_reducible refine (HS.out _ _ _ _ _ _ (HX.out.oy.bel (bel_drewN (Below.refl _ _) n4)) (HV.out.bel (bel_drewN (Below.refl _ _) n4)) (by rw [HN.out]; omega)).mono ?_; rintro e w5 ⟨rfl, n5, rfl⟩))
  have HX1 := hid_of (HX.out.bel' (bel_drewN (Below.refl _ _) (n4 + n5)))
  clear HX HV HS
  generalize w3.drewN (n4 + n5) = w5 at *
  obtain ⟨ax, gx, cx, hx1, hx2⟩ := HX1.out.form
  obtain ⟨ay, gy, cy, hy1, hy2⟩ := HX1.out.symm.form
  rw [HN.out] at hx1 hx2 hy1 hy2
  subst hx1
  subst hy1
  go_loopw [10] (fun i W => ∃ q : Nat, q ≤ n ∧ i = .int .i64 (q : Int) ∧ Hid (Tx w (.slice ax n cx) (.slice ay n cy) (rp q (-1) ++ L.drop q) L W)) (fun i _ => n - (intOf i).toNat)
  case atStart => exact ⟨0, by omega, rfl, HX1⟩
  case round =>
    clear HX1
    obtain ⟨q, hq, rfl, HW⟩ := hrel
    by_cases hql : q < n
    · have hql' : (q : Int) < (n : Int) := by omega
      obtain rfl := hx2 (by omega)
      obtain ⟨⟨y0, c0⟩, f0⟩ := own_any HW.out.ox (over_len HN.out hq) q hql
      have HWn := Tx.over HW HN.out hql
      clear HW hx2 hy2
      go_wp2_with fail
      exact ⟨⟨q + 1, by omega, by go_num, HWn⟩, by simp [intOf]; omega⟩
    · have hql' : ¬ (q : Int) < (n : Int) := by omega
      have hqe : q = n := by omega
      subst hqe
      rw [over_done HN.out] at HW
      have HY1 := hid_of HW.out.symm
      clear HW
      go_upto_region 11 with fail
      go_loopw [11] (fun i W => ∃ r : Nat, r ≤ q ∧ i = .int .i64 (r : Int) ∧ Hid (Tx w (.slice ay q cy) (.slice ax q cx) (rp r (-2) ++ L.drop r) (rp q (-1)) W)) (fun i _ => q - (intOf i).toNat)
      case atStart => exact ⟨0, by omega, rfl, HY1⟩
      case round =>
        clear HY1
        obtain ⟨r, hr, rfl, HW⟩ := hrel
        by_cases hrl : r < q
        · have hrl' : (r : Int) < (q : Int) := by omega
          obtain rfl := hy2 (by omega)
          obtain ⟨⟨y0, c0⟩, f0⟩ := own_any HW.out.ox (over_len HN.out hr) r hrl
          have HWn := Tx.over HW HN.out hrl
          clear HW hx2 hy2
          go_wp2_with fail
          exact ⟨⟨r + 1, by omega, by go_num, HWn⟩, by simp [intOf]; omega⟩
        · have hrl' : ¬ (r : Int) < (q : Int) := by omega
          have hre : r = q := by omega
          subst hre
          rw [over_done HN.out] at HW
          have HT := hid_of (Tw.start HW.out.symm)
          clear HW
          go_upto_region 17 with fail
          go_loopw [12, 13, 14] (fun u v i W => ∃ k : Nat, k ≤ 20 ∧ i = .int .i64 (k : Int) ∧ Hid (Tw w (.slice ax r cx) (.slice ay r cy) u v r k k (-1) (-2) W)) (fun _ _ i _ => 20 - (intOf i).toNat)
          case atStart => exact ⟨0, by omega, rfl, HT⟩
          case round =>
            clear HT
            obtain ⟨k, hk, rfl, HW⟩ := hrel
            by_cases hkl : k < 20
            · have hkl' : (k : Int) < 20 := by omega
              clear hx2 hy2
              go_upto_region 20 with (first
                | (at_builtin; refine wpList_append_two _ rfl _ _ 35 rfl w.heap.size 3 i0 (.int .i64 0) 1 8 Try.underlying35 hi0 hz0 hz1 hz2 rfl u12 (r + k) (fli (rp (r + k) (-1))) rfl (HW.out.row (bel1 _ _)) ⟨_, 0, none⟩ 1 1 [_] rfl rfl (cell_one_new _ _ _) (one_int _) (by omega) (by unfold maxLen; omega) (by omega) ?_; intro u' w6 hp6))
              have HW2 := hid_of (HW.out.push (bel1 _ _) hp6)
              clear HW hp6
              go_wp2_with (first
                | (at_builtin; refine wpList_append_two _ rfl _ _ 35 rfl w.heap.size 3 i0 (.int .i64 0) 1 8 Try.underlying35 hi0 hz0 hz1 hz2 rfl u13 (r + k) (fli (rp (r + k) (-2))) rfl (HW2.out.symm.row (bel1 _ _)) ⟨_, 0, none⟩ 1 1 [_] rfl rfl (cell_one_new _ _ _) (one_int _) (by omega) (by unfold maxLen; omega) (by omega) ?_; intro v' w7 hp7))
              exact ⟨⟨k + 1, by omega, by go_num, (HW2.out.symm.push (bel1 _ _) hp7).symm⟩, by simp [intOf]; omega⟩
            · have hkl' : ¬ (k : Int) < 20 := by omega
              have hke : k = 20 := by omega
              subst hke
              obtain ⟨au, gu, cu, hu1, hu2⟩ := HW.out.formU
              obtain ⟨av, gv, cv, hv1, hv2⟩ := HW.out.symm.formU
              obtain rfl := hu2 (by omega)
              obtain rfl := hv2 (by omega)
              subst hu1
              subst hv1
              clear hu2 hv2
              go_upto_region 22 with fail
              go_loop [8, 15] (fun a i => ∃ j : Nat, j ≤ r + 20 ∧ i = .int .i64 (j : Int) ∧ a = .bool true) (fun _ i => r + 20 - (intOf i).toNat)
              case atStart => exact ⟨0, by omega, rfl, rfl⟩
              case round =>
                obtain ⟨j, hj, rfl, rfl⟩ := hrel
                by_cases hjl : j < r + 20
                · have hjl' : (j : Int) < ((r + 20 : Nat) : Int) := by omega
                  have hu : OwnI w.heap.size (.slice (some ⟨gu, 0, none⟩) (r + 20) cu) (rp (r + 20) (-1)) wr := HW.out.ou
                  have cuj := rp_cell hu j hjl
                  clear hu
                  by_cases hjr : j < r
                  · have hjr' : (j : Int) < (r : Int) := by omega
                    obtain rfl := hx2 (by omega)
                    have cxj := rp_cell HW.out.ox j hjr
                    clear hx2 hy2
                    go_wp2_with fail
                    exact ⟨⟨j + 1, by omega, by go_num, rfl⟩, by simp [intOf]; omega⟩
                  · have hjr' : ¬ (j : Int) < (r : Int) := by omega
                    clear hx2 hy2
                    go_wp2_with fail
                    exact ⟨⟨j + 1, by omega, by go_num, rfl⟩, by simp [intOf]; omega⟩
                · have hjl' : ¬ (j : Int) < ((r + 20 : Nat) : Int) := by omega
                  go_upto_region 26 with fail
                  go_loop [9, 16] (fun a i => ∃ j : Nat, j ≤ r + 20 ∧ i = .int .i64 (j : Int) ∧ a = .bool true) (fun _ i => r + 20 - (intOf i).toNat)
                  case atStart => exact ⟨0, by omega, rfl, rfl⟩
                  case round =>
                    obtain ⟨l, hl, rfl, rfl⟩ := hrel
                    by_cases hll : l < r + 20
                    · have hll' : (l : Int) < ((r + 20 : Nat) : Int) := by omega
                      have hv : OwnI w.heap.size (.slice (some ⟨gv, 0, none⟩) (r + 20) cv) (rp (r + 20) (-2)) wr := HW.out.ov
                      have cvl := rp_cell hv l hll
                      clear hv
                      by_cases hlr : l < r
                      · have hlr' : (l : Int) < (r : Int) := by omega
                        obtain rfl := hy2 (by omega)
                        have cyl := rp_cell HW.out.oy l hlr
                        clear hx2 hy2
                        go_wp2_with fail
                        exact ⟨⟨l + 1, by omega, by go_num, rfl⟩, by simp [intOf]; omega⟩
                      · have hlr' : ¬ (l : Int) < (r : Int) := by omega
                        clear hx2 hy2
                        go_wp2_with fail
                        exact ⟨⟨l + 1, by omega, by go_num, rfl⟩, by simp [intOf]; omega⟩
                    · have hll' : ¬ (l : Int) < ((r + 20 : Nat) : Int) := by omega
                      go_wp2_with fail
                      go_ret
                      exact ⟨rfl, HW.out.bel⟩
end Go.Proofs.Ythghillefmppjaa
