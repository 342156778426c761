/- NEAR, the document's. Own work of the verifier. -/
import Derived.Test.YtdlaloakochfeaaB9
namespace Go.Proofs.Ytdlaloakochfeaa
open Go.RowKit Soft

/-- What Near answers. -/
def nearB (P N s k m : Nat) : Bool := !decide ((P + N) * m * m * k + ap P N * 9007199254740992 < ap (P + pv (neg s)) (N + nv (neg s)) * 81129638414606681695789005144064)
theorem neg_lt {x : Nat} (h : x < 18446744073709551616) : neg x < 18446744073709551616 := by unfold neg; split <;> omega
theorem BigAt.form {w : World} {v : Value} {N : Nat} (h : BigAt w v N) : ∃ ao n cap, v = .slice ao n cap := by
  obtain ⟨ao, b, o, cap, L, h1, _⟩ := h
  exact ⟨ao, _, cap, h1⟩
/-- What lies in memory while Near works. -/
def KN (w : World) (va vb vc vd : Value) (P N Q M : Nat) (W : World) : Prop := Below w.heap.size w W ∧ BigAt W va P ∧ BigAt W vb N ∧ BigAt W vc Q ∧ BigAt W vd M
def SN (w : World) (g h : Nat) (va vb vc vd : Value) (P N Q M : Nat) (W : World) : Prop := W.cell? ⟨g, 0, none⟩ = some va ∧ W.cell? ⟨g, 1, none⟩ = some vb ∧ W.cell? ⟨h, 0, none⟩ = some vc ∧ W.cell? ⟨h, 1, none⟩ = some vd ∧ KN w va vb vc vd P N Q M W
theorem keepN {w : World} {g h : Nat} {va vb vc vd : Value} {P N Q M : Nat} {W W1 : World} (hb : Below W.heap.size W W1) (hs : w.heap.size ≤ W.heap.size) (k : SN w g h va vb vc vd P N Q M W) : SN w g h va vb vc vd P N Q M W1 := by
  obtain ⟨k1, k2, k3, k4, k5, k6, k7, k8, k9⟩ := k
  refine ⟨?_, ?_, ?_, ?_, k5.trans (hb.mono hs), k6.below hb, k7.below hb, k8.below hb, k9.below hb⟩
  · rw [hb.cell (p := ⟨g, 0, none⟩) (lt_of_cell k1)]; exact k1
  · rw [hb.cell (p := ⟨g, 1, none⟩) (lt_of_cell k2)]; exact k2
  · rw [hb.cell (p := ⟨h, 0, none⟩) (lt_of_cell k3)]; exact k3
  · rw [hb.cell (p := ⟨h, 1, none⟩) (lt_of_cell k4)]; exact k4
theorem keepN' {w : World} {g h : Nat} {va vb vc vd : Value} {P N Q M : Nat} {W W1 : World} (hb : Below W.heap.size W W1) (k : SN w g h va vb vc vd P N Q M W) : SN w g h va vb vc vd P N Q M W1 :=
  keepN hb k.2.2.2.2.1.size k
theorem exat_new {w : World} {va vb : Value} {P N : Nat} (ha : BigAt w va P) (hb : BigAt w vb N) : ExAt (w.alloc (.cells #[va, vb] 29)) w.heap.size P N := by
  have h1 := bel1 w (.cells #[va, vb] 29)
  obtain ⟨ao, an, ac, rfl⟩ := ha.form
  obtain ⟨bo, bn, bc, rfl⟩ := hb.form
  have hh : (w.alloc (.cells #[.slice ao an ac, .slice bo bn bc] 29)).heap[w.heap.size]? = some (.cells #[.slice ao an ac, .slice bo bn bc] 29) := by
    show (w.heap.push _)[w.heap.size]? = _
    simp
  refine ⟨⟨_, by simp [go_sem], ha.below h1⟩, ⟨_, by simp [go_sem], hb.below h1⟩, fun o => by unfold World.frozen?; rw [hh]; simp, fun o n => ?_⟩
  match o with
  | 0 => simp [go_sem]
  | 1 => simp [go_sem]
  | o + 2 => unfold World.cell?; rw [hh]; simp
set_option maxHeartbeats 4000000 in
theorem near_any (g : Nat) (s k m : Nat) (hs : s < 18446744073709551616) (hk : k < 4294967296) (hm : m < 18446744073709551616) (w : World) (P N K : Nat) (h : ExAt w g P N) (hK : K ≤ 100) (hP : Sk K P) (hN : Sk K N) (hV : Sk K (vw (neg s)).natAbs) :
    Calls Try.prog 12 #[.pointer (some ⟨g, 0, none⟩), .int .u64 (s : Int), .int .u32 (k : Int), .int .u64 (m : Int)] w fun e w' => e = .returned (.bool (nearB P N s k m)) ∧ Below w.heap.size w w' := by
  unfold nearB
  have HM2 : Hid (Sk 2 m ∧ Sk 1 k) := ⟨by unfold Sk; omega, by unfold Sk; omega⟩
  have HN : Hid (∀ w, _) := fun w => negative_any s hs w
  have hs2 := neg_lt hs
  have HK : Hid (Sk K P ∧ Sk K N ∧ Sk K (vw (neg s)).natAbs) := ⟨hP, hN, hV⟩
  clear hP hN hV
  obtain ⟨va, ha, hba⟩ := h.a
  obtain ⟨vb, hb, hbb⟩ := h.b
  obtain ⟨ao, an, ac, rfl⟩ := hba.form
  obtain ⟨bo, bn, bc, rfl⟩ := hbb.form
  have hgl : g < w.heap.size := lt_of_cell ha
  go_enter Try.func12, Try.ntmps12
  go_wp2_with (first
    | (go_at_call 21; with_reducible refine (HN.out _).mono ?_; rintro e w' ⟨rfl, rfl⟩))
  go_region_held3 (fun W => W.cell? ⟨g, 0, none⟩ = some (.slice ao an ac) ∧ W.cell? ⟨g, 1, none⟩ = some (.slice bo bn bc)) (go_keep) (fail)
  have hE1 := (exat_new hba hbb).below (below_drew _ 1)
  have hE0 := (h.below (bel1 w (.cells #[.slice ao an ac, .slice bo bn bc] 29))).below (below_drew _ 1)
  have hB1 : Below w.heap.size w ((w.alloc (.cells #[.slice ao an ac, .slice bo bn bc] 29)).drewN 1) := (bel1 _ _).drew
  go_wp2_with (first
    | (go_at_call 21; with_reducible refine (HN.out _).mono ?_; rintro e w' ⟨rfl, rfl⟩)
    | (go_at_call 10; refine (put_v w.heap.size (neg s) hs2 _ P N hE1 (HK.out.1.sh (by omega)) (HK.out.2.1.sh (by omega)) (HK.out.2.2.sh (by omega))).mono ?_; rintro e w2 ⟨rfl, hE2, hx2⟩
       have hE3 := hE1.other hE0 (by omega) hx2
       have hB2 : Below w.heap.size w w2 := hB1.trans (hx2.below (Nat.le_refl _) hB1.size)
       clear hE1 hE0 hB1 hx2
       obtain ⟨vc, hc, hbc⟩ := hE2.a
       obtain ⟨vd, hd, hbd⟩ := hE2.b
       obtain ⟨va, ha, hba⟩ := hE3.a
       obtain ⟨vb, hb, hbb⟩ := hE3.b
       have hS2 : SN w g w.heap.size va vb vc vd P N (P + pv (neg s)) (N + nv (neg s)) w2 := ⟨ha, hb, hc, hd, hB2, hba, hbb, hbc, hbd⟩))
  have HQ : Hid (Sk (K + 1) (P + pv (neg s)) ∧ Sk (K + 1) (N + nv (neg s))) := by
    have e := HK.out
    have e3 := e.2.2
    rw [abs_pn] at e3
    exact ⟨e.1.add (e3.le (by omega)), e.2.1.add (e3.le (by omega))⟩
  obtain ⟨Q, HQe⟩ : ∃ Q, Hid (Q = P + pv (neg s)) := ⟨_, rfl⟩
  obtain ⟨M, HMe⟩ : ∃ M, Hid (M = N + nv (neg s)) := ⟨_, rfl⟩
  rw [← HQe.out, ← HMe.out] at HQ hS2
  clear hE2 hE3 ha hb hc hd hbc hbd hB2
  have HA1 : Hid (∀ W, SN w g w.heap.size va vb vc vd P N Q M W → Calls Try.prog 22 #[vc, vd] W fun e w' => ∃ v, e = .returned v ∧ Below W.heap.size W w' ∧ BigAt w' v (ap Q M)) := fun W k => apart_v k.2.2.2.2.2.2.2.1 k.2.2.2.2.2.2.2.2 (HQ.out.1.sh (by omega)) (HQ.out.2.sh (by omega))
  have HA2 : Hid (∀ W, SN w g w.heap.size va vb vc vd P N Q M W → Calls Try.prog 22 #[va, vb] W fun e w' => ∃ v, e = .returned v ∧ Below W.heap.size W w' ∧ BigAt w' v (ap P N)) := fun W k => apart_v k.2.2.2.2.2.1 k.2.2.2.2.2.2.1 (HK.out.1.sh (by omega)) (HK.out.2.1.sh (by omega))
  have HA3 : Hid (∀ W, SN w g w.heap.size va vb vc vd P N Q M W → Calls Try.prog 20 #[va, vb] W fun e w' => ∃ v, e = .returned v ∧ Below W.heap.size W w' ∧ BigAt w' v (P + N)) := fun W k => plus_v k.2.2.2.2.2.1 k.2.2.2.2.2.2.1 (HK.out.1.sh (by omega)) (HK.out.2.1.sh (by omega))
  go_region_held3 (fun W => W.cell? ⟨g, 0, none⟩ = some va ∧ W.cell? ⟨g, 1, none⟩ = some vb ∧ W.cell? ⟨w.heap.size, 0, none⟩ = some vc ∧ W.cell? ⟨w.heap.size, 1, none⟩ = some vd ∧ KN w va vb vc vd P N Q M W)
    (first | assumption | exact keepN' (by assumption) (by assumption) | exact keepN' (below_drew _ _) (by assumption) | exact keepN' (Below.drew (Below.refl _ _)) hS2)
    (first | (go_at_call 22; with_reducible refine (HA1.out _ (by first | assumption | exact keepN' (Below.drew (Below.refl _ _)) hS2)).mono ?_; rintro e w3 ⟨v3, rfl, hB3, hI3⟩))
  have hS3 := keepN' hB3 (keepN' (Below.drew (Below.refl _ _)) hS2)
  clear hS2 hB3
  go_wp2_with fail
  go_region_held3 (fun W => W.cell? ⟨g, 0, none⟩ = some va ∧ W.cell? ⟨g, 1, none⟩ = some vb ∧ W.cell? ⟨w.heap.size, 0, none⟩ = some vc ∧ W.cell? ⟨w.heap.size, 1, none⟩ = some vd ∧ KN w va vb vc vd P N Q M W)
    (first | assumption | exact keepN' (by assumption) (by assumption) | exact keepN' (below_drew _ _) (by assumption) | exact keepN' (Below.drew (Below.refl _ _)) hS3)
    (first | (go_at_call 22; with_reducible refine (HA2.out _ (by first | assumption | exact keepN' (Below.drew (Below.refl _ _)) hS3)).mono ?_; rintro e w4 ⟨v4, rfl, hB4, hI4⟩))
  have hS4 := keepN' hB4 (keepN' (Below.drew (Below.refl _ _)) hS3)
  have hI34 := (hI3.below (Below.drew (Below.refl _ _))).below hB4
  clear hS3 hB4 hI3
  go_wp2_with fail
  go_region_held3 (fun W => W.cell? ⟨g, 0, none⟩ = some va ∧ W.cell? ⟨g, 1, none⟩ = some vb ∧ W.cell? ⟨w.heap.size, 0, none⟩ = some vc ∧ W.cell? ⟨w.heap.size, 1, none⟩ = some vd ∧ KN w va vb vc vd P N Q M W)
    (first | assumption | exact keepN' (by assumption) (by assumption) | exact keepN' (below_drew _ _) (by assumption) | exact keepN' (Below.drew (Below.refl _ _)) hS4)
    (first | (go_at_call 20; with_reducible refine (HA3.out _ (by first | assumption | exact keepN' (Below.drew (Below.refl _ _)) hS4)).mono ?_; rintro e w5 ⟨v5, rfl, hB5, hI5⟩))
  have hS5 := keepN' hB5 (keepN' (Below.drew (Below.refl _ _)) hS4)
  have hI35 := (hI34.below (Below.drew (Below.refl _ _))).below hB5
  have hI45 := (hI4.below (Below.drew (Below.refl _ _))).below hB5
  have hBw5 : Below w.heap.size w w5 := hS5.2.2.2.2.1
  clear hS4 hB5 hI34 hI4 hS5 HA1 HA2 HA3
  go_wp2_with (first
    | (go_at_call 23; with_reducible refine (by_v hI5 ((HK.out.1.add HK.out.2.1).sh (by omega)) hm).mono ?_; rintro e w6 ⟨v6, rfl, hB6, hI6⟩
       have hI36 := hI35.below hB6
       have hI46 := hI45.below hB6
       have hBw6 := hBw5.trans (hB6.mono hBw5.size)
       have HK6 : Hid (Sk (K + 1 + 2) ((P + N) * m)) := (HK.out.1.add HK.out.2.1).mul HM2.out.1
       clear hI5 hI35 hI45)
    | (go_at_call 23; with_reducible refine (by_v hI6 (HK6.out.sh (by omega)) hm).mono ?_; rintro e w7 ⟨v7, rfl, hB7, hI7⟩
       have hI37 := hI36.below hB7
       have hI47 := hI46.below hB7
       have hBw7 := hBw6.trans (hB7.mono hBw6.size)
       have HK7 : Hid (Sk (K + 1 + 2 + 2) ((P + N) * m * m)) := HK6.out.mul HM2.out.1
       clear hI6 hI36 hI46)
    | (go_at_call 24; with_reducible refine (times_v hI7 (HK7.out.sh (by omega)) hk).mono ?_; rintro e w8 ⟨v8, rfl, hB8, hI8⟩
       have hI38 := hI37.below hB8
       have hI48 := hI47.below hB8
       have hBw8 := hBw7.trans (hB8.mono hBw7.size)
       have HK8 : Hid (Sk (K + 1 + 2 + 2 + 1) ((P + N) * m * m * k)) := HK7.out.mul HM2.out.2
       clear hI7 hI37 hI47)
    | (go_at_call 25; with_reducible refine (up_v hI48 ((HK.out.1.ap HK.out.2.1).sh (by omega)) 1 21 53 rfl (by omega) (by omega)).mono ?_; rintro e w9 ⟨v9, rfl, hB9, hI9⟩
       have hI39 := hI38.below hB9
       have hI89 := hI8.below hB9
       have hBw9 := hBw8.trans (hB9.mono hBw8.size)
       have HK9 : Hid (Sk (K + 2) (ap P N * 2 ^ (32 * 1 + 21))) := (HK.out.1.ap HK.out.2.1).mul (by unfold Sk; decide)
       clear hI8 hI38 hI48)
    | (go_at_call 20; with_reducible refine (plus_v hI89 hI9 (HK8.out.sh (by omega)) (HK9.out.sh (by omega))).mono ?_; rintro e w10 ⟨v10, rfl, hB10, hI10⟩
       have hI310 := hI39.below hB10
       have hBw10 := hBw9.trans (hB10.mono hBw9.size)
       have HK10 : Hid (Sk (K + 1 + 2 + 2 + 1 + 1) ((P + N) * m * m * k + ap P N * 2 ^ (32 * 1 + 21))) := HK8.out.add (HK9.out.mono (by omega))
       clear hI9 hI39 hI89)
    | (go_at_call 25; with_reducible refine (up_v hI310 ((HQ.out.1.ap HQ.out.2).sh (by omega)) 3 10 106 rfl (by omega) (by omega)).mono ?_; rintro e w11 ⟨v11, rfl, hB11, hI11⟩
       have hI1011 := hI10.below hB11
       have hBw11 := hBw10.trans (hB11.mono hBw10.size)
       have HK11 : Hid (Sk (K + 1 + 4) (ap Q M * 2 ^ (32 * 3 + 10))) := (HQ.out.1.ap HQ.out.2).mul (by unfold Sk; decide)
       clear hI10 hI310)
    | (go_at_call 26; with_reducible refine (greater_v hI11 hI1011 (HK11.out.sh (by omega)) (HK10.out.sh (by omega))).mono ?_; rintro e w12 ⟨rfl, n12, rfl⟩))
  go_ret
  rw [HQe.out, HMe.out]
  exact ⟨rfl, hBw11.trans (below_drew _ _ |>.mono hBw11.size)⟩
end Go.Proofs.Ytdlaloakochfeaa
