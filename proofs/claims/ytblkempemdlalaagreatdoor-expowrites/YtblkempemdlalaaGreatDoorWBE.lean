/- WHICH SNAPSHOTS MAY BE: Check, the code's. Own work of the verifier. -/
import Derived.Test.YtblkempemdlalaaGreatDoorWBD
namespace Go.Proofs.YtblkempemdlalaaGreatDoor
open Go.RowKit Me

theorem RowV.take {W : World} {b o : Nat} {L : List Vl} (h : RowV W b o L) (i : Nat) : RowV W b o (L.take i) := fun j hj => by
 rw [List.length_take] at hj
 have := h j (by omega)
 rw [List.getElem_take]
 exact this
structure KS (w : World) (ao : Option Addr) (b o cap : Nat) (s : Sn) (W : World) : Prop where
 c0 : W.cell? ⟨w.heap.size, 0, none⟩ = some (.int .i64 s.p)
 c1 : W.cell? ⟨w.heap.size, 1, none⟩ = some (.slice ao s.vs.length cap)
 r : RowV W b o s.vs
 bl : Below w.heap.size w W
theorem KS.below {w W W1 : World} {ao : Option Addr} {b o cap : Nat} {s : Sn} (h : KS w ao b o cap s W) (hb : Below W.heap.size W W1) : KS w ao b o cap s W1 := ⟨cellB hb h.c0, cellB hb h.c1, h.r.below hb, bt h.bl hb⟩
abbrev S9c (w : World) (ao : Option Addr) (b o cap : Nat) (s : Sn) (c : Nat) (y : Vl) (lw cw : Value) (W : World) : Prop := W.cell? ⟨w.heap.size, 0, none⟩ = some (.int .i64 s.p) ∧ W.cell? ⟨w.heap.size, 1, none⟩ = some (.slice ao s.vs.length cap) ∧ cC b c y lw cw W ∧ KS w ao b o cap s W ∧ KR b c y lw cw W
theorem keep9 {w W W1 : World} {ao : Option Addr} {b o cap : Nat} {s : Sn} {c : Nat} {y : Vl} {lw cw : Value} (hb : Below W.heap.size W W1) (h : S9c w ao b o cap s c y lw cw W) : S9c w ao b o cap s c y lw cw W1 := by
 have h1 := h.2.2.2.1.below hb
 have h2 := h.2.2.2.2.below hb
 exact ⟨h1.c0, h1.c1, h2.c.cC, h1, h2⟩
set_option maxRecDepth 100000 in
set_option maxHeartbeats 8000000 in
theorem check_any (s : Sn) (v : Value) (h : SnW s) (w : World) (hv : SnAt w s v) :
  Calls Tryz.prog 10 #[v] w fun e w' => e = two (chkS s).1 ((chkS s).2 : Nat) ∧ Below w.heap.size w w' := by
 obtain ⟨u, rfl, hu⟩ := hv
 obtain ⟨ao, b, o, cap, rfl, hao, hcap, hcap2, hr⟩ := hu.open
 have HK : Hid (∀ T, KS w ao b o cap s (w.alloc (.cells #[.int .i64 s.p, .slice ao s.vs.length cap, .int .u64 (s.r : Int)] T))) := fun T => ⟨by simp [go_sem], by simp [go_sem], hr.below (bel1 _ _), bel1 _ _⟩
 have HW := hid_of h.vs
 clear hu hr h
 unfold chkS
 by_cases h1 : s.p < 1
 ·rw [if_pos (Or.inl h1)]
  clear HK HW
  as_aux_lemma =>
   go_enter Tryz.func10, Tryz.ntmps10
   go_wp2_with fail
   go_ret2
   exact ⟨rfl, bel1 w _⟩
 by_cases h2 : 14 < s.p
 ·rw [if_pos (Or.inr h2)]
  clear HK HW
  as_aux_lemma =>
   go_enter Tryz.func10, Tryz.ntmps10
   go_wp2_with fail
   go_ret2
   exact ⟨rfl, bel1 w _⟩
 rw [if_neg (by omega)]
 by_cases h3 : 256 < s.vs.length
 ·rw [if_pos h3]
  have h3' : (256 : Int) < (s.vs.length : Int) := by omega
  clear HK HW
  as_aux_lemma =>
   go_enter Tryz.func10, Tryz.ntmps10
   go_wp2_with fail
   go_ret2
   exact ⟨rfl, bel1 w _⟩
 rw [if_neg h3]
 have h3' : ¬ (256 : Int) < (s.vs.length : Int) := by omega
 obtain ⟨R, hR⟩ : ∃ R, R = chkV s.p none s.vs 0 := ⟨_, rfl⟩
 rw [← hR]
 have HR0 : Hid (R = chkV s.p (prvV s.vs 0) (s.vs.drop 0) 0) := hR
 clear hR
 go_enter Tryz.func10, Tryz.ntmps10
 go_upto_region 6 with fail
 go_loopw [21] (fun x W => ∃ i : Nat, i ≤ s.vs.length ∧ x = .int .i64 (i : Int) ∧ Hid (R = chkV s.p (prvV s.vs i) (s.vs.drop i) i) ∧ Hid (KS w ao b o cap s W)) (fun x _ => s.vs.length - (intOf x).toNat)
 case atStart => exact ⟨0, by omega, rfl, HR0, HK.out _⟩
 case round =>
  clear HK HR0
  obtain ⟨i, hi, rfl, HR, HK⟩ := hrel
  by_cases hlt : i < s.vs.length
  ·have hlt' : (i : Int) < (s.vs.length : Int) := by omega
   obtain rfl := hao (by intro e; rw [e] at hlt; simp at hlt)
   obtain ⟨lw, cw, g1, g2, g3⟩ := HK.out.r i hlt
   have hS0 := (⟨HK.out.c0, HK.out.c1, g1.cC, HK.out, ⟨g1, g2, g3⟩⟩ : S9c w (some ⟨b, o, none⟩) b o cap s (o + i * 11) s.vs[i] lw cw wr)
   have hlen : (s.vs.take i).length = i := by rw [List.length_take]; omega
   have HC : Hid (∀ W, S9c w (some ⟨b, o, none⟩) b o cap s (o + i * 11) s.vs[i] lw cw W → Calls Tryz.prog 19 #[.int .i64 s.p, .slice (some ⟨b, o, none⟩) i cap, vx s.vs[i] lw cw] W fun e w' => e = .returned (.int .i64 (chk1 s.p (prvV s.vs i) s.vs[i])) ∧ Below W.heap.size W w') := fun W k => by
    have := cvalue_any s.p (some ⟨b, o, none⟩) b o cap (s.vs.take i) (fun _ => rfl) (by omega) s.vs[i] (vx s.vs[i] lw cw) (HW.out _ (List.getElem_mem hlt)) W (k.2.2.2.1.r.take i) k.2.2.2.2.at
    rw [hlen] at this
    exact this
   have hS := HR.out
   rw [chkV_drop s.p s.vs i hlt] at hS
   have hix := index_val b o s.vs.length cap i (i : Int) rfl hlt
   have hic : (i : Int) ≤ (cap : Int) := by omega
   clear HR HK g1 g2 g3 hlen HW hao
   generalize chk1 s.p (prvV s.vs i) s.vs[i] = z at *
   generalize s.vs[i] = y at *
   as_aux_lemma =>
   go_upto_region 8 with fail
   go_cut [5] from 24 to 35 (fun x W => x = .int .i64 z ∧ Hid (KS w (some ⟨b, o, none⟩) b o cap s W))
   case first =>
    clear hS
    as_aux_lemma =>
     go_region_held3 (fun W => S9c w (some ⟨b, o, none⟩) b o cap s (o + i * 11) y lw cw W)
      (first | assumption | exact keep9 (by assumption) (by assumption) | exact keep9 (drew_bel _) hS0)
      (first
       | (go_at_call 19; with_reducible refine (HC.out _ (by first | assumption | exact keep9 (by assumption) (by assumption) | exact keep9 (drew_bel _) hS0)).mono ?_; rintro e w3 ⟨rfl, hb3⟩))
     rename_i hS3
     go_wp2_with fail
     go_meet
     exact ⟨rfl, hS3.2.2.2.1⟩
   case rest =>
   obtain ⟨rfl, HK⟩ := hcut
   clear hS0 HC
   by_cases hz : z = 0
   ·rw [if_neg (by simpa using hz)] at hS
    have hz' : (z != 0) = false := by simpa using hz
    have HS := hid_of hS
    clear hS hz
    as_aux_lemma =>
     go_wp2_with fail
     exact ⟨⟨i + 1, by omega, by go_num, HS, HK⟩, by simp [intOf]; omega⟩
   ·rw [if_pos hz] at hS
    have hz' : (z != 0) = true := by simpa using hz
    have HS := hid_of hS
    clear hS hz
    as_aux_lemma =>
     go_wp2_with fail
     go_ret2
     exact ⟨by rw [HS.out]; rfl, HK.out.bl⟩
  ·have hlt' : ¬ (i : Int) < (s.vs.length : Int) := by omega
   have hS := HR.out
   rw [List.drop_eq_nil_of_le (by omega)] at hS
   have HS : Hid (R = (0, 0)) := by unfold Hid; rw [hS]; cases prvV s.vs i <;> rfl
   clear HR hS HW
   as_aux_lemma =>
    go_wp2_with fail
    go_ret2
    exact ⟨by rw [HS.out]; rfl, HK.out.bl⟩
end Go.Proofs.YtblkempemdlalaaGreatDoor
