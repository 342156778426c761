/- THE PAGE: values. Own work of the verifier. -/
import Derived.Test.YtlgfgeacphkhnaaGreatDoorWBG
namespace Go.Proofs.YtlgfgeacphkhnaaGreatDoor
open Go.RowKit Me

def vsL (vl : Vl → List (List UInt8)) : Option (List UInt8) → List Vl → List (List UInt8)
 | _, [] => []
 | q, x :: r => (if q = some x.d.name then [] else [heT x.d, tyT x.d]) ++ (vl x ++ vsL vl (some x.d.name) r)
def pvN (L : List Vl) (i : Nat) : Option (List UInt8) := if i = 0 then none else (L[i - 1]?).map (·.d.name)
theorem pvN_succ (L : List Vl) (i : Nat) (h : i < L.length) : pvN L (i + 1) = some L[i].d.name := by
 unfold pvN
 rw [if_neg (by omega), Nat.add_sub_cancel, List.getElem?_eq_getElem h]
 rfl
theorem vsL_drop (vl : Vl → List (List UInt8)) (L : List Vl) (i : Nat) (h : i < L.length) : vsL vl (pvN L i) (L.drop i) = (if pvN L i = some L[i].d.name then [] else [heT L[i].d, tyT L[i].d]) ++ (vl L[i] ++ vsL vl (pvN L (i + 1)) (L.drop (i + 1))) := by
 rw [List.drop_eq_getElem_cons h, vsL, pvN_succ L i h]
def Wrt (u : World) (pb : Nat) (p : Int) (vl : Vl → List (List UInt8)) (x : Vl) : Prop :=
 ∀ (T : List UInt8) (lv cv : Value) (w : World), Pg u pb w p T w → SLb u lv x.d.labels → SN u cv x.cs → fitB T = true →
  Calls Tryz.prog (kfn x.d.kind) #[.pointer (some ⟨pb, 0, none⟩), vx x lv cv] w fun e w' => e = .returned (.bool (wrL T (vl x)).2) ∧ Pg u pb w p (wrL T (vl x)).1 w'
structure Wv (u : World) (pb : Nat) (p : Int) (vl : Vl → List (List UInt8)) (x : Vl) : Prop where
 k : x.d.kind = 1 ∨ x.d.kind = 2 ∨ x.d.kind = 3
 s : Sho x.d []
 w : Wrt u pb p vl x
structure VI (u : World) (pb mb : Nat) (w1 : World) (p : Int) (T : List UInt8) (W : World) : Prop where
 pg : Pg u pb w1 p T W
 m : W.heap[mb]? = some (.map kES 3)
theorem VI.below {u : World} {pb mb : Nat} {w1 W W1 : World} {p : Int} {T : List UInt8} (h : VI u pb mb w1 p T W) (hb : Below W.heap.size W W1) : VI u pb mb w1 p T W1 := ⟨h.pg.below hb, (hb.block mb (Array.getElem?_eq_some_iff.1 h.m).1).trans h.m⟩
theorem VI.then {u : World} {pb mb : Nat} {w1 W W1 : World} {p : Int} {T T1 : List UInt8} (h : VI u pb mb w1 p T W) (k : Pg u pb W p T1 W1) : VI u pb mb w1 p T1 W1 := ⟨h.pg.then k, k.ok mb _ h.m (fun e => by
 obtain ⟨ao, cap, q, _⟩ := h.pg.at_
 have := h.m
 rw [Option.some.inj e, q] at this
 cases this) (fun _ _ e => by cases e)⟩
theorem wrL_skip {T : List UInt8} {A C : List (List UInt8)} (h : (wrL T A).2 = true) : wrL T (A ++ C) = wrL (wrL T A).1 C := by rw [wrL_app, h]; rfl
theorem wrL_stop {T : List UInt8} {A C : List (List UInt8)} (h : (wrL T A).2 = false) : wrL T (A ++ C) = wrL T A := by rw [wrL_app, h]; rfl
theorem Pg.box {u : World} {pb g : Nat} {W W1 : World} {p : Int} {T : List UInt8} {x : Vl} {lv cv : Value} (h : Pg u pb W p T W1) (hg : W.heap[g]? = some (.cells (vc x lv cv) 36)) (hk : g ≠ pb) : W1.heap[g]? = some (.cells (vc x lv cv) 36) := h.cells hg hk (by decide)
theorem store_f (W : World) (a : Addr) (x : Nat) (m : Mode) : (store a (.float .f64 x) m).run Tryz.prog W = stored Tryz.prog W a (.float .f64 x) m := run_store Tryz.prog W a _ m rfl
set_option maxRecDepth 100000 in
set_option maxHeartbeats 1000000 in
theorem values_any (u : World) (pb : Nat) (p : Int) (T0 : List UInt8) (vl : Vl → List (List UInt8)) (L : List Vl) (uv : Value) (w : World) (h : Pg u pb w p T0 w) (hv : SV u uv L) (hL : L.length ≤ 256) (hk : ∀ x ∈ L, Wv u pb p vl x) (hT : fitB T0 = true) :
  Calls Tryz.prog 16 #[.pointer (some ⟨pb, 0, none⟩), uv] w fun e w' => e = .returned (.bool (wrL T0 (vsL vl none L)).2) ∧ Pg u pb w p (wrL T0 (vsL vl none L)).1 w' := by
 obtain ⟨ao, b, o, cap, rfl, hao, hcap, hcap2, hr⟩ := hv.open
 have HRw := hid_of hr
 have HK : Hid (∀ W, _) := kinds_any
 have HV := hid_of hk
 obtain ⟨R, hR⟩ : ∃ R, R = wrL T0 (vsL vl none L) := ⟨_, rfl⟩
 rw [← hR]
 have HR0 : Hid (R = wrL T0 (vsL vl (pvN L 0) (L.drop 0))) := hR
 have HP := hid_of h
 have HT := hid_of hT
 clear h hv hr hk hR hT
 go_enter Tryz.func16, Tryz.ntmps16
 go_wp2_with (go_at_call 31; refine (HK.out _).mono ?_; rintro e w1 ⟨rfl, hm, hb⟩; have HP1 := hid_of (HP.out.below hb); have HI0 : Hid (VI u pb w.heap.size w1 p T0 w1) := ⟨HP1.out.re, hm⟩; clear hm hb HK HP)
 go_loopw [12] (fun a W => ∃ (i : Nat) (T : List UInt8), i ≤ L.length ∧ a = .int .i64 (i : Int) ∧ Hid (R = wrL T (vsL vl (pvN L i) (L.drop i))) ∧ Hid (VI u pb w.heap.size w1 p T W) ∧ Hid (fitB T = true)) (fun a _ => L.length - (intOf a).toNat)
 case atStart => exact ⟨0, T0, by omega, rfl, HR0, HI0, HT⟩
 case round =>
  clear HI0 HR0 HT
  obtain ⟨i, T, hi, rfl, HR, HI, HT⟩ := hrel
  by_cases hlt : i < L.length
  ·have hlt' : (i : Int) < (L.length : Int) := by omega
   obtain rfl := hao (by intro e; rw [e] at hlt; simp at hlt)
   obtain ⟨lw, cw, g1, g2, g3⟩ := HRw.out i hlt
   have q := (g1.below HI.out.pg.st).cC
   obtain ⟨la, lc, rfl⟩ := g2.form
   obtain ⟨ca, cc, rfl⟩ := SN.form g3
   have hix := index_val b o L.length cap i (i : Int) rfl hlt
   have HW := hid_of (HV.out L[i] (List.getElem_mem hlt))
   have HS := hid_of (vsL_drop vl L i hlt)
   have HL1 := hid_of g2
   have HC1 := hid_of g3
   have HPv : Hid (0 < i → ∃ m, m < L.length ∧ i = m + 1 ∧ pvN L i = some (L.getD m L[i]).d.name ∧ (∀ W, Below u.heap.size u W → W.cell? ⟨b, o + m * 11 + 1, none⟩ = some (.string ⟨(L.getD m L[i]).d.name.toArray⟩))) := fun h0 => by
    have hm : i - 1 < L.length := by omega
    obtain ⟨l2, c2, k1, _, _⟩ := HRw.out (i - 1) hm
    have e : L.getD (i - 1) L[i] = L[i - 1] := by rw [List.getD_eq_getElem?_getD, List.getElem?_eq_getElem hm]; rfl
    refine ⟨i - 1, hm, by omega, ?_, fun W hb => ?_⟩
    ·have := pvN_succ L (i - 1) hm
     rw [show i - 1 + 1 = i by omega] at this
     rw [this, e]
    ·rw [e]; exact (k1.below hb).c1
   clear g1 g2 g3 HRw HV
   generalize L[i] = x at *
   have sF := store_f
   go_upto_region 5 with fail
   have hN0 := new_1 wr (.cells (vc x (.slice la x.d.labels.length lc) (.slice ca x.cs.length cc)) 36)
   have HI0 := hid_of (HI.out.below (bel1 wr (.cells (vc x (.slice la x.d.labels.length lc) (.slice ca x.cs.length cc)) 36)))
   have hne : wr.heap.size ≠ pb := by have := HI.out.pg.lt; omega
   have HNe := hid_of hne
   generalize wr.alloc (.cells (vc x (.slice la x.d.labels.length lc) (.slice ca x.cs.length cc)) 36) = W0 at *
   have HN0 := hid_of hN0
   obtain ⟨d0, d1, -, -, -, -, -, -, -, -, -⟩ := cB_of hN0
   clear q hne HI sF
   go_cut [8] from 17 to 31 (fun v W => v = .bool (decide (pvN L i ≠ some x.d.name)) ∧ Hid (VI u pb w.heap.size w1 p T W) ∧ Hid (W.heap[wr.heap.size]? = some (.cells (vc x (.slice la x.d.labels.length lc) (.slice ca x.cs.length cc)) 36)))
   case first =>
    by_cases h0 : i = 0
    ·have h0' : ((i : Int) == 0) = true := by rw [beq_iff_eq]; omega
     have hd : decide (pvN L i ≠ some x.d.name) = true := by rw [decide_eq_true_eq, h0]; intro e; cases e
     have HD := hid_of hd
     clear hd h0
     go_quiet (fail)
     go_wp2_with fail
     go_meet
     exact ⟨by rw [HD.out], HI0.out.below (bel_drewNB (Below.refl _ _) _), HN0.out⟩
    ·have h0' : ((i : Int) == 0) = false := by rw [beq_eq_false_iff_ne]; omega
     obtain ⟨m, hm, him, hpv, hcl⟩ := HPv.out (by omega)
     have hcm := hcl W0 HI0.out.pg.st
     have hw1 : IntKind.i64.wrap ((i : Int) - 1) = (m : Int) := by rw [IntKind.wrap_i64]; omega
     have hixm := index_val b o L.length cap m (m : Int) rfl hm
     have HD : Hid (decide (pvN L i ≠ some x.d.name) = ((L.getD m x).d.name != x.d.name)) := by
      show _ = _
      rw [hpv]
      by_cases e : (L.getD m x).d.name = x.d.name
      ·rw [e]; simp
      ·have e2 : ¬ (some (L.getD m x).d.name = some x.d.name) := fun k => e (Option.some.inj k)
       rw [decide_eq_true e2, eq_comm, bne_iff_ne]; exact e
     generalize (L.getD m x).d.name = nm at *
     clear hpv hcl him
     go_quiet (fail)
     go_wp2_with fail
     go_meet
     exact ⟨by rw [HD.out]; rfl, HI0.out.below (bel_drewNB (Below.refl _ _) _), HN0.out⟩
   case rest =>
    obtain ⟨rfl, HIc, HNc⟩ := hcut
    clear d0 d1 HI0 HN0 hN0 HPv
    have HWt : Hid (∀ T W, VI u pb w.heap.size w1 p T W → fitB T = true → Calls Tryz.prog (kfn x.d.kind) #[.pointer (some ⟨pb, 0, none⟩), vx x (.slice la x.d.labels.length lc) (.slice ca x.cs.length cc)] W fun e w' => e = .returned (.bool (wrL T (vl x)).2) ∧ VI u pb w.heap.size w1 p (wrL T (vl x)).1 w') := fun T W k1 k2 => by
     refine Calls.mono (HW.out.w T _ _ W k1.pg.re HL1.out HC1.out k2) ?_
     rintro e w' ⟨rfl, q⟩
     exact ⟨rfl, k1.then q⟩
    have HFm : Hid (∀ T W, VI u pb w.heap.size w1 p T W → fitB T = true → W.heap[wr.heap.size]? = some (.cells (vc x (.slice la x.d.labels.length lc) (.slice ca x.cs.length cc)) 36) → Calls Tryz.prog 32 #[.pointer (some ⟨pb, 0, none⟩), dsV x.d (.slice la x.d.labels.length lc)] W fun e w' => e = .returned (.bool (wrL T [heT x.d, tyT x.d]).2) ∧ VI u pb w.heap.size w1 p (wrL T [heT x.d, tyT x.d]).1 w' ∧ w'.heap[wr.heap.size]? = some (.cells (vc x (.slice la x.d.labels.length lc) (.slice ca x.cs.length cc)) 36)) := fun T W k1 k2 k3 => by
     refine Calls.mono (family_any u pb p T x.d _ [] W k1.pg.re HL1.out HW.out.s k2) ?_
     rintro e w' ⟨rfl, q⟩
     exact ⟨rfl, k1.then q, q.box k3 HNe.out⟩
    have HKd := hid_of HW.out.k
    clear HW HL1 HC1
    by_cases hbg : pvN L i = some x.d.name
    ·have hbg' : decide (pvN L i ≠ some x.d.name) = false := by rw [decide_eq_false_iff_not]; exact fun k => k hbg
     have HS2 : Hid (vsL vl (pvN L i) (L.drop i) = vl x ++ vsL vl (pvN L (i + 1)) (L.drop (i + 1))) := by
      have := HS.out
      rw [if_pos hbg] at this
      exact this
     rw [hbg']
     clear hbg hbg' HS HFm
     rcases HKd.out with hk | hk | hk
     ·have hkf : kfn x.d.kind = 59 := by rw [hk]; rfl
      have hlk := look_any HIc.out.m HKd.out
      have D1 := HWt.out T wc HIc.out HT.out
      rw [hkf] at hlk D1
      have D2 : La.HidC _ _ _ _ _ := D1
      obtain ⟨d0, d1, d2, d3, d4, d5, d6, d7, d8, d9, da⟩ := cB_of HNc.out
      clear HWt D1 hkf hk HKd HNc
      by_cases hok : (wrL T (vl x)).2 = true
      ·have HNx := hid_of (wrL_skip (C := vsL vl (pvN L (i + 1)) (L.drop (i + 1))) hok)
       have HFt := hid_of (wrL_fit (vl x) T HT.out hok)
       rw [hok] at D2
       clear hok
       go_wp2_with fail
       refine (D2.out).mono ?_
       rintro e w9 ⟨rfl, h9⟩
       go_wp2_with fail
       exact ⟨⟨i + 1, _, by omega, by go_num, by rw [HR.out, HS2.out]; exact HNx.out, h9, HFt⟩, by simp [intOf]; omega⟩
      ·simp only [Bool.not_eq_true] at hok
       have HNx := hid_of (wrL_stop (C := vsL vl (pvN L (i + 1)) (L.drop (i + 1))) hok)
       have hR : R = wrL T (vl x) := by rw [HR.out, HS2.out]; exact HNx.out
       have HRr := hid_of hR
       have HOk := hid_of hok
       rw [hok] at D2
       clear hok hR
       go_wp2_with fail
       refine (D2.out).mono ?_
       rintro e w9 ⟨rfl, h9⟩
       go_wp2_with fail
       go_ret
       exact ⟨retB (by rw [HRr.out, HOk.out]), by rw [HRr.out]; exact HP1.out.then h9.pg⟩
     ·have hkf : kfn x.d.kind = 60 := by rw [hk]; rfl
      have hlk := look_any HIc.out.m HKd.out
      have D1 := HWt.out T wc HIc.out HT.out
      rw [hkf] at hlk D1
      have D2 : La.HidC _ _ _ _ _ := D1
      obtain ⟨d0, d1, d2, d3, d4, d5, d6, d7, d8, d9, da⟩ := cB_of HNc.out
      clear HWt D1 hkf hk HKd HNc
      by_cases hok : (wrL T (vl x)).2 = true
      ·have HNx := hid_of (wrL_skip (C := vsL vl (pvN L (i + 1)) (L.drop (i + 1))) hok)
       have HFt := hid_of (wrL_fit (vl x) T HT.out hok)
       rw [hok] at D2
       clear hok
       go_wp2_with fail
       refine (D2.out).mono ?_
       rintro e w9 ⟨rfl, h9⟩
       go_wp2_with fail
       exact ⟨⟨i + 1, _, by omega, by go_num, by rw [HR.out, HS2.out]; exact HNx.out, h9, HFt⟩, by simp [intOf]; omega⟩
      ·simp only [Bool.not_eq_true] at hok
       have HNx := hid_of (wrL_stop (C := vsL vl (pvN L (i + 1)) (L.drop (i + 1))) hok)
       have hR : R = wrL T (vl x) := by rw [HR.out, HS2.out]; exact HNx.out
       have HRr := hid_of hR
       have HOk := hid_of hok
       rw [hok] at D2
       clear hok hR
       go_wp2_with fail
       refine (D2.out).mono ?_
       rintro e w9 ⟨rfl, h9⟩
       go_wp2_with fail
       go_ret
       exact ⟨retB (by rw [HRr.out, HOk.out]), by rw [HRr.out]; exact HP1.out.then h9.pg⟩
     ·have hkf : kfn x.d.kind = 61 := by rw [hk]; rfl
      have hlk := look_any HIc.out.m HKd.out
      have D1 := HWt.out T wc HIc.out HT.out
      rw [hkf] at hlk D1
      have D2 : La.HidC _ _ _ _ _ := D1
      obtain ⟨d0, d1, d2, d3, d4, d5, d6, d7, d8, d9, da⟩ := cB_of HNc.out
      clear HWt D1 hkf hk HKd HNc
      by_cases hok : (wrL T (vl x)).2 = true
      ·have HNx := hid_of (wrL_skip (C := vsL vl (pvN L (i + 1)) (L.drop (i + 1))) hok)
       have HFt := hid_of (wrL_fit (vl x) T HT.out hok)
       rw [hok] at D2
       clear hok
       go_wp2_with fail
       refine (D2.out).mono ?_
       rintro e w9 ⟨rfl, h9⟩
       go_wp2_with fail
       exact ⟨⟨i + 1, _, by omega, by go_num, by rw [HR.out, HS2.out]; exact HNx.out, h9, HFt⟩, by simp [intOf]; omega⟩
      ·simp only [Bool.not_eq_true] at hok
       have HNx := hid_of (wrL_stop (C := vsL vl (pvN L (i + 1)) (L.drop (i + 1))) hok)
       have hR : R = wrL T (vl x) := by rw [HR.out, HS2.out]; exact HNx.out
       have HRr := hid_of hR
       have HOk := hid_of hok
       rw [hok] at D2
       clear hok hR
       go_wp2_with fail
       refine (D2.out).mono ?_
       rintro e w9 ⟨rfl, h9⟩
       go_wp2_with fail
       go_ret
       exact ⟨retB (by rw [HRr.out, HOk.out]), by rw [HRr.out]; exact HP1.out.then h9.pg⟩
    ·have hbg' : decide (pvN L i ≠ some x.d.name) = true := by rw [decide_eq_true_eq]; exact hbg
     have HS1 : Hid (vsL vl (pvN L i) (L.drop i) = [heT x.d, tyT x.d] ++ (vl x ++ vsL vl (pvN L (i + 1)) (L.drop (i + 1)))) := by
      have := HS.out
      rw [if_neg hbg] at this
      exact this
     rw [hbg']
     have D0 := HFm.out T wc HIc.out HT.out HNc.out
     have D0' : La.HidC _ _ _ _ _ := D0
     obtain ⟨d0, d1, d2, d3, d4, d5, d6, d7, d8, d9, da⟩ := cB_of HNc.out
     clear hbg hbg' HS HFm D0
     by_cases hof : (wrL T [heT x.d, tyT x.d]).2 = true
     ·have HFt0 := hid_of (wrL_fit [heT x.d, tyT x.d] T HT.out hof)
      have HS0 := hid_of (wrL_skip (C := vl x ++ vsL vl (pvN L (i + 1)) (L.drop (i + 1))) hof)
      rw [hof] at D0'
      clear hof HNc HIc
      generalize (wrL T [heT x.d, tyT x.d]).1 = T2 at D0' HFt0 HS0
      have HS2 : Hid (wrL T (vsL vl (pvN L i) (L.drop i)) = wrL T2 (vl x ++ vsL vl (pvN L (i + 1)) (L.drop (i + 1)))) := by
       show _ = _
       rw [HS1.out]; exact HS0.out
      clear HS1 HS0
      go_upto_region 8 with (go_at_call 32; refine (D0'.out).mono ?_; rintro e w8 ⟨rfl, h8, hn8⟩; have HI8 := hid_of h8; have HN8 := hid_of hn8; clear h8 hn8 D0' d0 d1 d2 d3 d4 d5 d6 d7 d8 d9 da)
      rcases HKd.out with hk | hk | hk
      ·have hkf : kfn x.d.kind = 59 := by rw [hk]; rfl
       have hlk := look_any HI8.out.m HKd.out
       have D1 := HWt.out T2 w8 HI8.out HFt0.out
       rw [hkf] at hlk D1
       have D2 : La.HidC _ _ _ _ _ := D1
       obtain ⟨d0, d1, d2, d3, d4, d5, d6, d7, d8, d9, da⟩ := cB_of HN8.out
       clear HWt D1 hkf hk HKd HN8
       by_cases hok : (wrL T2 (vl x)).2 = true
       ·have HNx := hid_of (wrL_skip (C := vsL vl (pvN L (i + 1)) (L.drop (i + 1))) hok)
        have HFt := hid_of (wrL_fit (vl x) T2 HFt0.out hok)
        rw [hok] at D2
        clear hok
        go_wp2_with fail
        refine (D2.out).mono ?_
        rintro e w9 ⟨rfl, h9⟩
        go_wp2_with fail
        exact ⟨⟨i + 1, _, by omega, by go_num, by rw [HR.out, HS2.out]; exact HNx.out, h9, HFt⟩, by simp [intOf]; omega⟩
       ·simp only [Bool.not_eq_true] at hok
        have HNx := hid_of (wrL_stop (C := vsL vl (pvN L (i + 1)) (L.drop (i + 1))) hok)
        have hR : R = wrL T2 (vl x) := by rw [HR.out, HS2.out]; exact HNx.out
        have HRr := hid_of hR
        have HOk := hid_of hok
        rw [hok] at D2
        clear hok hR
        go_wp2_with fail
        refine (D2.out).mono ?_
        rintro e w9 ⟨rfl, h9⟩
        go_wp2_with fail
        go_ret
        exact ⟨retB (by rw [HRr.out, HOk.out]), by rw [HRr.out]; exact HP1.out.then h9.pg⟩
      ·have hkf : kfn x.d.kind = 60 := by rw [hk]; rfl
       have hlk := look_any HI8.out.m HKd.out
       have D1 := HWt.out T2 w8 HI8.out HFt0.out
       rw [hkf] at hlk D1
       have D2 : La.HidC _ _ _ _ _ := D1
       obtain ⟨d0, d1, d2, d3, d4, d5, d6, d7, d8, d9, da⟩ := cB_of HN8.out
       clear HWt D1 hkf hk HKd HN8
       by_cases hok : (wrL T2 (vl x)).2 = true
       ·have HNx := hid_of (wrL_skip (C := vsL vl (pvN L (i + 1)) (L.drop (i + 1))) hok)
        have HFt := hid_of (wrL_fit (vl x) T2 HFt0.out hok)
        rw [hok] at D2
        clear hok
        go_wp2_with fail
        refine (D2.out).mono ?_
        rintro e w9 ⟨rfl, h9⟩
        go_wp2_with fail
        exact ⟨⟨i + 1, _, by omega, by go_num, by rw [HR.out, HS2.out]; exact HNx.out, h9, HFt⟩, by simp [intOf]; omega⟩
       ·simp only [Bool.not_eq_true] at hok
        have HNx := hid_of (wrL_stop (C := vsL vl (pvN L (i + 1)) (L.drop (i + 1))) hok)
        have hR : R = wrL T2 (vl x) := by rw [HR.out, HS2.out]; exact HNx.out
        have HRr := hid_of hR
        have HOk := hid_of hok
        rw [hok] at D2
        clear hok hR
        go_wp2_with fail
        refine (D2.out).mono ?_
        rintro e w9 ⟨rfl, h9⟩
        go_wp2_with fail
        go_ret
        exact ⟨retB (by rw [HRr.out, HOk.out]), by rw [HRr.out]; exact HP1.out.then h9.pg⟩
      ·have hkf : kfn x.d.kind = 61 := by rw [hk]; rfl
       have hlk := look_any HI8.out.m HKd.out
       have D1 := HWt.out T2 w8 HI8.out HFt0.out
       rw [hkf] at hlk D1
       have D2 : La.HidC _ _ _ _ _ := D1
       obtain ⟨d0, d1, d2, d3, d4, d5, d6, d7, d8, d9, da⟩ := cB_of HN8.out
       clear HWt D1 hkf hk HKd HN8
       by_cases hok : (wrL T2 (vl x)).2 = true
       ·have HNx := hid_of (wrL_skip (C := vsL vl (pvN L (i + 1)) (L.drop (i + 1))) hok)
        have HFt := hid_of (wrL_fit (vl x) T2 HFt0.out hok)
        rw [hok] at D2
        clear hok
        go_wp2_with fail
        refine (D2.out).mono ?_
        rintro e w9 ⟨rfl, h9⟩
        go_wp2_with fail
        exact ⟨⟨i + 1, _, by omega, by go_num, by rw [HR.out, HS2.out]; exact HNx.out, h9, HFt⟩, by simp [intOf]; omega⟩
       ·simp only [Bool.not_eq_true] at hok
        have HNx := hid_of (wrL_stop (C := vsL vl (pvN L (i + 1)) (L.drop (i + 1))) hok)
        have hR : R = wrL T2 (vl x) := by rw [HR.out, HS2.out]; exact HNx.out
        have HRr := hid_of hR
        have HOk := hid_of hok
        rw [hok] at D2
        clear hok hR
        go_wp2_with fail
        refine (D2.out).mono ?_
        rintro e w9 ⟨rfl, h9⟩
        go_wp2_with fail
        go_ret
        exact ⟨retB (by rw [HRr.out, HOk.out]), by rw [HRr.out]; exact HP1.out.then h9.pg⟩
     ·simp only [Bool.not_eq_true] at hof
      have hR : R = wrL T [heT x.d, tyT x.d] := by rw [HR.out, HS1.out]; exact wrL_stop hof
      have HRr := hid_of hR
      have HOk := hid_of hof
      rw [hof] at D0'
      clear hof hR HWt HNc HIc
      go_wp2_with (go_at_call 32; refine (D0'.out).mono ?_; rintro e w8 ⟨rfl, h8, hn8⟩; have HI8 := hid_of h8; clear h8 hn8)
      go_ret
      exact ⟨retB (by rw [HRr.out, HOk.out]), by rw [HRr.out]; exact HP1.out.then HI8.out.pg⟩
  ·have hlt' : ¬ (i : Int) < (L.length : Int) := by omega
   have hR : R = (T, true) := by rw [HR.out, List.drop_eq_nil_of_le (by omega)]; rfl
   have HRr := hid_of hR
   clear hR
   go_wp2_with fail
   go_ret
   exact ⟨retB (by rw [HRr.out]), by rw [HRr.out]; exact HP1.out.then HI.out.pg⟩
end Go.Proofs.YtlgfgeacphkhnaaGreatDoor
/- THE PAGE: head. Own work of the verifier. -/
namespace Go.Proofs.YtlgfgeacphkhnaaGreatDoor
open Go.RowKit Me

abbrev gnA : List UInt8 := [35, 32, 103, 110, 111, 109, 111, 110, 32]
abbrev reA : List UInt8 := [35, 32, 114, 101, 102, 117, 115, 101, 100, 32]
def gnT (p : Int) : List UInt8 := lnT [gnA, Lib.itoa p]
def reT (r : Nat) : List UInt8 := lnT [reA, Lib.decDigits r]
theorem gnT_len (p : Int) (h : 1 ≤ p ∧ p ≤ 14) (r : Nat) (hr : r < 18446744073709551616) : (gnT p).length ≤ 100 ∧ (reT r).length ≤ 100 := by
 have h1 := itoa_len (t := p) ⟨by omega, by omega⟩
 have h2 := digits_len r hr
 unfold gnT reT lnT
 simp only [List.flatten_cons, List.flatten_nil, List.length_append, List.length_cons, List.length_nil]
 omega
set_option maxRecDepth 100000 in
set_option maxHeartbeats 1000000 in
theorem head_any (u : World) (pb : Nat) (p : Int) (T : List UInt8) (r : Nat) (ao : Option Addr) (n cap : Nat) (w : World) (h : Pg u pb w p T w) (ht : Wi.Tab u) (hp : 1 ≤ p ∧ p ≤ 14) (hr : r < 18446744073709551616) (hT : fitB T = true) :
  Calls Tryz.prog 15 #[.pointer (some ⟨pb, 0, none⟩), .agg #[.int .i64 p, .slice ao n cap, .int .u64 (r : Int)]] w fun e w' => e = .returned (.bool (wrL T [gnT p, reT r]).2) ∧ Pg u pb w p (wrL T [gnT p, reT r]).1 w' := by
 have hlen := gnT_len p hp r hr
 have HIt : Hid (∀ w W, Pg u pb w p T W → Calls Tryz.prog 29 #[.int .i64 p] W fun e w' => e = .returned (.string ⟨(Lib.itoa p).toArray⟩) ∧ Below W.heap.size W w') := fun w W k => by
  refine Calls.mono (Tryz.strconv_Itoa p (by omega) (by omega) W (ht.below k.st)) ?_
  rintro e w' ⟨rfl, k, os, rfl⟩
  exact ⟨rfl, Wi.below_grow _ _ _⟩
 have HDg : Hid (∀ w X W, Pg u pb w p X W → Calls Tryz.prog 30 #[.int .u64 (r : Int)] W fun e w' => e = .returned (.string ⟨(Lib.decDigits r).toArray⟩) ∧ Below W.heap.size W w') := fun w X W k => digits_t r hr W (ht.below k.st)
 have HL1 : Hid (∀ w sb W, Pg u pb w p T W → W.heap[sb]? = some (.cells #[.string ⟨#[35, 32, 103, 110, 111, 109, 111, 110, 32]⟩, .string ⟨(Lib.itoa p).toArray⟩] 9) → Calls Tryz.prog 28 #[.pointer (some ⟨pb, 0, none⟩), .slice (some ⟨sb, 0, none⟩) 2 2] W fun e w' => e = .returned (.bool (fitB (T ++ gnT p))) ∧ Pg u pb w p (T ++ gnT p) w') :=
  fun w sb W h1 h2 => by
   have q := line_any u pb sb 2 p [gnA, Lib.itoa p] T W h1.re h2 (by simp) (by rw [← gnT]; have := fit_len hT; omega)
   rw [← gnT] at q
   refine Calls.mono q ?_
   rintro e w' ⟨rfl, q⟩
   exact ⟨rfl, h1.then q⟩
 have HL2 : fitB (T ++ gnT p) = true → Hid (∀ w sb W, Pg u pb w p (T ++ gnT p) W → W.heap[sb]? = some (.cells #[.string ⟨#[35, 32, 114, 101, 102, 117, 115, 101, 100, 32]⟩, .string ⟨(Lib.decDigits r).toArray⟩] 9) → Calls Tryz.prog 28 #[.pointer (some ⟨pb, 0, none⟩), .slice (some ⟨sb, 0, none⟩) 2 2] W fun e w' => e = .returned (.bool (fitB (T ++ gnT p ++ reT r))) ∧ Pg u pb w p (T ++ gnT p ++ reT r) w') :=
  fun hf w sb W h1 h2 => by
   have q := line_any u pb sb 2 p [reA, Lib.decDigits r] (T ++ gnT p) W h1.re h2 (by simp) (by rw [← reT]; have := fit_len hf; omega)
   rw [← reT] at q
   refine Calls.mono q ?_
   rintro e w' ⟨rfl, q⟩
   exact ⟨rfl, h1.then q⟩
 have hwr := wrL_two T (gnT p) (reT r)
 rw [hwr]
 have hN0 := new_1 w (.cells #[.int .i64 p, .slice ao n cap, .int .u64 (r : Int)] 25)
 have HP0 := hid_of (h.alloc (.cells #[.int .i64 p, .slice ao n cap, .int .u64 (r : Int)] 25))
 have hne : w.heap.size ≠ pb := by have := h.lt; omega
 have HRf : Hid (∀ X W, Pg u pb (w.alloc (.cells #[.int .i64 p, .slice ao n cap, .int .u64 (r : Int)] 25)) p X W → W.cell? ⟨w.heap.size, 2, none⟩ = some (.int .u64 (r : Int))) := fun X W k => by
  have := k.cells hN0 hne (by decide)
  simp [World.cell?, this]
 clear h ht hp hr hT hlen hwr hN0 hne
 obtain ⟨W0, hW0⟩ : ∃ W0, W0 = w.alloc (.cells #[.int .i64 p, .slice ao n cap, .int .u64 (r : Int)] 25) := ⟨_, rfl⟩
 rw [← hW0] at HP0 HRf
 have HP1 := hid_of HP0.out.re
 have HW0 := hid_of hW0
 have c0 : W0.cell? ⟨w.heap.size, 0, none⟩ = some (.int .i64 p) := by rw [hW0]; simp [go_sem]
 clear hW0
 by_cases hf : fitB (T ++ gnT p) = true
 ·have HL2' := HL2 hf
  rw [hf] at HL1 ⊢
  clear HL2 hf
  generalize T ++ gnT p ++ reT r = R2 at HL2' ⊢
  generalize T ++ gnT p = R1 at HL1 HL2' ⊢
  generalize Lib.itoa p = D at HL1 HIt
  generalize Lib.decDigits r = K at HL2' HDg
  go_enter Tryz.func15, Tryz.ntmps15
  go_upto_region 1 with fail
  rw [← HW0.out]
  clear HW0
  go_wp2_with (first
   | (go_at_call 29; refine (HIt.out _ _ HP1.out).mono ?_; rintro e w2 ⟨rfl, hb2⟩; have HP2 := hid_of ((HP1.out.below hb2).alloc (.cells #[.string ⟨#[35, 32, 103, 110, 111, 109, 111, 110, 32]⟩, .string ⟨D.toArray⟩] 9)); clear hb2)
   | (go_at_call 28; have hT2 := HP2; refine (HL1.out _ _ _ HP2.out (new_1 _ _)).mono ?_; rintro e w3 ⟨rfl, h3⟩; have HP3 := hid_of h3; have cr := HRf.out _ _ h3; clear h3 HP2 HL1 hT2)
   | (go_at_call 30; refine (HDg.out _ _ _ HP3.out).mono ?_; rintro e w4 ⟨rfl, hb4⟩; have HP4 := hid_of ((HP3.out.below hb4).alloc (.cells #[.string ⟨#[35, 32, 114, 101, 102, 117, 115, 101, 100, 32]⟩, .string ⟨K.toArray⟩] 9)); clear hb4)
   | (go_at_call 28; refine (HL2'.out _ _ _ HP4.out (new_1 _ _)).mono ?_; rintro e w5 ⟨rfl, h5⟩; have HP5 := hid_of h5; clear h5))
  go_ret
  exact ⟨rfl, HP0.out.then HP5.out⟩
 ·simp only [Bool.not_eq_true] at hf
  rw [hf] at HL1 ⊢
  clear HL2 hf HDg HRf
  generalize T ++ gnT p = R1 at HL1 ⊢
  generalize Lib.itoa p = D at HL1 HIt
  go_enter Tryz.func15, Tryz.ntmps15
  go_upto_region 1 with fail
  rw [← HW0.out]
  clear HW0
  go_wp2_with (first
   | (go_at_call 29; refine (HIt.out _ _ HP1.out).mono ?_; rintro e w2 ⟨rfl, hb2⟩; have HP2 := hid_of ((HP1.out.below hb2).alloc (.cells #[.string ⟨#[35, 32, 103, 110, 111, 109, 111, 110, 32]⟩, .string ⟨D.toArray⟩] 9)); clear hb2)
   | (go_at_call 28; refine (HL1.out _ _ _ HP2.out (new_1 _ _)).mono ?_; rintro e w3 ⟨rfl, h3⟩; have HP3 := hid_of h3; clear h3 HP2))
  go_ret
  exact ⟨rfl, HP0.out.then HP3.out⟩
end Go.Proofs.YtlgfgeacphkhnaaGreatDoor
/- Write. Own work of the verifier. -/
namespace Go.Proofs.YtlgfgeacphkhnaaGreatDoor
open Go.RowKit Me

def exL (vl : Vl → List (List UInt8)) (s : Sn) : List (List UInt8) := [gnT s.p, reT s.r] ++ vsL vl none s.vs
def WrQ (w : World) (s : Sn) (A : List (List UInt8)) (e : Ending) (W : World) : Prop :=
 ((chkS s).1 ≠ 0 ∧ e = .returned (.tuple #[.slice none 0 0, .int .i64 (chkS s).1])) ∨
 ((chkS s).1 = 0 ∧ (wrL [] A).2 = false ∧ e = .returned (.tuple #[.slice none 0 0, .int .i64 4])) ∨
 ((chkS s).1 = 0 ∧ (wrL [] A).2 = true ∧ ∃ ao cap, e = .returned (.tuple #[.slice ao A.flatten.length cap, .int .i64 0]) ∧ W.ownsRow w.heap.size 5 1 (.slice ao A.flatten.length cap) A.flatten.length (Lib.byteCells A.flatten))
theorem chkS_p {s : Sn} (h : (chkS s).1 = 0) : (1 ≤ s.p ∧ s.p ≤ 14) ∧ s.vs.length ≤ 256 := by
 unfold chkS at h
 split at h
 ·simp at h
 ·split at h
  ·simp at h
  ·exact ⟨by omega, by omega⟩
theorem pg_new (u w : World) (p : Int) (h : Below u.heap.size u w) : Pg u w.heap.size (w.alloc (.cells #[.int .i64 p, .slice none 0 0] 55)) p [] (w.alloc (.cells #[.int .i64 p, .slice none 0 0] 55)) :=
 ⟨⟨none, 0, new_1 w _, rfl, Or.inl ⟨rfl, rfl⟩⟩, h.size, bt h (bel1 _ _), Lib.OthersKept.refl _ _ _⟩
set_option maxRecDepth 100000 in
set_option maxHeartbeats 1000000 in
theorem write_any (vl : Vl → List (List UInt8)) (s : Sn) (v : Value) (h : SnW s) (w : World) (hv : SnAt w s v) (ht : Wi.Tab w) (hk : (chkS s).1 = 0 → ∀ x ∈ s.vs, ∀ pb, Wv w pb s.p vl x) :
  Calls Tryz.prog 7 #[v] w fun e w' => WrQ w s (exL vl s) e w' ∧ Below w.heap.size w w' := by
 have hv0 := hv
 obtain ⟨uv, rfl, hu⟩ := hv
 obtain ⟨ao, b, o, cap, rfl, -, -, -, -⟩ := hu.open
 obtain ⟨W0, hW0⟩ : ∃ W0, W0 = w.alloc (.cells #[.int .i64 s.p, .slice ao s.vs.length cap, .int .u64 (s.r : Int)] 25) := ⟨_, rfl⟩
 have hN0 : W0.heap[w.heap.size]? = some (.cells #[.int .i64 s.p, .slice ao s.vs.length cap, .int .u64 (s.r : Int)] 25) := by rw [hW0]; exact new_1 w _
 have hb0 : Below w.heap.size w W0 := by rw [hW0]; exact bel1 w _
 have HC : La.HidC _ _ _ _ _ := check_any s _ h W0 (hv0.below hb0)
 have HW0 := hid_of hW0
 have HB0 := hid_of hb0
 obtain ⟨k0, k1, k2⟩ : W0.cell? ⟨w.heap.size, 0, none⟩ = some (.int .i64 s.p) ∧ W0.cell? ⟨w.heap.size, 1, none⟩ = some (.slice ao s.vs.length cap) ∧ W0.cell? ⟨w.heap.size, 2, none⟩ = some (.int .u64 (s.r : Int)) := by
  refine ⟨?_, ?_, ?_⟩ <;> simp [World.cell?, hN0]
 by_cases hc : (chkS s).1 = 0
 ·obtain ⟨hp, hl⟩ := chkS_p hc
  have hr : s.r < 18446744073709551616 := h.r
  have hgn : (wrL [] [gnT s.p, reT s.r]).2 = true := by
   rw [wrL_all]
   right
   have := gnT_len s.p hp s.r hr
   unfold fitB
   simp only [List.flatten_cons, List.flatten_nil, List.length_append, List.length_nil, decide_eq_true_eq]
   omega
  have hf0 : fitB [] = true := by decide
  have hf1 := wrL_fit _ _ hf0 hgn
  have HHd : Hid (∀ pb w1, Pg w pb w1 s.p [] w1 → Calls Tryz.prog 15 #[.pointer (some ⟨pb, 0, none⟩), .agg #[.int .i64 s.p, .slice ao s.vs.length cap, .int .u64 (s.r : Int)]] w1 fun e w' => e = .returned (.bool true) ∧ Pg w pb w1 s.p (wrL [] [gnT s.p, reT s.r]).1 w') := fun pb w1 k => by
   have q := head_any w pb s.p [] s.r ao s.vs.length cap w1 k ht hp hr hf0
   rw [hgn] at q
   exact q
  have HVs : Hid (∀ pb w1, Pg w pb w1 s.p (wrL [] [gnT s.p, reT s.r]).1 w1 → Calls Tryz.prog 16 #[.pointer (some ⟨pb, 0, none⟩), .slice ao s.vs.length cap] w1 fun e w' => e = .returned (.bool (wrL [] (exL vl s)).2) ∧ Pg w pb w1 s.p (wrL [] (exL vl s)).1 w') := fun pb w1 k => by
   have q := values_any w pb s.p (wrL [] [gnT s.p, reT s.r]).1 vl s.vs _ w1 k hu hl (fun x hx => hk hc x hx pb) hf1
   have e : wrL [] (exL vl s) = wrL (wrL [] [gnT s.p, reT s.r]).1 (vsL vl none s.vs) := wrL_skip hgn
   rw [e]
   exact q
  generalize (wrL [] [gnT s.p, reT s.r]).1 = T1 at HHd HVs
  have HBx : Hid (∀ pb X w1 W, W0.heap.size ≤ pb → w1.heap[w.heap.size]? = some (.cells #[.int .i64 s.p, .slice ao s.vs.length cap, .int .u64 (s.r : Int)] 25) → Pg w pb w1 s.p X W → W.cell? ⟨w.heap.size, 1, none⟩ = some (.slice ao s.vs.length cap)) := fun pb X w1 W k1 k2 k3 => by
   have := k3.cells k2 (by have := (Array.getElem?_eq_some_iff.1 hN0).1; omega) (by decide)
   simp [World.cell?, this]
  have HN0 := hid_of hN0
  have hc' : ((chkS s).1 != 0) = false := by rw [bne_eq_false_iff_eq]; exact hc
  have hC0 := HC
  rw [hc] at hC0
  by_cases hok : (wrL [] (exL vl s)).2 = true
  ·have HQ : Hid (∀ ao cap W, W.ownsRow w.heap.size 5 1 (.slice ao (exL vl s).flatten.length cap) (exL vl s).flatten.length (Lib.byteCells (exL vl s).flatten) → WrQ w s (exL vl s) (.returned (.tuple #[.slice ao (exL vl s).flatten.length cap, .int .i64 0])) W) := fun ao cap W q => Or.inr (Or.inr ⟨hc, hok, ao, cap, rfl, q⟩)
   have hfl := wrL_flat _ _ hok
   rw [List.nil_append] at hfl
   rw [hfl, hok] at HVs
   clear hv0 hu h ht hk hN0 hW0 hb0 hc hc' hok hfl hf0 hf1 hgn hp hl hr HC
   generalize WrQ w s (exL vl s) = Q at *
   generalize (exL vl s).flatten = R at *
   generalize (chkS s).2 = zi at *
   go_enter Tryz.func7, Tryz.ntmps7
   go_upto_region 1 with fail
   rw [← HW0.out]
   clear HW0
   go_upto_region 5 with (go_at_call 14; refine (hC0.out).mono ?_; rintro e w2 ⟨rfl, hb2⟩; have HB2 := hid_of (bt HB0.out hb2); have hn2 := (hb2.block _ (Array.getElem?_eq_some_iff.1 HN0.out).1).trans HN0.out; have hlt2 := hb2.size; have c0 : w2.cell? ⟨w.heap.size, 0, none⟩ = some (.int .i64 s.p) := by simp [World.cell?, hn2])
   have HP3 := hid_of (pg_new w w2 s.p HB2.out)
   have hn3 := ((bel1 w2 (.cells #[.int .i64 s.p, .slice none 0 0] 55)).block _ (Array.getElem?_eq_some_iff.1 hn2).1).trans hn2
   have HB3 := hid_of (bt HB2.out (bel1 w2 (.cells #[.int .i64 s.p, .slice none 0 0] 55)))
   generalize w2.alloc (.cells #[.int .i64 s.p, .slice none 0 0] 55) = W3 at *
   obtain ⟨e0, e1, e2⟩ : W3.cell? ⟨w.heap.size, 0, none⟩ = some (.int .i64 s.p) ∧ W3.cell? ⟨w.heap.size, 1, none⟩ = some (.slice ao s.vs.length cap) ∧ W3.cell? ⟨w.heap.size, 2, none⟩ = some (.int .u64 (s.r : Int)) := by
    refine ⟨?_, ?_, ?_⟩ <;> simp [World.cell?, hn3]
   have HL2 := hid_of hlt2
   have HN3 := hid_of hn3
   clear hn2 hn3 hlt2 c0 k0 k1 k2 hC0 HB0 HN0
   go_wp2_with (first
    | (go_at_call 15; refine (HHd.out _ _ HP3.out).mono ?_; rintro e w4 ⟨rfl, h4⟩; have c4 := HBx.out _ _ _ _ HL2.out HN3.out h4; have HP4 := hid_of h4; clear h4)
    | (go_at_call 16; refine (HVs.out _ _ HP4.out.re).mono ?_; rintro e w5 ⟨rfl, h5⟩; obtain ⟨a5, p5, f0, f1, -, f3⟩ := h5.cell; have HO := hid_of f3; have HP5 := hid_of h5; clear h5 f3))
   go_ret2
   exact ⟨HQ.out _ _ _ HO.out, HP5.out.st⟩
  ·simp only [Bool.not_eq_true] at hok
   have HQ : Hid (∀ W, WrQ w s (exL vl s) (.returned (.tuple #[.slice none 0 0, .int .i64 4])) W) := fun W => Or.inr (Or.inl ⟨hc, hok, rfl⟩)
   rw [hok] at HVs
   clear hv0 hu h ht hk hN0 hW0 hb0 hc hc' hok hf0 hf1 hgn hp hl hr HC
   generalize WrQ w s (exL vl s) = Q at *
   generalize (wrL [] (exL vl s)).1 = R at HVs
   generalize (chkS s).2 = zi at *
   go_enter Tryz.func7, Tryz.ntmps7
   go_upto_region 1 with fail
   rw [← HW0.out]
   clear HW0
   go_upto_region 5 with (go_at_call 14; refine (hC0.out).mono ?_; rintro e w2 ⟨rfl, hb2⟩; have HB2 := hid_of (bt HB0.out hb2); have hn2 := (hb2.block _ (Array.getElem?_eq_some_iff.1 HN0.out).1).trans HN0.out; have hlt2 := hb2.size; have c0 : w2.cell? ⟨w.heap.size, 0, none⟩ = some (.int .i64 s.p) := by simp [World.cell?, hn2])
   have HP3 := hid_of (pg_new w w2 s.p HB2.out)
   have hn3 := ((bel1 w2 (.cells #[.int .i64 s.p, .slice none 0 0] 55)).block _ (Array.getElem?_eq_some_iff.1 hn2).1).trans hn2
   have HB3 := hid_of (bt HB2.out (bel1 w2 (.cells #[.int .i64 s.p, .slice none 0 0] 55)))
   generalize w2.alloc (.cells #[.int .i64 s.p, .slice none 0 0] 55) = W3 at *
   obtain ⟨e0, e1, e2⟩ : W3.cell? ⟨w.heap.size, 0, none⟩ = some (.int .i64 s.p) ∧ W3.cell? ⟨w.heap.size, 1, none⟩ = some (.slice ao s.vs.length cap) ∧ W3.cell? ⟨w.heap.size, 2, none⟩ = some (.int .u64 (s.r : Int)) := by
    refine ⟨?_, ?_, ?_⟩ <;> simp [World.cell?, hn3]
   have HL2 := hid_of hlt2
   have HN3 := hid_of hn3
   clear hn2 hn3 hlt2 c0 k0 k1 k2 hC0 HB0 HN0
   go_wp2_with (first
    | (go_at_call 15; refine (HHd.out _ _ HP3.out).mono ?_; rintro e w4 ⟨rfl, h4⟩; have c4 := HBx.out _ _ _ _ HL2.out HN3.out h4; have HP4 := hid_of h4; clear h4)
    | (go_at_call 16; refine (HVs.out _ _ HP4.out.re).mono ?_; rintro e w5 ⟨rfl, h5⟩; obtain ⟨a5, p5, f0, f1, -, f3⟩ := h5.cell; have HO := hid_of f3; have HP5 := hid_of h5; clear h5 f3))
   go_ret2
   exact ⟨HQ.out _, HP5.out.st⟩
 ·have HQ : Hid (∀ W, WrQ w s (exL vl s) (.returned (.tuple #[.slice none 0 0, .int .i64 (chkS s).1])) W) := fun W => Or.inl ⟨hc, rfl⟩
  have hc' : ((chkS s).1 != 0) = true := by rw [bne_iff_ne]; exact hc
  clear hv0 hu h ht hk hN0 hW0 hb0 hc
  generalize WrQ w s (exL vl s) = Q at *
  generalize (chkS s).1 = z at *
  generalize (chkS s).2 = zi at *
  go_enter Tryz.func7, Tryz.ntmps7
  go_upto_region 1 with fail
  rw [← HW0.out]
  clear HW0
  go_wp2_with (go_at_call 14; refine (HC.out).mono ?_; rintro e w2 ⟨rfl, hb2⟩; have HB2 := hid_of (bt HB0.out hb2); clear hb2)
  go_ret2
  exact ⟨HQ.out _, HB2.out⟩
end Go.Proofs.YtlgfgeacphkhnaaGreatDoor
