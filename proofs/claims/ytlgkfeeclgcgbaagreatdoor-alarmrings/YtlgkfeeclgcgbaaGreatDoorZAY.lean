/- RULES: others, holds. Own work of the verifier. -/
import Derived.Test.YtlgkfeeclgcgbaaGreatDoorZAX
import Derived.Test.YtlgkfeeclgcgbaaGreatDoorZAE
set_option maxRecDepth 100000
set_option maxHeartbeats 400000
namespace Go.Proofs.YtlgkfeeclgcgbaaGreatDoor.Ru
open Go.RowKit Me
theorem B1.set0 {g0 gx:Nat} {a0 a1 a2 a3 a4 a5 a6 a7:Value} {W:World} (h:B1 g0 gx a0 a1 a2 a3 a4 a5 a6 a7 W) (hg:g0≠gx) (v:Value):B1 g0 gx v a1 a2 a3 a4 a5 a6 a7 (W.setCell ⟨gx,0,none⟩ v):=by
 refine ⟨(Below.heap_setCell _ _ _ _ hg).trans h.z,?_⟩
 have:=Lib.heap_setCell_same (i:=0) h.bx v
 simpa using this
theorem B1.set1 {g0 gx:Nat} {a0 a1 a2 a3 a4 a5 a6 a7:Value} {W:World} (h:B1 g0 gx a0 a1 a2 a3 a4 a5 a6 a7 W) (hg:g0≠gx) (v:Value):B1 g0 gx a0 v a2 a3 a4 a5 a6 a7 (W.setCell ⟨gx,1,none⟩ v):=by
 refine ⟨(Below.heap_setCell _ _ _ _ hg).trans h.z,?_⟩
 have:=Lib.heap_setCell_same (i:=1) h.bx v
 simpa using this
abbrev shp (k:Int):Nat:=(kwI k).1
def othS (sh:Nat) (_k:Int) (x:Nat) (nm:List UInt8) (lv:Value) (w n d:Int) (av:Value):Value :=
 if sh=1 then rx 0 0 nm lv w n d av
 else if sh=3 then rx 0 x [] (.slice none 0 0) 0 0 0 av
 else if sh=2 then rx 0 x [] (.slice none 0 0) 0 n d av
 else rx 0 x nm lv w n d (.slice none 0 0)
theorem res_bel {W w:World} {g0:Nat} (hb:Below w.heap.size w W) (hg:w.heap.size≤g0) (a0 a1 a2 a3 a4 a5 a6 a7:Value):Below w.heap.size w (put8 W g0 a0 a1 a2 a3 a4 a5 a6 a7) :=
 hb.trans ((put8_one W g0 a0 a1 a2 a3 a4 a5 a6 a7).below hg hb.size)
theorem others_any (k:Int) (x:Nat) (nm:List UInt8) (lv:Value) (wi n d:Int) (av:Value) (hl:IsSl lv) (ha:IsSl av) (w:World) (h:Kd w) :
  Calls Tryz.prog 108 #[rx k x nm lv wi n d av] w fun e w'=>e=.returned (othS (shp k) k x nm lv wi n d av)∧Below w.heap.size w w':=by
 obtain ⟨la,ln,lc,rfl⟩:=hl
 obtain ⟨aa,an,ac,rfl⟩:=ha
 obtain ⟨W0,hW0⟩:∃ W0,W0=(w.alloc (.cells (rc k x nm (.slice la ln lc) wi n d (.slice aa an ac)) 61)).alloc (.cells (rc 0 0 [] (.slice none 0 0) 0 0 0 (.slice none 0 0)) 61):=⟨_,rfl⟩
 have hb0:Below w.heap.size w W0:=by rw [hW0];exact La.bel2 w _ _
 have hB0:B1 (w.heap.size+1) w.heap.size (.int .i64 k) (.float .f64 x) (.string ⟨nm.toArray⟩) (.slice la ln lc) (.int .i64 wi) (.int .i64 n) (.int .i64 d) (.slice aa an ac) W0:=by
  rw [hW0]
  refine ⟨?_,?_⟩
  ·have:=new_1 (w.alloc (.cells (rc k x nm (.slice la ln lc) wi n d (.slice aa an ac)) 61)) (.cells (rc 0 0 [] (.slice none 0 0) 0 0 0 (.slice none 0 0)) 61)
   rw [show (w.alloc (.cells (rc k x nm (.slice la ln lc) wi n d (.slice aa an ac)) 61)).heap.size=w.heap.size+1 by simp] at this
   exact this
  ·exact ((bel1 (w.alloc (.cells (rc k x nm (.slice la ln lc) wi n d (.slice aa an ac)) 61)) _).block w.heap.size (by simp)).trans (new_1 w _)
 have HK:Hid (∀ W,Below w.heap.size w W→Calls Tryz.prog 78 #[rx k x nm (.slice la ln lc) wi n d (.slice aa an ac)] W fun e w'=>e=.returned (kx (kwI k))∧Below W.heap.size W w'):=fun W hb=>kind_any k x nm _ wi n d _ ⟨_,_,_,rfl⟩ ⟨_,_,_,rfl⟩ W (h.below hb)
 obtain ⟨y0,y1,y2,y3,y4,y5,y6,y7⟩:=eight hB0.bx
 have HB0:=hid_of hB0
 have HW0:=hid_of hW0
 have Hb0:=hid_of hb0
 have sF:=store_f
 have hfl:=fldK
 unfold shp
 clear h hb0 hB0 hW0
 generalize kwI k=q at *
 obtain ⟨sh,wd⟩:=q
 dsimp only
 have fin:∀ w1,Below W0.heap.size W0 w1→B1 (w.heap.size+1) w.heap.size (.int .i64 k) (.float .f64 x) (.string ⟨nm.toArray⟩) (.slice la ln lc) (.int .i64 wi) (.int .i64 n) (.int .i64 d) (.slice aa an ac) w1∧Below w.heap.size w w1:=fun w1 hb=>⟨HB0.out.below hb,Hb0.out.trans (hb.mono Hb0.out.size)⟩
 have HFin:=hid_of fin
 clear fin HB0
 go_enter Tryz.func108,Tryz.ntmps108
 go_upto_region 1 with fail
 rw [← HW0.out]
 clear HW0
 go_wp2_with fail
 refine Calls.mono (HK.out _ Hb0.out) ?_
 rintro e w1 ⟨rfl,hbw⟩
 obtain ⟨hB1,hb1⟩:=HFin.out w1 hbw
 clear hbw HFin Hb0 HK y0 y1 y2 y3 y4 y5 y6 y7
 obtain ⟨y0,y1,y2,y3,y4,y5,y6,y7⟩:=eight hB1.bx
 have yf:=eight_f hB1.bx
 obtain ⟨z0,z1,z2,z3,z4,z5,z6,z7⟩:=eight hB1.z
 have zf:=eight_f hB1.z
 by_cases q1:sh=1
 ·subst q1
  have HQ:Hid (othS 1 k x nm (.slice la ln lc) wi n d (.slice aa an ac)=.agg #[.int .i64 0,.float .f64 0,.string ⟨nm.toArray⟩,.slice la ln lc,.int .i64 wi,.int .i64 n,.int .i64 d,.slice aa an ac]):=by
   show othS _ _ _ _ _ _ _ _ _=_
   unfold othS
   rw [if_pos rfl]
  have HBx:=hid_of ((hB1.set1 (by omega) (.float .f64 0)).set0 (by omega) (.int .i64 0))
  have Hbx:=hid_of ((hb1.setCell (p:=⟨w.heap.size,1,none⟩) (Nat.le_refl _) (.float .f64 0)).setCell (p:=⟨w.heap.size,0,none⟩) (Nat.le_refl _) (.int .i64 0))
  clear hB1 hb1
  go_upto_region 10 with fail
  generalize ((w1.setCell ⟨w.heap.size,1,none⟩ (.float .f64 0)).setCell ⟨w.heap.size,0,none⟩ (.int .i64 0))=W8 at *
  clear y0 y1 y2 y3 y4 y5 y6 y7 yf z0 z1 z2 z3 z4 z5 z6 z7 zf
  obtain ⟨y0,y1,y2,y3,y4,y5,y6,y7⟩:=eight HBx.out.bx
  obtain ⟨z0,z1,z2,z3,z4,z5,z6,z7⟩:=eight HBx.out.z
  have zf:=eight_f HBx.out.z
  obtain ⟨W9,hW9⟩:∃ W9,W9=put8 W8 (w.heap.size+1) (.int .i64 0) (.float .f64 0) (.string ⟨nm.toArray⟩) (.slice la ln lc) (.int .i64 wi) (.int .i64 n) (.int .i64 d) (.slice aa an ac):=⟨_,rfl⟩
  have HH:Hid (W9.heap[w.heap.size+1]? =some (.cells #[.int .i64 0,.float .f64 0,.string ⟨nm.toArray⟩,.slice la ln lc,.int .i64 wi,.int .i64 n,.int .i64 d,.slice aa an ac] 61)):=by rw [hW9];exact put8_heap HBx.out.z (.int .i64 0) (.float .f64 0) (.string ⟨nm.toArray⟩) (.slice la ln lc) (.int .i64 wi) (.int .i64 n) (.int .i64 d) (.slice aa an ac)
  have HBf:Hid (Below w.heap.size w W9):=by rw [hW9];exact res_bel Hbx.out (by omega) _ _ _ _ _ _ _ _
  have HW9:=hid_of hW9
  clear HBx Hbx hW9
  go_wp2_with fail
  obtain rfl:=HW9.out
  refine bodyPost_ret (results_cell_row (P:=Tryz.prog) rfl _ _ (w.heap.size+1) 61 _ (0,0) _ rfl HH.out Tryz.underlying61 rfl (by kernel_rfl)) rfl ?_
  exact ⟨congrArg Ending.returned HQ.out.symm,HBf.out⟩
 ·have b1:((sh:Int) == 1)=false:=by rw [beq_eq_false_iff_ne];omega
  by_cases q3:sh=3
  ·subst q3
   have HQ:Hid (othS 3 k x nm (.slice la ln lc) wi n d (.slice aa an ac)=.agg #[.int .i64 0,.float .f64 x,.string ⟨#[]⟩,.slice none 0 0,.int .i64 0,.int .i64 0,.int .i64 0,.slice aa an ac]):=by
    show othS _ _ _ _ _ _ _ _ _=_
    unfold othS
    rw [if_neg (by decide),if_pos rfl]
   have HBx:=hid_of ((((((hB1.set5 (by omega) (.int .i64 0)).set6 (by omega) (.int .i64 0)).set2 (by omega) (.string ⟨#[]⟩)).set3 (by omega) (.slice none 0 0)).set4 (by omega) (.int .i64 0)).set0 (by omega) (.int .i64 0))
   have Hbx:=hid_of ((((((hb1.setCell (p:=⟨w.heap.size,5,none⟩) (Nat.le_refl _) (.int .i64 0)).setCell (p:=⟨w.heap.size,6,none⟩) (Nat.le_refl _) (.int .i64 0)).setCell (p:=⟨w.heap.size,2,none⟩) (Nat.le_refl _) (.string ⟨#[]⟩)).setCell (p:=⟨w.heap.size,3,none⟩) (Nat.le_refl _) (.slice none 0 0)).setCell (p:=⟨w.heap.size,4,none⟩) (Nat.le_refl _) (.int .i64 0)).setCell (p:=⟨w.heap.size,0,none⟩) (Nat.le_refl _) (.int .i64 0))
   clear hB1 hb1
   go_upto_region 10 with fail
   generalize ((((((w1.setCell ⟨w.heap.size,5,none⟩ (.int .i64 0)).setCell ⟨w.heap.size,6,none⟩ (.int .i64 0)).setCell ⟨w.heap.size,2,none⟩ (.string ⟨#[]⟩)).setCell ⟨w.heap.size,3,none⟩ (.slice none 0 0)).setCell ⟨w.heap.size,4,none⟩ (.int .i64 0)).setCell ⟨w.heap.size,0,none⟩ (.int .i64 0))=W8 at *
   clear y0 y1 y2 y3 y4 y5 y6 y7 yf z0 z1 z2 z3 z4 z5 z6 z7 zf
   obtain ⟨y0,y1,y2,y3,y4,y5,y6,y7⟩:=eight HBx.out.bx
   obtain ⟨z0,z1,z2,z3,z4,z5,z6,z7⟩:=eight HBx.out.z
   have zf:=eight_f HBx.out.z
   obtain ⟨W9,hW9⟩:∃ W9,W9=put8 W8 (w.heap.size+1) (.int .i64 0) (.float .f64 x) (.string ⟨#[]⟩) (.slice none 0 0) (.int .i64 0) (.int .i64 0) (.int .i64 0) (.slice aa an ac):=⟨_,rfl⟩
   have HH:Hid (W9.heap[w.heap.size+1]? =some (.cells #[.int .i64 0,.float .f64 x,.string ⟨#[]⟩,.slice none 0 0,.int .i64 0,.int .i64 0,.int .i64 0,.slice aa an ac] 61)):=by rw [hW9];exact put8_heap HBx.out.z (.int .i64 0) (.float .f64 x) (.string ⟨#[]⟩) (.slice none 0 0) (.int .i64 0) (.int .i64 0) (.int .i64 0) (.slice aa an ac)
   have HBf:Hid (Below w.heap.size w W9):=by rw [hW9];exact res_bel Hbx.out (by omega) _ _ _ _ _ _ _ _
   have HW9:=hid_of hW9
   clear HBx Hbx hW9
   go_wp2_with fail
   obtain rfl:=HW9.out
   refine bodyPost_ret (results_cell_row (P:=Tryz.prog) rfl _ _ (w.heap.size+1) 61 _ (0,0) _ rfl HH.out Tryz.underlying61 rfl (by kernel_rfl)) rfl ?_
   exact ⟨congrArg Ending.returned HQ.out.symm,HBf.out⟩
  ·have b3:((sh:Int) == 3)=false:=by rw [beq_eq_false_iff_ne];omega
   by_cases q2:sh=2
   ·subst q2
    have HQ:Hid (othS 2 k x nm (.slice la ln lc) wi n d (.slice aa an ac)=.agg #[.int .i64 0,.float .f64 x,.string ⟨#[]⟩,.slice none 0 0,.int .i64 0,.int .i64 n,.int .i64 d,.slice aa an ac]):=by
     show othS _ _ _ _ _ _ _ _ _=_
     unfold othS
     rw [if_neg (by decide),if_neg (by decide),if_pos rfl]
    have HBx:=hid_of ((((hB1.set2 (by omega) (.string ⟨#[]⟩)).set3 (by omega) (.slice none 0 0)).set4 (by omega) (.int .i64 0)).set0 (by omega) (.int .i64 0))
    have Hbx:=hid_of ((((hb1.setCell (p:=⟨w.heap.size,2,none⟩) (Nat.le_refl _) (.string ⟨#[]⟩)).setCell (p:=⟨w.heap.size,3,none⟩) (Nat.le_refl _) (.slice none 0 0)).setCell (p:=⟨w.heap.size,4,none⟩) (Nat.le_refl _) (.int .i64 0)).setCell (p:=⟨w.heap.size,0,none⟩) (Nat.le_refl _) (.int .i64 0))
    clear hB1 hb1
    go_upto_region 10 with fail
    generalize ((((w1.setCell ⟨w.heap.size,2,none⟩ (.string ⟨#[]⟩)).setCell ⟨w.heap.size,3,none⟩ (.slice none 0 0)).setCell ⟨w.heap.size,4,none⟩ (.int .i64 0)).setCell ⟨w.heap.size,0,none⟩ (.int .i64 0))=W8 at *
    clear y0 y1 y2 y3 y4 y5 y6 y7 yf z0 z1 z2 z3 z4 z5 z6 z7 zf
    obtain ⟨y0,y1,y2,y3,y4,y5,y6,y7⟩:=eight HBx.out.bx
    obtain ⟨z0,z1,z2,z3,z4,z5,z6,z7⟩:=eight HBx.out.z
    have zf:=eight_f HBx.out.z
    obtain ⟨W9,hW9⟩:∃ W9,W9=put8 W8 (w.heap.size+1) (.int .i64 0) (.float .f64 x) (.string ⟨#[]⟩) (.slice none 0 0) (.int .i64 0) (.int .i64 n) (.int .i64 d) (.slice aa an ac):=⟨_,rfl⟩
    have HH:Hid (W9.heap[w.heap.size+1]? =some (.cells #[.int .i64 0,.float .f64 x,.string ⟨#[]⟩,.slice none 0 0,.int .i64 0,.int .i64 n,.int .i64 d,.slice aa an ac] 61)):=by rw [hW9];exact put8_heap HBx.out.z (.int .i64 0) (.float .f64 x) (.string ⟨#[]⟩) (.slice none 0 0) (.int .i64 0) (.int .i64 n) (.int .i64 d) (.slice aa an ac)
    have HBf:Hid (Below w.heap.size w W9):=by rw [hW9];exact res_bel Hbx.out (by omega) _ _ _ _ _ _ _ _
    have HW9:=hid_of hW9
    clear HBx Hbx hW9
    go_wp2_with fail
    obtain rfl:=HW9.out
    refine bodyPost_ret (results_cell_row (P:=Tryz.prog) rfl _ _ (w.heap.size+1) 61 _ (0,0) _ rfl HH.out Tryz.underlying61 rfl (by kernel_rfl)) rfl ?_
    exact ⟨congrArg Ending.returned HQ.out.symm,HBf.out⟩
   ·have b2:((sh:Int) == 2)=false:=by rw [beq_eq_false_iff_ne];omega
    have HQ:Hid (othS sh k x nm (.slice la ln lc) wi n d (.slice aa an ac)=.agg #[.int .i64 0,.float .f64 x,.string ⟨nm.toArray⟩,.slice la ln lc,.int .i64 wi,.int .i64 n,.int .i64 d,.slice none 0 0]):=by
     show othS _ _ _ _ _ _ _ _ _=_
     unfold othS
     rw [if_neg q1,if_neg q3,if_neg q2]
    have HBx:=hid_of ((hB1.set7 (by omega) (.slice none 0 0)).set0 (by omega) (.int .i64 0))
    have Hbx:=hid_of ((hb1.setCell (p:=⟨w.heap.size,7,none⟩) (Nat.le_refl _) (.slice none 0 0)).setCell (p:=⟨w.heap.size,0,none⟩) (Nat.le_refl _) (.int .i64 0))
    clear hB1 hb1
    go_upto_region 10 with fail
    generalize ((w1.setCell ⟨w.heap.size,7,none⟩ (.slice none 0 0)).setCell ⟨w.heap.size,0,none⟩ (.int .i64 0))=W8 at *
    clear y0 y1 y2 y3 y4 y5 y6 y7 yf z0 z1 z2 z3 z4 z5 z6 z7 zf
    obtain ⟨y0,y1,y2,y3,y4,y5,y6,y7⟩:=eight HBx.out.bx
    obtain ⟨z0,z1,z2,z3,z4,z5,z6,z7⟩:=eight HBx.out.z
    have zf:=eight_f HBx.out.z
    obtain ⟨W9,hW9⟩:∃ W9,W9=put8 W8 (w.heap.size+1) (.int .i64 0) (.float .f64 x) (.string ⟨nm.toArray⟩) (.slice la ln lc) (.int .i64 wi) (.int .i64 n) (.int .i64 d) (.slice none 0 0):=⟨_,rfl⟩
    have HH:Hid (W9.heap[w.heap.size+1]? =some (.cells #[.int .i64 0,.float .f64 x,.string ⟨nm.toArray⟩,.slice la ln lc,.int .i64 wi,.int .i64 n,.int .i64 d,.slice none 0 0] 61)):=by rw [hW9];exact put8_heap HBx.out.z (.int .i64 0) (.float .f64 x) (.string ⟨nm.toArray⟩) (.slice la ln lc) (.int .i64 wi) (.int .i64 n) (.int .i64 d) (.slice none 0 0)
    have HBf:Hid (Below w.heap.size w W9):=by rw [hW9];exact res_bel Hbx.out (by omega) _ _ _ _ _ _ _ _
    have HW9:=hid_of hW9
    clear HBx Hbx hW9
    go_wp2_with fail
    obtain rfl:=HW9.out
    refine bodyPost_ret (results_cell_row (P:=Tryz.prog) rfl _ _ (w.heap.size+1) 61 _ (0,0) _ rfl HH.out Tryz.underlying61 rfl (by kernel_rfl)) rfl ?_
    exact ⟨congrArg Ending.returned HQ.out.symm,HBf.out⟩
end Go.Proofs.YtlgkfeeclgcgbaaGreatDoor.Ru
/- RULES: holds; Same with a rule of nothing. Own work of the verifier. -/
set_option maxRecDepth 100000
set_option maxHeartbeats 2000000
namespace Go.Proofs.YtlgkfeeclgcgbaaGreatDoor.Ru
open Go.RowKit Me
def hldB (sh x:Nat) (w n d:Int) (al:Nat):Bool :=
 if sh=1 then Re.finF x else if sh=2 then winB w else if sh=3 then winB w && shrB n d else if sh=7 then decide (al=1) else decide (al=2)
theorem len_b (al m:Nat):((al:Int) == (m:Int))=decide (al=m):=by
 by_cases h:al=m
 ·rw [decide_eq_true h,beq_iff_eq,h]
 ·rw [decide_eq_false h,beq_eq_false_iff_ne];omega
theorem holds_any (k:Int) (x:Nat) (nm:List UInt8) (lv:Value) (wi n d:Int) (aa:Option Addr) (al ac:Nat) (hl:IsSl lv) (hx:x < 18446744073709551616) (w:World) (h:Kd w) :
  Calls Tryz.prog 109 #[rx k x nm lv wi n d (.slice aa al ac)] w fun e w'=>e=.returned (.bool (hldB (shp k) x wi n d al))∧Below w.heap.size w w':=by
 obtain ⟨la,ln,lc,rfl⟩:=hl
 obtain ⟨W0,hW0⟩:∃ W0,W0=w.alloc (.cells (rc k x nm (.slice la ln lc) wi n d (.slice aa al ac)) 61):=⟨_,rfl⟩
 have hb0:Below w.heap.size w W0:=by rw [hW0];exact bel1 w _
 have hn0:W0.heap[w.heap.size]? =some (.cells (rc k x nm (.slice la ln lc) wi n d (.slice aa al ac)) 61):=by rw [hW0];exact new_1 w _
 have HK:Hid (∀ W,Below w.heap.size w W→Calls Tryz.prog 78 #[rx k x nm (.slice la ln lc) wi n d (.slice aa al ac)] W fun e w'=>e=.returned (kx (kwI k))∧Below W.heap.size W w'):=fun W hb=>kind_any k x nm _ wi n d _ ⟨_,_,_,rfl⟩ ⟨_,_,_,rfl⟩ W (h.below hb)
 have h1:=Re.fin_ord (x % 9223372036854775808) (by omega)
 have HA:Hid (∀ W,Calls Tryz.prog 118 #[.float .f64 x] W fun e w'=>e=.returned (.float .f64 (x % 9223372036854775808))∧w'=W):=fun W=>Re.abs_any x hx W
 have HWb:Hid (∀ W,Calls Tryz.prog 131 #[.int .i64 wi] W fun e w'=>e=.returned (.bool (winB wi))∧w'=W):=fun W=>win_b wi W
 have HSb:Hid (∀ W,Calls Tryz.prog 128 #[.int .i64 n,.int .i64 d] W fun e w'=>e=.returned (.bool (shrB n d))∧w'=W):=fun W=>share_b n d W
 obtain ⟨y0,y1,y2,y3,y4,y5,y6,y7⟩:=eight hn0
 have HN0:=hid_of hn0
 have HW0:=hid_of hW0
 have Hb0:=hid_of hb0
 have hfl:=fldK
 have HL1:Hid (((al:Int) == 1)=decide (al=1)):=len_b al 1
 have HL2:Hid (((al:Int) == 2)=decide (al=2)):=len_b al 2
 have HQ:Hid (∀ sh,hldB sh x wi n d al=if sh=1 then decide (x % 9223372036854775808 < 9218868437227405312) else if sh=2 then winB wi else if sh=3 then winB wi && shrB n d else if sh=7 then decide (al=1) else decide (al=2)):=fun sh=>rfl
 unfold shp
 clear h hb0 hn0 hW0 hx
 generalize kwI k=q at *
 obtain ⟨sh,wd⟩:=q
 dsimp only at *
 have HQs:=hid_of (HQ.out sh)
 clear HQ
 generalize hldB sh x wi n d al=R at *
 generalize decide (x % 9223372036854775808 < 9218868437227405312)=fb at *
 generalize x % 9223372036854775808=y at *
 generalize winB wi=wb at *
 generalize shrB n d=sb at *
 generalize decide (al=1)=a1 at *
 generalize decide (al=2)=a2 at *
 go_enter Tryz.func109,Tryz.ntmps109
 go_upto_region 1 with fail
 rw [← HW0.out]
 clear HW0
 go_wp2_with fail
 refine Calls.mono (HK.out _ Hb0.out) ?_
 rintro e w1 ⟨rfl,hbw⟩
 have hn1:=(hbw.block w.heap.size (Array.getElem?_eq_some_iff.1 HN0.out).1).trans HN0.out
 have HB1:=hid_of (Hb0.out.trans (hbw.mono Hb0.out.size))
 clear hbw HK Hb0 HN0 y0 y1 y2 y3 y4 y5 y6 y7
 obtain ⟨y0,y1,y2,y3,y4,y5,y6,y7⟩:=eight hn1
 clear hn1
 by_cases q1:sh=1
 ·subst q1
  have HR:Hid (R=fb):=HQs.out
  clear HQs HWb HSb
  go_wp2_with fail
  refine Calls.mono (HA.out _) ?_
  rintro e w2 ⟨rfl,rfl⟩
  go_wp2_with fail
  go_ret
  exact ⟨retB HR.out.symm,HB1.out⟩
 ·have b1:((sh:Int) == 1)=false:=by rw [beq_eq_false_iff_ne];omega
  by_cases q2:sh=2
  ·subst q2
   have HR:Hid (R=wb):=HQs.out
   clear HQs HA HSb h1
   go_wp2_with fail
   refine Calls.mono (HWb.out _) ?_
   rintro e w2 ⟨rfl,rfl⟩
   go_wp2_with fail
   go_ret
   exact ⟨retB HR.out.symm,HB1.out⟩
  ·have b2:((sh:Int) == 2)=false:=by rw [beq_eq_false_iff_ne];omega
   by_cases q3:sh=3
   ·subst q3
    have HR:Hid (R=(wb && sb)):=HQs.out
    clear HQs HA h1
    cases wb
    ·go_wp2_with fail
     refine Calls.mono (HWb.out _) ?_
     rintro e w2 ⟨rfl,rfl⟩
     go_wp2_with fail
     go_ret
     exact ⟨retB HR.out.symm,HB1.out⟩
    ·go_wp2_with fail
     refine Calls.mono (HWb.out _) ?_
     rintro e w2 ⟨rfl,rfl⟩
     go_wp2_with fail
     refine Calls.mono (HSb.out _) ?_
     rintro e w2 ⟨rfl,rfl⟩
     go_wp2_with fail
     go_ret
     exact ⟨retB HR.out.symm,HB1.out⟩
   ·have b3:((sh:Int) == 3)=false:=by rw [beq_eq_false_iff_ne];omega
    by_cases q7:sh=7
    ·subst q7
     have HR:Hid (R=a1):=HQs.out
     clear HQs HA HWb HSb h1
     go_wp2_with fail
     go_ret
     exact ⟨retB (HL1.out.trans HR.out.symm),HB1.out⟩
    ·have b7:((sh:Int) == 7)=false:=by rw [beq_eq_false_iff_ne];omega
     have HR:Hid (R=a2):=by
      have:=HQs.out
      rw [if_neg q1,if_neg q2,if_neg q3,if_neg q7] at this
      exact this
     clear HQs HA HWb HSb h1
     go_wp2_with fail
     go_ret
     exact ⟨retB (HL2.out.trans HR.out.symm),HB1.out⟩
theorem eq_nil (a:Option Addr) (n c:Nat) (w:World):Calls Tryz.prog 132 #[.slice a n c,.slice none 0 0] w fun e w'=>e=.returned (.bool (decide (n=0)))∧w'=w:=by
 by_cases h:n=0
 ·subst h
  go_enter Tryz.func132,Tryz.ntmps132
  go_wp2_with fail
  go_rounds 1
  go_wp2_with fail
  go_ret
  exact ⟨rfl,rfl⟩
 ·have hn:((n:Int) == 0)=false:=by rw [beq_eq_false_iff_ne];omega
  rw [decide_eq_false h]
  go_enter Tryz.func132,Tryz.ntmps132
  go_wp2_with fail
  go_ret
  exact ⟨rfl,rfl⟩
theorem eqf_nil (a:Option Addr) (n c:Nat) (f:Value) (w:World):Calls Tryz.prog 133 #[.slice a n c,.slice none 0 0,f] w fun e w'=>e=.returned (.bool (decide (n=0)))∧w'=w:=by
 by_cases h:n=0
 ·subst h
  go_enter Tryz.func133,Tryz.ntmps133
  go_wp2_with fail
  go_rounds 1
  go_wp2_with fail
  go_ret
  exact ⟨rfl,rfl⟩
 ·have hn:((n:Int) == 0)=false:=by rw [beq_eq_false_iff_ne];omega
  rw [decide_eq_false h]
  go_enter Tryz.func133,Tryz.ntmps133
  go_wp2_with fail
  go_ret
  exact ⟨rfl,rfl⟩
end Go.Proofs.YtlgkfeeclgcgbaaGreatDoor.Ru
/- RULES: Same with a rule of nothing; checkNode. Own work of the verifier. -/
set_option maxRecDepth 100000
set_option maxHeartbeats 2000000
namespace Go.Proofs.YtlgkfeeclgcgbaaGreatDoor.Ru
open Go.RowKit Me
def s0B (x:Nat) (nm:List UInt8) (ln:Nat) (w n d:Int) (al:Nat):Bool:=Re.sF x 0 && (nm == []) && decide (ln=0) && (w == 0) && (n == 0) && (d == 0) && decide (al=0)
theorem heap_alloc2_old (w:World) (o1 o2:Obj):((w.alloc o1).alloc o2).heap[w.heap.size]? =some o1:=((bel1 (w.alloc o1) o2).block w.heap.size (by simp)).trans (new_1 w o1)
theorem same0_any (x:Nat) (nm:List UInt8) (la:Option Addr) (ln lc:Nat) (wi n d:Int) (aa:Option Addr) (al ac:Nat) (hx:x < 18446744073709551616) (w:World) :
  Calls Tryz.prog 107 #[rx 0 x nm (.slice la ln lc) wi n d (.slice aa al ac),rx 0 0 [] (.slice none 0 0) 0 0 0 (.slice none 0 0)] w fun e w'=>e=.returned (.bool (s0B x nm ln wi n d al))∧Below w.heap.size w w':=by
 obtain ⟨W0,hW0⟩:∃ W0,W0=(w.alloc (.cells (rc 0 x nm (.slice la ln lc) wi n d (.slice aa al ac)) 61)).alloc (.cells (rc 0 0 [] (.slice none 0 0) 0 0 0 (.slice none 0 0)) 61):=⟨_,rfl⟩
 have hb0:Below w.heap.size w W0:=by rw [hW0];exact La.bel2 w _ _
 have hn0:W0.heap[w.heap.size]? =some (.cells (rc 0 x nm (.slice la ln lc) wi n d (.slice aa al ac)) 61):=by rw [hW0];exact heap_alloc2_old w _ _
 have hz0:Z8 (w.heap.size+1) W0:=by
  rw [hW0]
  have:=new_1 (w.alloc (.cells (rc 0 x nm (.slice la ln lc) wi n d (.slice aa al ac)) 61)) (.cells (rc 0 0 [] (.slice none 0 0) 0 0 0 (.slice none 0 0)) 61)
  rw [show (w.alloc (.cells (rc 0 x nm (.slice la ln lc) wi n d (.slice aa al ac)) 61)).heap.size=w.heap.size+1 by simp] at this
  exact this
 have HS:Hid (∀ W,Calls Tryz.prog 111 #[.float .f64 x,.float .f64 0] W fun e w'=>e=.returned (.bool (Re.sF x 0))∧w'=W):=fun W=>Re.same_any x 0 hx (by decide) W
 have HE:Hid (∀ W,Calls Tryz.prog 132 #[.slice la ln lc,.slice none 0 0] W fun e w'=>e=.returned (.bool (decide (ln=0)))∧w'=W):=fun W=>eq_nil _ _ _ W
 have HF:Hid (∀ W,Calls Tryz.prog 133 #[.slice aa al ac,.slice none 0 0,.func (.func 107) #[] #[]] W fun e w'=>e=.returned (.bool (decide (al=0)))∧w'=W):=fun W=>eqf_nil _ _ _ _ W
 obtain ⟨y0,y1,y2,y3,y4,y5,y6,y7⟩:=eight hn0
 obtain ⟨z0,z1,z2,z3,z4,z5,z6,z7⟩:=eight hz0
 have HW0:=hid_of hW0
 have Hb0:=hid_of hb0
 have HQ:Hid (s0B x nm ln wi n d al=(Re.sF x 0 && (nm == []) && decide (ln=0) && (wi == 0) && (n == 0) && (d == 0) && decide (al=0))):=rfl
 clear hW0 hb0 hn0 hz0
 generalize hRR:s0B x nm ln wi n d al=R at *
 clear hRR
 generalize Re.sF x 0=b1 at *
 generalize decide (ln=0)=b3 at *
 generalize decide (al=0)=b7 at *
 cases b1 with
 | false =>
  have HR:Hid (R=false):=by
   show _=_
   have:=HQ.out
   simpa using this
  clear HQ hx z2 y2 z3 y3 z4 y4 z5 y5 z6 y6 z7 y7 HE HF
  go_enter Tryz.func107,Tryz.ntmps107
  go_upto_region 1 with fail
  rw [← HW0.out]
  clear HW0
  go_wp2_with (first | (go_at_call 111;refine (HS.out _).mono ?_;rintro e1 w1 ⟨rfl,rfl⟩))
  go_ret
  exact ⟨retB HR.out.symm,Hb0.out⟩
 | true =>
  cases nm with
  | cons ch nr =>
   have hne:((ch::nr) == [])=false:=rfl
   generalize ch::nr=nm at *
   have HR:Hid (R=false):=by
    show _=_
    have:=HQ.out
    simpa [hne] using this
   clear HQ hx z3 y3 z4 y4 z5 y5 z6 y6 z7 y7 HE HF
   go_enter Tryz.func107,Tryz.ntmps107
   go_upto_region 1 with fail
   rw [← HW0.out]
   clear HW0
   go_wp2_with (first | (go_at_call 111;refine (HS.out _).mono ?_;rintro e1 w1 ⟨rfl,rfl⟩))
   go_ret
   exact ⟨retB HR.out.symm,Hb0.out⟩
  | nil =>
   cases b3 with
   | false =>
    have HR:Hid (R=false):=by
     show _=_
     have:=HQ.out
     simpa using this
    clear HQ hx z4 y4 z5 y5 z6 y6 z7 y7 HF
    go_enter Tryz.func107,Tryz.ntmps107
    go_upto_region 1 with fail
    rw [← HW0.out]
    clear HW0
    go_wp2_with (first | (go_at_call 111;refine (HS.out _).mono ?_;rintro e1 w1 ⟨rfl,rfl⟩) | (go_at_call 132;refine (HE.out _).mono ?_;rintro e1 w1 ⟨rfl,rfl⟩))
    go_ret
    exact ⟨retB HR.out.symm,Hb0.out⟩
   | true =>
    by_cases q4:wi=0
    ·subst q4
     by_cases q5:n=0
     ·subst q5
      by_cases q6:d=0
      ·subst q6
       have HR:Hid (R=b7):=by
        show _=_
        have:=HQ.out
        simpa using this
       clear HQ hx
       go_enter Tryz.func107,Tryz.ntmps107
       go_upto_region 1 with fail
       rw [← HW0.out]
       clear HW0
       go_wp2_with (first | (go_at_call 111;refine (HS.out _).mono ?_;rintro e1 w1 ⟨rfl,rfl⟩) | (go_at_call 132;refine (HE.out _).mono ?_;rintro e1 w1 ⟨rfl,rfl⟩) | (go_at_call 133;refine (HF.out _).mono ?_;rintro e1 w1 ⟨rfl,rfl⟩))
       go_ret
       exact ⟨retB HR.out.symm,Hb0.out⟩
      ·have t6:(d == 0)=false:=beq_eq_false_iff_ne.2 q6
       have HR:Hid (R=false):=by
        show _=_
        have:=HQ.out
        simpa [t6] using this
       clear HQ hx z7 y7 HF
       go_enter Tryz.func107,Tryz.ntmps107
       go_upto_region 1 with fail
       rw [← HW0.out]
       clear HW0
       go_wp2_with (first | (go_at_call 111;refine (HS.out _).mono ?_;rintro e1 w1 ⟨rfl,rfl⟩) | (go_at_call 132;refine (HE.out _).mono ?_;rintro e1 w1 ⟨rfl,rfl⟩))
       go_ret
       exact ⟨retB HR.out.symm,Hb0.out⟩
     ·have t5:(n == 0)=false:=beq_eq_false_iff_ne.2 q5
      have HR:Hid (R=false):=by
       show _=_
       have:=HQ.out
       simpa [t5] using this
      clear HQ hx z6 y6 z7 y7 HF
      go_enter Tryz.func107,Tryz.ntmps107
      go_upto_region 1 with fail
      rw [← HW0.out]
      clear HW0
      go_wp2_with (first | (go_at_call 111;refine (HS.out _).mono ?_;rintro e1 w1 ⟨rfl,rfl⟩) | (go_at_call 132;refine (HE.out _).mono ?_;rintro e1 w1 ⟨rfl,rfl⟩))
      go_ret
      exact ⟨retB HR.out.symm,Hb0.out⟩
    ·have t4:(wi == 0)=false:=beq_eq_false_iff_ne.2 q4
     have HR:Hid (R=false):=by
      show _=_
      have:=HQ.out
      simpa [t4] using this
     clear HQ hx z5 y5 z6 y6 z7 y7 HF
     go_enter Tryz.func107,Tryz.ntmps107
     go_upto_region 1 with fail
     rw [← HW0.out]
     clear HW0
     go_wp2_with (first | (go_at_call 111;refine (HS.out _).mono ?_;rintro e1 w1 ⟨rfl,rfl⟩) | (go_at_call 132;refine (HE.out _).mono ?_;rintro e1 w1 ⟨rfl,rfl⟩))
     go_ret
     exact ⟨retB HR.out.symm,Hb0.out⟩
end Go.Proofs.YtlgkfeeclgcgbaaGreatDoor.Ru
/- RULES: checkNode. Own work of the verifier. -/
set_option maxRecDepth 100000
set_option maxHeartbeats 2000000
namespace Go.Proofs.YtlgkfeeclgcgbaaGreatDoor.Ru
open Go.RowKit Me
def smO (sh x:Nat) (nm:List UInt8) (ln:Nat) (w n d:Int) (al:Nat):Bool :=
 if sh=1 then s0B 0 nm ln w n d al else if sh=3 then s0B x [] 0 0 0 0 al else if sh=2 then s0B x [] 0 0 n d al else s0B x nm ln w n d 0
def ndE (sh:Nat) (x:Nat) (nm:List UInt8) (lb:List La.Lb) (w n d:Int) (al:Nat):Int :=
 if sh=0 then 7 else if smO sh x nm lb.length w n d al=false then 1 else if hldB sh x w n d al=false then 1 else if sh=2∨sh=3 then La.chkD ⟨1,nm,[],lb⟩ else 0
def okN:RT→Int
 | .mk k x nm lb w n d ar=>ndE (shp k) x nm lb w n d ar.length
def szN:RT→Prop
 | .mk _ x nm lb _ _ _ _=>x < 18446744073709551616∧La.DsS ⟨1,nm,[],lb⟩
theorem same_oth (sh:Nat) (k:Int) (x:Nat) (nm:List UInt8) (la:Option Addr) (ln lc:Nat) (wi n d:Int) (aa:Option Addr) (al ac:Nat) (hx:x < 18446744073709551616) (w:World) :
  Calls Tryz.prog 107 #[othS sh k x nm (.slice la ln lc) wi n d (.slice aa al ac),rx 0 0 [] (.slice none 0 0) 0 0 0 (.slice none 0 0)] w fun e w'=>e=.returned (.bool (smO sh x nm ln wi n d al))∧Below w.heap.size w w':=by
 unfold othS smO
 by_cases q1:sh=1
 ·rw [if_pos q1,if_pos q1];exact same0_any 0 nm la ln lc wi n d aa al ac (by decide) w
 ·rw [if_neg q1,if_neg q1]
  by_cases q3:sh=3
  ·rw [if_pos q3,if_pos q3];exact same0_any x [] none 0 0 0 0 0 aa al ac hx w
  ·rw [if_neg q3,if_neg q3]
   by_cases q2:sh=2
   ·rw [if_pos q2,if_pos q2];exact same0_any x [] none 0 0 0 n d aa al ac hx w
   ·rw [if_neg q2,if_neg q2];exact same0_any x nm la ln lc wi n d none 0 0 hx w
theorem oth_form (sh:Nat) (k:Int) (x:Nat) (nm:List UInt8) (la:Option Addr) (ln lc:Nat) (wi n d:Int) (aa:Option Addr) (al ac:Nat):∃ x' nm' a' b' c' w' n' d' e' f' g',othS sh k x nm (.slice la ln lc) wi n d (.slice aa al ac)=rx 0 x' nm' (.slice a' b' c') w' n' d' (.slice e' f' g'):=by
 unfold othS
 split
 ·exact ⟨_,_,_,_,_,_,_,_,_,_,_,rfl⟩
 ·split
  ·exact ⟨_,_,_,_,_,_,_,_,_,_,_,rfl⟩
  ·split <;> exact ⟨_,_,_,_,_,_,_,_,_,_,_,rfl⟩
theorem node_any (B:Nat) (t:RT) (v:Value) (w:World) (hv:RV B w t v) (hz:szN t) (h:Kd w) :
  Calls Tryz.prog 77 #[v] w fun e w'=>e=.returned (.int .i64 (okN t))∧Below w.heap.size w w':=by
 obtain ⟨k,x,nm,lb,wi,n,d,ar⟩:=t
 unfold RV at hv
 obtain ⟨lv,aa,ab,ao,ac,rfl,hl,-⟩:=hv
 obtain ⟨la,b,o,lc,rfl,h1,h2,h3,-,h4⟩:=hl
 obtain ⟨hx,hds⟩:=hz
 rw [show okN (.mk k x nm lb wi n d ar)=ndE (shp k) x nm lb wi n d ar.length from rfl]
 obtain ⟨W0,hW0⟩:∃ W0,W0=w.alloc (.cells (rc k x nm (.slice la lb.length lc) wi n d (.slice aa ar.length ac)) 61):=⟨_,rfl⟩
 have hb0:Below w.heap.size w W0:=by rw [hW0];exact bel1 w _
 have hn0:W0.heap[w.heap.size]? =some (.cells (rc k x nm (.slice la lb.length lc) wi n d (.slice aa ar.length ac)) 61):=by rw [hW0];exact new_1 w _
 have HK:Hid (∀ W,Below w.heap.size w W→Calls Tryz.prog 78 #[rx k x nm (.slice la lb.length lc) wi n d (.slice aa ar.length ac)] W fun e w'=>e=.returned (kx (kwI k))∧Below W.heap.size W w'):=fun W hb=>kind_any k x nm _ wi n d _ ⟨_,_,_,rfl⟩ ⟨_,_,_,rfl⟩ W (h.below hb)
 have HO:Hid (∀ W,Below w.heap.size w W→Calls Tryz.prog 108 #[rx k x nm (.slice la lb.length lc) wi n d (.slice aa ar.length ac)] W fun e w'=>e=.returned (othS (shp k) k x nm (.slice la lb.length lc) wi n d (.slice aa ar.length ac))∧Below W.heap.size W w'):=fun W hb=>others_any k x nm _ wi n d _ ⟨_,_,_,rfl⟩ ⟨_,_,_,rfl⟩ W (h.below hb)
 have HS:Hid (∀ W,Calls Tryz.prog 107 #[othS (shp k) k x nm (.slice la lb.length lc) wi n d (.slice aa ar.length ac),rx 0 0 [] (.slice none 0 0) 0 0 0 (.slice none 0 0)] W fun e w'=>e=.returned (.bool (smO (shp k) x nm lb.length wi n d ar.length))∧Below W.heap.size W w'):=fun W=>same_oth _ _ _ _ _ _ _ _ _ _ _ _ _ hx W
 have HH:Hid (∀ W,Below w.heap.size w W→Calls Tryz.prog 109 #[rx k x nm (.slice la lb.length lc) wi n d (.slice aa ar.length ac)] W fun e w'=>e=.returned (.bool (hldB (shp k) x wi n d ar.length))∧Below W.heap.size W w'):=fun W hb=>holds_any k x nm _ wi n d aa _ ac ⟨_,_,_,rfl⟩ hx W (h.below hb)
 have HC:Hid (∀ W,Below w.heap.size w W→Calls Tryz.prog 49 #[.agg #[.int .i64 1,.string ⟨nm.toArray⟩,.string ⟨#[]⟩,.slice la lb.length lc]] W fun e w'=>e=.returned (.int .i64 (La.chkD ⟨1,nm,[],lb⟩))∧Below W.heap.size W w'):=fun W hb=>La.ccheck_any ⟨1,nm,[],lb⟩ _ W ⟨la,b,o,lc,rfl,fun e=>(h1 e).1,h2,h3,h4.below hb⟩ hds
 obtain ⟨x',nm',a',b',c',w',n',d',e',f',g',hof⟩:=oth_form (shp k) k x nm la lb.length lc wi n d aa ar.length ac
 rw [hof] at HO HS
 have HW0:=hid_of hW0
 have Hb0:=hid_of hb0
 have HN0:=hid_of hn0
 have hfl:=fldK
 have HQ:Hid (ndE (shp k) x nm lb wi n d ar.length=if shp k=0 then 7 else if smO (shp k) x nm lb.length wi n d ar.length=false then 1 else if hldB (shp k) x wi n d ar.length=false then 1 else if shp k=2∨shp k=3 then La.chkD ⟨1,nm,[],lb⟩ else 0):=rfl
 obtain ⟨y0,y1,y2,y3,y4,y5,y6,y7⟩:=eight hn0
 have hkw:kwI k=(shp k,(kwI k).2):=rfl
 rw [hkw] at HK
 clear h hb0 hn0 hW0 hx hds h1 h2 h3 h4 hof hkw
 generalize (kwI k).2=wd at *
 generalize ndE (shp k) x nm lb wi n d ar.length=R at *
 generalize shp k=sh at *
 generalize smO sh x nm lb.length wi n d ar.length=sb at *
 generalize hldB sh x wi n d ar.length=hb at *
 generalize La.chkD ⟨1,nm,[],lb⟩=cd at *
 go_enter Tryz.func77,Tryz.ntmps77
 go_upto_region 1 with fail
 rw [← HW0.out]
 clear HW0
 go_wp2_with fail
 refine Calls.mono (HK.out _ Hb0.out) ?_
 rintro e w1 ⟨rfl,hbw⟩
 have hn1:=(hbw.block w.heap.size (Array.getElem?_eq_some_iff.1 HN0.out).1).trans HN0.out
 have HB1:=hid_of (Hb0.out.trans (hbw.mono Hb0.out.size))
 have HN1:=hid_of hn1
 clear hbw HK Hb0 HN0 y0 y1 y2 y3 y4 y5 y6 y7
 obtain ⟨y0,y1,y2,y3,y4,y5,y6,y7⟩:=eight hn1
 clear hn1
 by_cases q0:sh=0
 ·subst q0
  have HR:Hid (R=7):=HQ.out
  clear HQ HO HS HH HC
  go_wp2_with fail
  go_ret
  exact ⟨retI HR.out.symm,HB1.out⟩
 ·have b0:((sh:Int) == 0)=false:=by rw [beq_eq_false_iff_ne];omega
  have HQ1:Hid (R=if sb=false then 1 else if hb=false then 1 else if sh=2∨sh=3 then cd else 0):=by
   have:=HQ.out
   rw [if_neg q0] at this
   exact this
  clear HQ
  go_wp2_with fail
  refine Calls.mono (HO.out _ HB1.out) ?_
  rintro e w2 ⟨rfl,hbw⟩
  have hn2:=(hbw.block w.heap.size (Array.getElem?_eq_some_iff.1 HN1.out).1).trans HN1.out
  have HB2:=hid_of (HB1.out.trans (hbw.mono HB1.out.size))
  have HN2:=hid_of hn2
  clear hbw HO HB1 HN1 y0 y1 y2 y3 y4 y5 y6 y7 hn2
  go_wp2_with fail
  refine Calls.mono (HS.out _) ?_
  rintro e w3 ⟨rfl,hbw⟩
  have hn3:=(hbw.block w.heap.size (Array.getElem?_eq_some_iff.1 HN2.out).1).trans HN2.out
  have HB3:=hid_of (HB2.out.trans (hbw.mono HB2.out.size))
  have HN3:=hid_of hn3
  clear hbw HS HB2 HN2
  obtain ⟨y0,y1,y2,y3,y4,y5,y6,y7⟩:=eight hn3
  clear hn3
  cases sb
  ·have HR:Hid (R=1):=HQ1.out
   clear HQ1 HH HC
   go_wp2_with fail
   go_ret
   exact ⟨retI HR.out.symm,HB3.out⟩
  ·go_wp2_with fail
   refine Calls.mono (HH.out _ HB3.out) ?_
   rintro e w4 ⟨rfl,hbw⟩
   have hn4:=(hbw.block w.heap.size (Array.getElem?_eq_some_iff.1 HN3.out).1).trans HN3.out
   have HB4:=hid_of (HB3.out.trans (hbw.mono HB3.out.size))
   clear hbw HH HB3 HN3 y0 y1 y2 y3 y4 y5 y6 y7
   obtain ⟨y0,y1,y2,y3,y4,y5,y6,y7⟩:=eight hn4
   clear hn4
   cases hb
   ·have HR:Hid (R=1):=HQ1.out
    clear HQ1 HC
    go_wp2_with fail
    go_ret
    exact ⟨retI HR.out.symm,HB4.out⟩
   ·have HQ2:Hid (R=if sh=2∨sh=3 then cd else 0):=HQ1.out
    clear HQ1
    by_cases q2:sh=2
    ·subst q2
     have HR:Hid (R=cd):=HQ2.out
     clear HQ2
     go_wp2_with fail
     refine Calls.mono (HC.out _ HB4.out) ?_
     rintro e w5 ⟨rfl,hbw⟩
     have HB5:=hid_of (HB4.out.trans (hbw.mono HB4.out.size))
     clear hbw HC HB4
     go_wp2_with fail
     go_ret
     exact ⟨retI HR.out.symm,HB5.out⟩
    ·have b2:((sh:Int) == 2)=false:=by rw [beq_eq_false_iff_ne];omega
     by_cases q3:sh=3
     ·subst q3
      have HR:Hid (R=cd):=HQ2.out
      clear HQ2
      go_wp2_with fail
      refine Calls.mono (HC.out _ HB4.out) ?_
      rintro e w5 ⟨rfl,hbw⟩
      have HB5:=hid_of (HB4.out.trans (hbw.mono HB4.out.size))
      clear hbw HC HB4
      go_wp2_with fail
      go_ret
      exact ⟨retI HR.out.symm,HB5.out⟩
     ·have b3:((sh:Int) == 3)=false:=by rw [beq_eq_false_iff_ne];omega
      have HR:Hid (R=0):=by
       have:=HQ2.out
       rw [if_neg (by omega)] at this
       exact this
      clear HQ2 HC
      go_wp2_with fail
      go_ret
      exact ⟨retI HR.out.symm,HB4.out⟩
end Go.Proofs.YtlgkfeeclgcgbaaGreatDoor.Ru
