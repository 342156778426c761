/- RULES: THE READER: word. Own work of the verifier. (Printed by a program of the verifier's.) -/
import Derived.Test.YtbgdlbndammgnaaGreatDoorZAW
set_option maxRecDepth 100000
set_option maxHeartbeats 8000000
namespace Go.Proofs.YtbgdlbndammgnaaGreatDoor.Ru
open Go.RowKit Me
theorem Rd.set {T:List UInt8} {rb:Nat} {u w:World} {s:St} {W:World} (h:Rd T rb u w s W) {g:Nat} (hr:g≠rb) (hu:u.heap.size≤g) (hw:w.heap.size≤g) (i:Nat) (v:Value):Rd T rb u w s (W.setCell ⟨g,i,none⟩ v):=by
  refine ⟨h.st.setCell (p:=⟨g,i,none⟩) hu _,h.lo,h.ex.put hw i v,h.hb,?_⟩
  rw [Below.heap_setCell _ _ _ _ (fun e=>hr e.symm)]
  exact h.at_
structure B1 (g0 gx:Nat) (a0 a1 a2 a3 a4 a5 a6 a7:Value) (W:World):Prop where
  z:Z8 g0 W
  bx:W.heap[gx]? =some (.cells #[a0,a1,a2,a3,a4,a5,a6,a7] 55)
theorem B1.ex {g0 gx rb:Nat} {a0 a1 a2 a3 a4 a5 a6 a7:Value} {W W1:World} (h:B1 g0 gx a0 a1 a2 a3 a4 a5 a6 a7 W) (hx:La.Ex rb W W1) (hg:rb < g0) (hg1:g0 < gx):B1 g0 gx a0 a1 a2 a3 a4 a5 a6 a7 W1 :=
  ⟨h.z.ex hx (by omega),(hx.block gx (Array.getElem?_eq_some_iff.1 h.bx).1 (by omega)).trans h.bx⟩
theorem B1.below {g0 gx:Nat} {a0 a1 a2 a3 a4 a5 a6 a7:Value} {W W1:World} (h:B1 g0 gx a0 a1 a2 a3 a4 a5 a6 a7 W) (hb:Below W.heap.size W W1):B1 g0 gx a0 a1 a2 a3 a4 a5 a6 a7 W1 :=
  ⟨h.z.below hb,(hb.block gx (Array.getElem?_eq_some_iff.1 h.bx).1).trans h.bx⟩
theorem B1.set2 {g0 gx:Nat} {a0 a1 a2 a3 a4 a5 a6 a7:Value} {W:World} (h:B1 g0 gx a0 a1 a2 a3 a4 a5 a6 a7 W) (hg:g0≠gx) (v:Value):B1 g0 gx a0 a1 v a3 a4 a5 a6 a7 (W.setCell ⟨gx,2,none⟩ v):=by
  refine ⟨(Below.heap_setCell _ _ _ _ hg).trans h.z,?_⟩
  have:=Lib.heap_setCell_same (i:=2) h.bx v
  simpa using this
theorem B1.set3 {g0 gx:Nat} {a0 a1 a2 a3 a4 a5 a6 a7:Value} {W:World} (h:B1 g0 gx a0 a1 a2 a3 a4 a5 a6 a7 W) (hg:g0≠gx) (v:Value):B1 g0 gx a0 a1 a2 v a4 a5 a6 a7 (W.setCell ⟨gx,3,none⟩ v):=by
  refine ⟨(Below.heap_setCell _ _ _ _ hg).trans h.z,?_⟩
  have:=Lib.heap_setCell_same (i:=3) h.bx v
  simpa using this
theorem B1.set4 {g0 gx:Nat} {a0 a1 a2 a3 a4 a5 a6 a7:Value} {W:World} (h:B1 g0 gx a0 a1 a2 a3 a4 a5 a6 a7 W) (hg:g0≠gx) (v:Value):B1 g0 gx a0 a1 a2 a3 v a5 a6 a7 (W.setCell ⟨gx,4,none⟩ v):=by
  refine ⟨(Below.heap_setCell _ _ _ _ hg).trans h.z,?_⟩
  have:=Lib.heap_setCell_same (i:=4) h.bx v
  simpa using this
theorem B1.set5 {g0 gx:Nat} {a0 a1 a2 a3 a4 a5 a6 a7:Value} {W:World} (h:B1 g0 gx a0 a1 a2 a3 a4 a5 a6 a7 W) (hg:g0≠gx) (v:Value):B1 g0 gx a0 a1 a2 a3 a4 v a6 a7 (W.setCell ⟨gx,5,none⟩ v):=by
  refine ⟨(Below.heap_setCell _ _ _ _ hg).trans h.z,?_⟩
  have:=Lib.heap_setCell_same (i:=5) h.bx v
  simpa using this
theorem B1.set6 {g0 gx:Nat} {a0 a1 a2 a3 a4 a5 a6 a7:Value} {W:World} (h:B1 g0 gx a0 a1 a2 a3 a4 a5 a6 a7 W) (hg:g0≠gx) (v:Value):B1 g0 gx a0 a1 a2 a3 a4 a5 v a7 (W.setCell ⟨gx,6,none⟩ v):=by
  refine ⟨(Below.heap_setCell _ _ _ _ hg).trans h.z,?_⟩
  have:=Lib.heap_setCell_same (i:=6) h.bx v
  simpa using this
theorem B1.set7 {g0 gx:Nat} {a0 a1 a2 a3 a4 a5 a6 a7:Value} {W:World} (h:B1 g0 gx a0 a1 a2 a3 a4 a5 a6 a7 W) (hg:g0≠gx) (v:Value):B1 g0 gx a0 a1 a2 a3 a4 a5 a6 v (W.setCell ⟨gx,7,none⟩ v):=by
  refine ⟨(Below.heap_setCell _ _ _ _ hg).trans h.z,?_⟩
  have:=Lib.heap_setCell_same (i:=7) h.bx v
  simpa using this
theorem LbV.set {g:Nat} {W:World} {lv:Value} {L:List La.Lb} (h:LbV (g+1) W lv L) (i:Nat) (v:Value):LbV (g+1) (W.setCell ⟨g,i,none⟩ v) lv L:=h.ex ((La.Ex.refl g W).set i v) (by omega)
theorem put_res {T:List UInt8} {rb:Nat} {u w0:World} {s:St} {W:World} {g0:Nat} {t:RT} {k:Int} {x:Nat} {nm:List UInt8} {lv:Value} {wi n d:Int} {av:Value} (hz:Z8 g0 W) (hR:Rd T rb u w0 s W) (h1:w0.heap.size≤g0) (h2:g0≠rb) (h3:u.heap.size≤g0) (hv:RV (g0+1) W t (rx k x nm lv wi n d av)) :
    (put8 W g0 (.int .i64 k) (.float .f64 x) (.string ⟨nm.toArray⟩) lv (.int .i64 wi) (.int .i64 n) (.int .i64 d) av).heap[g0]? =some (.cells (rc k x nm lv wi n d av) 55)∧RV g0 (put8 W g0 (.int .i64 k) (.float .f64 x) (.string ⟨nm.toArray⟩) lv (.int .i64 wi) (.int .i64 n) (.int .i64 d) av) t (rx k x nm lv wi n d av)∧Rd T rb u w0 s (put8 W g0 (.int .i64 k) (.float .f64 x) (.string ⟨nm.toArray⟩) lv (.int .i64 wi) (.int .i64 n) (.int .i64 d) av) :=
  ⟨put8_heap hz _ _ _ _ _ _ _ _,(hv.ex (put8_one W g0 _ _ _ _ _ _ _ _) (by omega)).mono (by omega),hR.put8 h1 h2 h3 _ _ _ _ _ _ _ _⟩
theorem fnd_lt {sh:List Nat} {r:List UInt8} {i:Nat} (h:fndK sh r=some i):i < 22:=by
  unfold fndK at h
  have:=List.mem_of_find?_eq_some h
  simpa using this
theorem namF_lt (p:UInt8→Bool) (sh:List Nat) (T:List UInt8) (s:St):(namF p sh T s).1 < 22:=by
  unfold namF
  split
  · rename_i i hi;exact fnd_lt hi
  · show 0 < 22;decide
theorem tellR_mk {T:List UInt8} {rb:Nat} {u w0 W:World} {B:Nat} {q:RT × St} {A:RT} {S:St} {t:RT} {v:Value} (hq:q=(A,S)) (hv:RV B W t v) (ht:S.e=0→t=A) (hr:Rd T rb u w0 S W):TellR T rb u w0 B q (.returned v) W:=by
  subst hq
  exact ⟨t,v,rfl,hv,ht,hr⟩
theorem at8 {W:World} {g:Nat} {t:TypeId} {a0 a1 a2 a3 a4 a5 a6 a7:Value} (h:W.heap[g]? =some (.cells #[a0,a1,a2,a3,a4,a5,a6,a7] t)) (j:Nat) (hj:j < (#[a0,a1,a2,a3,a4,a5,a6,a7]:Array Value).size):W.cell? ⟨g,0+j,none⟩=some ((#[a0,a1,a2,a3,a4,a5,a6,a7]:Array Value)[j]'hj):=by
  have:j=0∨j=1∨j=2∨j=3∨j=4∨j=5∨j=6∨j=7:=by simp at hj;omega
  rcases this with rfl | rfl | rfl | rfl | rfl | rfl | rfl | rfl <;> (simp only [World.cell?,h];rfl)
theorem word_any {T:List UInt8} {rb:Nat} {u w0:World} {f:Nat} (_hf:f≤511) {rec:St→RT × St} {s:St} (H1:(kwA (namF isLt [2,3,7] T s).1).1=7→RecAt T rb u f rec (mst T [40] (namF isLt [2,3,7] T s).2)) {w:World} (h:Rd T rb u w0 s w) (ho:Ok T s) (_he0:s.e=0) (hn:s.n≤512∧512≤s.n+f) (HMok:∀ s',Ok T s'→Cf f s'→Ok T (rec s').2) (he:Env u) :
    Calls Tryz.prog 71 #[.pointer (some ⟨rb,0,none⟩)] w fun e w'=>TellR T rb u w0 w.heap.size (wrdF rec T s) e w':=by
  have hb1:=bel1 w (.cells (rc 0 0 [] (.slice none 0 0) 0 0 0 (.slice none 0 0)) 55)
  have hn1:Z8 w.heap.size (w.alloc (.cells (rc 0 0 [] (.slice none 0 0) 0 0 0 (.slice none 0 0)) 55)):=new_1 w _
  have hA:=h.below hb1
  have hrb:=h.lt
  have hu:=h.st.size
  have hw0:=h.ex.size
  obtain ⟨kk,hkk⟩:∃ kk,kk=(namF isLt [2,3,7] T s).1:=⟨_,rfl⟩
  obtain ⟨s1,hs1⟩:∃ s1,s1=mst T [40] (namF isLt [2,3,7] T s).2:=⟨_,rfl⟩
  have hk22:kk < 22:=by rw [hkk];exact namF_lt _ _ _ _
  have hkw:kwI (kk:Int)=kwA kk:=by unfold kwI;rw [if_pos (by omega)];rfl
  have ho1:Ok T s1:=by rw [hs1];exact (ho.namF _ _).mst _
  have hc1:Cf f s1:=⟨fun _=>by rw [hs1,mst_n,namF_n];exact hn,fun _=>by rw [hs1,mst_n,namF_n];omega⟩
  have hb2:=bel1 (w.alloc (.cells (rc 0 0 [] (.slice none 0 0) 0 0 0 (.slice none 0 0)) 55)) (.cells #[.int .i64 2,.int .i64 3,.int .i64 7] 3)
  have hS0:=shp_new (w.alloc (.cells (rc 0 0 [] (.slice none 0 0) 0 0 0 (.slice none 0 0)) 55)) 2 3 7 3
  rw [show (w.alloc (.cells (rc 0 0 [] (.slice none 0 0) 0 0 0 (.slice none 0 0)) 55)).heap.size=w.heap.size+1 by simp] at hS0
  have HA:=hid_of (hA.below hb2)
  have HN:=hid_of (hn1.below hb2)
  have HS:=hid_of hS0
  have HNm:Hid (∀ W sb,Rd T rb u w0 s W→Shp sb [2,3,7] W→Calls Tryz.prog 92 #[.pointer (some ⟨rb,0,none⟩),.func (.func 90) #[] #[],.slice (some ⟨sb,0,none⟩) 3 3] W fun e w'=>e=.returned (.int .i64 (kk:Int))∧Rd T rb u W (namF isLt [2,3,7] T s).2 w'):=fun W sb hr hs=>by rw [hkk];exact named_any hr.re ho (he.kd.below hr.st) _ isLt tells_lt sb [2,3,7] hs rfl
  have HM1:Hid (∀ W,Rd T rb u w0 (namF isLt [2,3,7] T s).2 W→Calls Tryz.prog 91 #[.pointer (some ⟨rb,0,none⟩),.string ⟨#[40]⟩] W fun e w'=>e=.returned (.tuple #[])∧Rd T rb u W s1 w'):=fun W hr=>by rw [hs1];exact must_any hr.re (ho.namF _ _) [40] (by decide)
  have HKd:Hid (∀ W,Rd T rb u w0 s1 W→Calls Tryz.prog 74 #[rx (kk:Int) 0 [] (.slice none 0 0) 0 0 0 (.slice none 0 0)] W fun e w'=>e=.returned (kx (kwA kk))∧Below W.heap.size W w'):=fun W hr=>by rw [← hkw];exact kind_any (kk:Int) 0 [] _ 0 0 0 _ ⟨_,_,_,rfl⟩ ⟨_,_,_,rfl⟩ W (he.kd.below hr.st)
  rw [← hkk,← hs1] at H1
  have HR1:Hid ((kwA kk).1=7→∀ W,Rd T rb u w0 s1 W→Calls Tryz.prog 53 #[.pointer (some ⟨rb,0,none⟩)] W fun e w'=>TellR T rb u W W.heap.size (rec s1) e w'):=fun e W hr=>H1 e W W hr.re ho1 hc1
  have HMe:Hid (∀ s' W,Rd T rb u w0 s' W→Ok T s'→Calls Tryz.prog 91 #[.pointer (some ⟨rb,0,none⟩),.string ⟨#[41]⟩] W fun e w'=>e=.returned (.tuple #[])∧Rd T rb u W (mst T [41] s') w'):=fun s' W hr ho=>must_any hr.re ho [41] (by decide)
  have HSh:Hid (∀ W,Rd T rb u w0 s1 W→Calls Tryz.prog 98 #[.pointer (some ⟨rb,0,none⟩)] W fun e w'=>ShQ T rb u W s1 e w'):=fun W hr=>share_any hr.re ho1 he
  have HSe:Hid (∀ s' W,Rd T rb u w0 s' W→Ok T s'→Calls Tryz.prog 99 #[.pointer (some ⟨rb,0,none⟩)] W fun e w'=>SeQ T rb u W W.heap.size s' e w'):=fun s' W hr ho=>series_any hr.re ho
  have HWi:Hid (∀ s' W,Rd T rb u w0 s' W→Ok T s'→Calls Tryz.prog 100 #[.pointer (some ⟨rb,0,none⟩)] W fun e w'=>WiQ T rb u W s' e w'):=fun s' W hr ho=>window_any hr.re ho he
  have HO1:=hid_of ho1
  have HO1r:Hid (Ok T (rec s1).2):=HMok s1 ho1 hc1
  have HT7:Hid ((kwA kk).1=7→wrdF rec T s=(.mk (kk:Int) 0 [] [] 0 0 0 [(rec s1).1],mst T [41] (rec s1).2)):=fun e=>by
    unfold wrdF
    dsimp only
    rw [← hkk,← hs1,if_pos e]
  have HT3:Hid ((kwA kk).1=3→wrdF rec T s=(.mk (kk:Int) 0 (serF T (shrF T s1).2.2).1 (serF T (shrF T s1).2.2).2.1 (winF T (serF T (shrF T s1).2.2).2.2).1 (shrF T s1).1 (shrF T s1).2.1 [],mst T [41] (winF T (serF T (shrF T s1).2.2).2.2).2)):=fun e=>by
    unfold wrdF
    dsimp only
    rw [← hkk,← hs1,if_neg (by omega),if_pos e]
  have HT2:Hid ((kwA kk).1≠7→(kwA kk).1≠3→wrdF rec T s=(.mk (kk:Int) 0 (serF T s1).1 (serF T s1).2.1 (winF T (serF T s1).2.2).1 0 0 [],mst T [41] (winF T (serF T s1).2.2).2)):=fun e1 e2=>by
    unfold wrdF
    dsimp only
    rw [← hkk,← hs1,if_neg e1,if_neg e2]
    rfl
  clear h ho _he0 hn he H1 HMok hc1 ho1 hkw hkk hs1 hb1 hn1 hb2 hA hS0
  generalize (namF isLt [2,3,7] T s).2=s0 at *
  have sF:=store_f
  have hfl:=fldK
  go_enter Tryz.func71,Tryz.ntmps71
  go_wp2_with fail
  refine Calls.mono (HNm.out _ _ HA.out HS.out) ?_
  rintro e w2 ⟨rfl,hr⟩
  have hz2:=HN.out.ex hr.ex (by omega)
  have hlt2:=hz2.lt
  have hb:=bel1 w2 (.cells (rc (kk:Int) 0 [] (.slice none 0 0) 0 0 0 (.slice none 0 0)) 55)
  have HB:=hid_of (B1.mk (g0:=w.heap.size) (gx:=w2.heap.size) (hz2.below hb) (new_1 w2 (.cells (rc (kk:Int) 0 [] (.slice none 0 0) 0 0 0 (.slice none 0 0)) 55)))
  have HR:=hid_of ((HA.out.then hr).below hb)
  clear hr HA HN HS hz2 hb HNm
  go_upto_region 2 with fail
  generalize w2.alloc (.cells (rc (kk:Int) 0 [] (.slice none 0 0) 0 0 0 (.slice none 0 0)) 55)=W2 at *
  generalize w2.heap.size=gx at *
  go_wp2_with fail
  refine Calls.mono (HM1.out _ HR.out) ?_
  rintro e w3 ⟨rfl,hr⟩
  have hB3:=HB.out.ex hr.ex hrb hlt2
  have HR3:=hid_of (HR.out.then hr)
  obtain ⟨y0,y1,y2,y3,y4,y5,y6,y7⟩:=eight hB3.bx
  have HB3:=hid_of hB3
  clear hr HR HB HM1 hB3
  go_wp2_with fail
  refine Calls.mono (HKd.out _ HR3.out) ?_
  rintro e w4 ⟨rfl,hb4⟩
  have HR4:=hid_of (HR3.out.below hb4)
  have HB4:=hid_of (HB3.out.below hb4)
  clear hb4 HR3 HB3 HKd y0 y1 y2 y3 y4 y5 y6 y7
  generalize kwA kk=qk at *
  obtain ⟨sh,wd⟩:=qk
  dsimp only at *
  by_cases q7:sh=7
  · have b7:((sh:Int) == 7)=true:=by rw [beq_iff_eq,q7];rfl
    have hT:=HT7.out q7
    have HRq:=hid_of (HR1.out q7)
    clear HR1
    have HF:Hid (∀ (t:RT) (v:Value) W,RV w.heap.size W t v→((mst T [41] (rec s1).2).e=0→t=.mk (kk:Int) 0 [] [] 0 0 0 [(rec s1).1])→Rd T rb u w0 (mst T [41] (rec s1).2) W→TellR T rb u w0 w.heap.size (wrdF rec T s) (.returned v) W):=fun t v W hv ht hr=>tellR_mk hT hv ht hr
    clear hT HT7 HT3 HT2 HSh HSe HWi q7 HO1
    go_wp2_with fail
    refine Calls.mono (HRq.out _ HR4.out) ?_
    rintro e w5 ⟨t1,v1,rfl,hv1,ht1,hr⟩
    have hB5:=HB4.out.ex hr.ex hrb hlt2
    have hg4:gx < w4.heap.size:=(Array.getElem?_eq_some_iff.1 HB4.out.bx).1
    have hg5:gx < w5.heap.size:=(Array.getElem?_eq_some_iff.1 hB5.bx).1
    have hv1':=hv1.mono (B':=gx+1) (by omega)
    obtain ⟨k1,x1,nm1,la1,ln1,lc1,wi1,n1,d1,aa1,an1,ac1,rfl⟩:=hv1.form
    have hR5:=HR4.out.then hr
    have hb0:=bel1 w5 (.cells (rc k1 x1 nm1 (.slice la1 ln1 lc1) wi1 n1 d1 (.slice aa1 an1 ac1)) 55)
    have hB0:=hB5.below hb0
    obtain ⟨y0,y1,y2,y3,y4,y5,y6,y7⟩:=eight hB0.bx
    have yf:=eight_f hB0.bx
    have hbA:=bel1 (w5.setCell ⟨gx,7,none⟩ (.slice (some ⟨w5.heap.size,0,none⟩) 1 1)) (.cells (rc k1 x1 nm1 (.slice la1 ln1 lc1) wi1 n1 d1 (.slice aa1 an1 ac1)) 55)
    have hnA:=new_1 (w5.setCell ⟨gx,7,none⟩ (.slice (some ⟨w5.heap.size,0,none⟩) 1 1)) (.cells (rc k1 x1 nm1 (.slice la1 ln1 lc1) wi1 n1 d1 (.slice aa1 an1 ac1)) 55)
    rw [show (w5.setCell ⟨gx,7,none⟩ (.slice (some ⟨w5.heap.size,0,none⟩) 1 1)).heap.size=w5.heap.size by simp [World.setCell]] at hnA
    have HB7:=hid_of ((hB5.set7 (by omega) (.slice (some ⟨w5.heap.size,0,none⟩) 1 1)).below hbA)
    have HR7:=hid_of ((hR5.set (g:=gx) (by omega) (by omega) (by omega) 7 (.slice (some ⟨w5.heap.size,0,none⟩) 1 1)).below hbA)
    have HV7:=hid_of ((hv1'.ex ((La.Ex.refl gx _).set 7 (.slice (some ⟨w5.heap.size,0,none⟩) 1 1)) (by omega)).below hbA)
    have HN7:=hid_of hnA
    have HT1:=hid_of ht1
    clear hv1 hv1' hB5 hB0 hb0 hR5 hbA hnA hr HR4 HB4 HRq ht1
    go_upto_region 10 with fail
    generalize (w5.setCell ⟨gx,7,none⟩ (.slice (some ⟨w5.heap.size,0,none⟩) 1 1)).alloc (.cells (rc k1 x1 nm1 (.slice la1 ln1 lc1) wi1 n1 d1 (.slice aa1 an1 ac1)) 55)=W7 at *
    generalize w5.heap.size=ga at *
    clear y0 y1 y2 y3 y4 y5 y6 y7 yf
    go_wp2_with fail
    refine Calls.mono (HMe.out _ _ HR7.out HO1r.out) ?_
    rintro e w8 ⟨rfl,hr⟩
    have hB8:=HB7.out.ex hr.ex hrb hlt2
    have hR8:=HR7.out.then hr
    have hv8:=HV7.out.ex hr.ex (by omega)
    have hn8:=(hr.ex.block ga (Array.getElem?_eq_some_iff.1 HN7.out).1 (by omega)).trans HN7.out
    obtain ⟨y0,y1,y2,y3,y4,y5,y6,y7⟩:=eight hB8.bx
    obtain ⟨z0,z1,z2,z3,z4,z5,z6,z7⟩:=eight hB8.z
    have zf:=eight_f hB8.z
    have hRV:RV (w.heap.size+1) w8 (.mk (kk:Int) 0 [] [] 0 0 0 [t1]) (rx (kk:Int) 0 [] (.slice none 0 0) 0 0 0 (.slice (some ⟨ga,0,none⟩) 1 1)):=by
      unfold RV
      refine ⟨_,some ⟨ga,0,none⟩,ga,0,1,rfl,LbV.nil _ _,fun _=>⟨rfl,by omega⟩,by simp,by decide,?_⟩
      unfold RVs
      refine ⟨⟨_,hv8.mono (by omega),rfl,fun j hj=>?_⟩,by unfold RVs;trivial⟩
      exact at8 hn8 j hj
    obtain ⟨p1,p2,p3⟩:=put_res hB8.z hR8 (by omega) (by omega) (by omega) hRV
    have HH:=hid_of p1
    have HE:=hid_of (HF.out _ _ _ p2 (fun e=>by rw [HT1.out (mst_e0 _ _ _ e)]) p3)
    clear hB8 hR8 hv8 hn8 hRV p1 p2 p3 hr HB7 HR7 HV7 HN7 HF HT1 HMe
    go_wp2_with fail
    refine bodyPost_ret (results_cell_row (P:=Tryz.prog) rfl _ _ w.heap.size 55 _ (0,0) _ rfl HH.out Tryz.underlying55 rfl (by kernel_rfl)) rfl ?_
    exact HE.out
  · have b7:((sh:Int) == 7)=false:=by rw [beq_eq_false_iff_ne];omega
    by_cases q3:sh=3
    · have b3:((sh:Int) == 3)=true:=by rw [beq_iff_eq,q3];rfl
      have hT:=HT3.out q3
      have HF:Hid (∀ (t:RT) (v:Value) W,RV w.heap.size W t v→((mst T [41] (winF T (serF T (shrF T s1).2.2).2.2).2).e=0→t=.mk (kk:Int) 0 (serF T (shrF T s1).2.2).1 (serF T (shrF T s1).2.2).2.1 (winF T (serF T (shrF T s1).2.2).2.2).1 (shrF T s1).1 (shrF T s1).2.1 [])→Rd T rb u w0 (mst T [41] (winF T (serF T (shrF T s1).2.2).2.2).2) W→TellR T rb u w0 w.heap.size (wrdF rec T s) (.returned v) W):=fun t v W hv ht hr=>tellR_mk hT hv ht hr
      have HO2:Hid (Ok T (shrF T s1).2.2):=HO1.out.shrF
      have HO3:Hid (Ok T (serF T (shrF T s1).2.2).2.2):=HO2.out.serF
      have HO4:Hid (Ok T (winF T (serF T (shrF T s1).2.2).2.2).2):=HO3.out.winF
      clear hT HT7 HT3 HT2 q7 q3 HR1 HO1 HO1r
      go_wp2_with fail
      refine Calls.mono (HSh.out _ HR4.out) ?_
      rintro e w5 ⟨x,y,rfl,hxy,hr⟩
      have hB5:=HB4.out.ex hr.ex hrb hlt2
      have hR5:=HR4.out.then hr
      obtain ⟨y0,y1,y2,y3,y4,y5,y6,y7⟩:=eight hB5.bx
      have yf:=eight_f hB5.bx
      have HB6:=hid_of ((hB5.set5 (by omega) (.int .i64 x)).set6 (by omega) (.int .i64 y))
      have HR6:=hid_of ((hR5.set (g:=gx) (by omega) (by omega) (by omega) 5 (.int .i64 x)).set (g:=gx) (by omega) (by omega) (by omega) 6 (.int .i64 y))
      have HXY:=hid_of hxy
      clear hB5 hR5 hr hxy HR4 HB4 HSh
      go_upto_region 8 with fail
      generalize (w5.setCell ⟨gx,5,none⟩ (.int .i64 x)).setCell ⟨gx,6,none⟩ (.int .i64 y)=W6 at *
      clear y0 y1 y2 y3 y4 y5 y6 y7 yf
      go_wp2_with fail
      refine Calls.mono (HSe.out _ _ HR6.out HO2.out) ?_
      rintro e w7 ⟨nm,L,lv,rfl,hl,hnl,hr⟩
      have hB7:=HB6.out.ex hr.ex hrb hlt2
      have hg6:gx < W6.heap.size:=(Array.getElem?_eq_some_iff.1 HB6.out.bx).1
      have hl':=hl.mono (B':=gx+1) (by omega)
      obtain ⟨la,lb,lo,lc,rfl,-⟩:=hl
      have hR7:=HR6.out.then hr
      obtain ⟨y0,y1,y2,y3,y4,y5,y6,y7⟩:=eight hB7.bx
      have yf:=eight_f hB7.bx
      have HB8:=hid_of ((hB7.set2 (by omega) (.string ⟨nm.toArray⟩)).set3 (by omega) (.slice la L.length lc))
      have HR8:=hid_of ((hR7.set (g:=gx) (by omega) (by omega) (by omega) 2 (.string ⟨nm.toArray⟩)).set (g:=gx) (by omega) (by omega) (by omega) 3 (.slice la L.length lc))
      have HL8:=hid_of ((hl'.set 2 (.string ⟨nm.toArray⟩)).set 3 (.slice la L.length lc))
      have HNL:=hid_of hnl
      clear hB7 hl' hR7 hr hnl HR6 HB6 HSe
      go_upto_region 9 with fail
      generalize (w7.setCell ⟨gx,2,none⟩ (.string ⟨nm.toArray⟩)).setCell ⟨gx,3,none⟩ (.slice la L.length lc)=W8 at *
      clear y0 y1 y2 y3 y4 y5 y6 y7 yf
      go_wp2_with fail
      refine Calls.mono (HWi.out _ _ HR8.out HO3.out) ?_
      rintro e w9 ⟨z,rfl,-,hz,hr⟩
      have hB9:=HB8.out.ex hr.ex hrb hlt2
      have hR9:=HR8.out.then hr
      have hl9:=HL8.out.ex hr.ex (by omega)
      obtain ⟨y0,y1,y2,y3,y4,y5,y6,y7⟩:=eight hB9.bx
      have yf:=eight_f hB9.bx
      have HB10:=hid_of (hB9.set4 (by omega) (.int .i64 z))
      have HR10:=hid_of (hR9.set (g:=gx) (by omega) (by omega) (by omega) 4 (.int .i64 z))
      have HL10:=hid_of (hl9.set 4 (.int .i64 z))
      have HZ:=hid_of hz
      clear hB9 hR9 hl9 hr hz HR8 HB8 HL8 HWi
      go_upto_region 10 with fail
      generalize w9.setCell ⟨gx,4,none⟩ (.int .i64 z)=W10 at *
      clear y0 y1 y2 y3 y4 y5 y6 y7 yf
      go_wp2_with fail
      refine Calls.mono (HMe.out _ _ HR10.out HO4.out) ?_
      rintro e w11 ⟨rfl,hr⟩
      have hB11:=HB10.out.ex hr.ex hrb hlt2
      have hR11:=HR10.out.then hr
      have hl11:=HL10.out.ex hr.ex (by omega)
      obtain ⟨y0,y1,y2,y3,y4,y5,y6,y7⟩:=eight hB11.bx
      obtain ⟨z0,z1,z2,z3,z4,z5,z6,z7⟩:=eight hB11.z
      have zf:=eight_f hB11.z
      have hRV:RV (w.heap.size+1) w11 (.mk (kk:Int) 0 nm L z x y []) (rx (kk:Int) 0 nm (.slice la L.length lc) z x y (.slice none 0 0)):=by
        unfold RV
        exact ⟨_,none,0,0,0,rfl,hl11.mono (by omega),fun h=>absurd rfl h,Nat.le_refl _,by decide,by unfold RVs;trivial⟩
      obtain ⟨p1,p2,p3⟩:=put_res hB11.z hR11 (by omega) (by omega) (by omega) hRV
      have HH:=hid_of p1
      have HE:=hid_of (HF.out _ _ _ p2 (fun e=>by
        have e1:=mst_e0 _ _ _ e
        have e2:=winF_e0 _ _ e1
        have e3:=serF_e0 _ _ e2
        obtain ⟨f1,f2⟩:=HNL.out e2
        obtain ⟨g1,g2⟩:=HXY.out e3
        rw [f1,f2,HZ.out e1,g1,g2]) p3)
      clear hB11 hR11 hl11 hRV p1 p2 p3 hr HB10 HR10 HL10 HF HNL HZ HMe
      go_wp2_with fail
      refine bodyPost_ret (results_cell_row (P:=Tryz.prog) rfl _ _ w.heap.size 55 _ (0,0) _ rfl HH.out Tryz.underlying55 rfl (by kernel_rfl)) rfl ?_
      exact HE.out
    · have b3:((sh:Int) == 3)=false:=by rw [beq_eq_false_iff_ne];omega
      have hT:=HT2.out q7 q3
      have HF:Hid (∀ (t:RT) (v:Value) W,RV w.heap.size W t v→((mst T [41] (winF T (serF T s1).2.2).2).e=0→t=.mk (kk:Int) 0 (serF T s1).1 (serF T s1).2.1 (winF T (serF T s1).2.2).1 0 0 [])→Rd T rb u w0 (mst T [41] (winF T (serF T s1).2.2).2) W→TellR T rb u w0 w.heap.size (wrdF rec T s) (.returned v) W):=fun t v W hv ht hr=>tellR_mk hT hv ht hr
      have HO2:Hid (Ok T s1):=HO1.out
      have HO3:Hid (Ok T (serF T s1).2.2):=HO2.out.serF
      have HO4:Hid (Ok T (winF T (serF T s1).2.2).2):=HO3.out.winF
      clear hT HT7 HT3 HT2 q7 q3 HR1 HO1 HO1r HSh
      have HB6:=HB4
      have HR6:=HR4
      generalize w4=W6 at *
      clear HB4 HR4
      go_wp2_with fail
      refine Calls.mono (HSe.out _ _ HR6.out HO2.out) ?_
      rintro e w7 ⟨nm,L,lv,rfl,hl,hnl,hr⟩
      have hB7:=HB6.out.ex hr.ex hrb hlt2
      have hg6:gx < W6.heap.size:=(Array.getElem?_eq_some_iff.1 HB6.out.bx).1
      have hl':=hl.mono (B':=gx+1) (by omega)
      obtain ⟨la,lb,lo,lc,rfl,-⟩:=hl
      have hR7:=HR6.out.then hr
      obtain ⟨y0,y1,y2,y3,y4,y5,y6,y7⟩:=eight hB7.bx
      have yf:=eight_f hB7.bx
      have HB8:=hid_of ((hB7.set2 (by omega) (.string ⟨nm.toArray⟩)).set3 (by omega) (.slice la L.length lc))
      have HR8:=hid_of ((hR7.set (g:=gx) (by omega) (by omega) (by omega) 2 (.string ⟨nm.toArray⟩)).set (g:=gx) (by omega) (by omega) (by omega) 3 (.slice la L.length lc))
      have HL8:=hid_of ((hl'.set 2 (.string ⟨nm.toArray⟩)).set 3 (.slice la L.length lc))
      have HNL:=hid_of hnl
      clear hB7 hl' hR7 hr hnl HR6 HB6 HSe
      go_upto_region 9 with fail
      generalize (w7.setCell ⟨gx,2,none⟩ (.string ⟨nm.toArray⟩)).setCell ⟨gx,3,none⟩ (.slice la L.length lc)=W8 at *
      clear y0 y1 y2 y3 y4 y5 y6 y7 yf
      go_wp2_with fail
      refine Calls.mono (HWi.out _ _ HR8.out HO3.out) ?_
      rintro e w9 ⟨z,rfl,-,hz,hr⟩
      have hB9:=HB8.out.ex hr.ex hrb hlt2
      have hR9:=HR8.out.then hr
      have hl9:=HL8.out.ex hr.ex (by omega)
      obtain ⟨y0,y1,y2,y3,y4,y5,y6,y7⟩:=eight hB9.bx
      have yf:=eight_f hB9.bx
      have HB10:=hid_of (hB9.set4 (by omega) (.int .i64 z))
      have HR10:=hid_of (hR9.set (g:=gx) (by omega) (by omega) (by omega) 4 (.int .i64 z))
      have HL10:=hid_of (hl9.set 4 (.int .i64 z))
      have HZ:=hid_of hz
      clear hB9 hR9 hl9 hr hz HR8 HB8 HL8 HWi
      go_upto_region 10 with fail
      generalize w9.setCell ⟨gx,4,none⟩ (.int .i64 z)=W10 at *
      clear y0 y1 y2 y3 y4 y5 y6 y7 yf
      go_wp2_with fail
      refine Calls.mono (HMe.out _ _ HR10.out HO4.out) ?_
      rintro e w11 ⟨rfl,hr⟩
      have hB11:=HB10.out.ex hr.ex hrb hlt2
      have hR11:=HR10.out.then hr
      have hl11:=HL10.out.ex hr.ex (by omega)
      obtain ⟨y0,y1,y2,y3,y4,y5,y6,y7⟩:=eight hB11.bx
      obtain ⟨z0,z1,z2,z3,z4,z5,z6,z7⟩:=eight hB11.z
      have zf:=eight_f hB11.z
      have hRV:RV (w.heap.size+1) w11 (.mk (kk:Int) 0 nm L z 0 0 []) (rx (kk:Int) 0 nm (.slice la L.length lc) z 0 0 (.slice none 0 0)):=by
        unfold RV
        exact ⟨_,none,0,0,0,rfl,hl11.mono (by omega),fun h=>absurd rfl h,Nat.le_refl _,by decide,by unfold RVs;trivial⟩
      obtain ⟨p1,p2,p3⟩:=put_res hB11.z hR11 (by omega) (by omega) (by omega) hRV
      have HH:=hid_of p1
      have HE:=hid_of (HF.out _ _ _ p2 (fun e=>by
        have e1:=mst_e0 _ _ _ e
        have e2:=winF_e0 _ _ e1
        have e3:=serF_e0 _ _ e2
        obtain ⟨f1,f2⟩:=HNL.out e2
        rw [f1,f2,HZ.out e1]) p3)
      clear hB11 hR11 hl11 hRV p1 p2 p3 hr HB10 HR10 HL10 HF HNL HZ HMe
      go_wp2_with fail
      refine bodyPost_ret (results_cell_row (P:=Tryz.prog) rfl _ _ w.heap.size 55 _ (0,0) _ rfl HH.out Tryz.underlying55 rfl (by kernel_rfl)) rfl ?_
      exact HE.out
end Go.Proofs.YtbgdlbndammgnaaGreatDoor.Ru
/- RULES: THE READER: rule, whole. Own work of the verifier. -/
set_option maxHeartbeats 1000000
namespace Go.Proofs.YtbgdlbndammgnaaGreatDoor.Ru
open Go.RowKit Me
theorem begins_any (l:List UInt8) (w:World) :
    Calls Tryz.prog 68 #[.string ⟨l.toArray⟩] w fun e w'=>e=.returned (.int .i64 (bgn l:Int))∧w'=w:=by
  cases l with
  | nil =>
    go_enter Tryz.func68,Tryz.ntmps68
    go_wp2_with fail
    go_ret
    exact ⟨rfl,rfl⟩
  | cons c r =>
    have hne:((c::r) == [])=false:=rfl
    have hB:0 < (ByteArray.mk (c::r).toArray).size:=by show 0 < (c::r).toArray.size;simp
    have hbe:(ByteArray.mk (c::r).toArray)[0]'hB=c:=rfl
    have hl:(0:Int) < ((c::r).length:Int):=by rw [List.length_cons];omega
    have HD:Hid (∀ W,Calls Tryz.prog 89 #[.int .u8 (c.toNat:Int)] W fun e w'=>e=.returned (.bool (isDg c))∧w'=W):=fun W=>isdg_any c W
    have HL:Hid (∀ W,Calls Tryz.prog 90 #[.int .u8 (c.toNat:Int)] W fun e w'=>e=.returned (.bool (isLt c))∧w'=W):=fun W=>islt_any c W
    rw [show bgn (c::r)=if c.toNat=40 then 1 else if (decide (c.toNat=45) || isDg c)=true then 2 else if isLt c=true then 3 else 0 from rfl]
    generalize hll:c::r=l at *
    clear hll
    by_cases g1:c.toNat=40
    · have t1:((c.toNat:Int) == 40)=true:=by rw [beq_iff_eq];omega
      rw [if_pos g1]
      clear HD HL g1
      as_aux_lemma =>
        go_enter Tryz.func68,Tryz.ntmps68
        go_wp2_with fail
        go_ret
        exact ⟨rfl,rfl⟩
    · have t1:((c.toNat:Int) == 40)=false:=by rw [beq_eq_false_iff_ne];omega
      rw [if_neg g1]
      by_cases g2:c.toNat=45
      · have t2:((c.toNat:Int) == 45)=true:=by rw [beq_iff_eq];omega
        rw [if_pos (by simp [g2])]
        clear HD HL g1 g2
        as_aux_lemma =>
          go_enter Tryz.func68,Tryz.ntmps68
          go_wp2_with fail
          go_ret
          exact ⟨rfl,rfl⟩
      · have t2:((c.toNat:Int) == 45)=false:=by rw [beq_eq_false_iff_ne];omega
        cases hd:isDg c
        · rw [hd] at HD
          rw [if_neg (by simp [g2])]
          cases hlt:isLt c
          · rw [hlt] at HL
            rw [if_neg (by decide)]
            clear g1 g2 hd hlt
            as_aux_lemma =>
              go_enter Tryz.func68,Tryz.ntmps68
              go_wp2_with (first | (go_at_call 89;refine (HD.out _).mono ?_;rintro e1 w1 ⟨rfl,rfl⟩) | (go_at_call 90;refine (HL.out _).mono ?_;rintro e1 w1 ⟨rfl,rfl⟩))
              go_ret
              exact ⟨rfl,rfl⟩
          · rw [hlt] at HL
            rw [if_pos rfl]
            clear g1 g2 hd hlt
            as_aux_lemma =>
              go_enter Tryz.func68,Tryz.ntmps68
              go_wp2_with (first | (go_at_call 89;refine (HD.out _).mono ?_;rintro e1 w1 ⟨rfl,rfl⟩) | (go_at_call 90;refine (HL.out _).mono ?_;rintro e1 w1 ⟨rfl,rfl⟩))
              go_ret
              exact ⟨rfl,rfl⟩
        · rw [hd] at HD
          rw [if_pos (by simp)]
          clear g1 g2 hd HL
          as_aux_lemma =>
            go_enter Tryz.func68,Tryz.ntmps68
            go_wp2_with (first | (go_at_call 89;refine (HD.out _).mono ?_;rintro e1 w1 ⟨rfl,rfl⟩))
            go_ret
            exact ⟨rfl,rfl⟩
theorem beg_e0 (s:St) (h:(beg s).e=0):s.e=0∧s.n≠512:=by
  unfold beg at h
  dsimp only at h
  by_cases k:s.n=512
  · rw [if_pos k] at h
    exact absurd h (fl_e _ _ _ (by decide))
  · rw [if_neg k] at h
    exact ⟨h,k⟩
theorem beg_n (s:St):(beg s).n=s.n+1:=by
  unfold beg
  dsimp only
  split
  · rw [fl_n]
  · rfl
theorem Ok.beg {T:List UInt8} {s:St} (h:Ok T s) (hn:s.n≤1999):Ok T (beg s):=by
  have h1:Ok T (if s.n=512 then Ru.fl s 3 s.a else s):=by
    split
    · exact h.fl (fun _=>h.a)
    · exact h
  refine ⟨h1.a,?_,h.t⟩
  rw [beg_n]
  omega
theorem rst_e {T:List UInt8} {s:St} (h:s.e≠0):rst T s=[]:=by unfold rst;rw [if_neg h]
theorem stp_ok {T:List UInt8} {f:Nat} (hf:f≤512) {PR:List UInt8→Option Nat} {rec:St→RT × St} (hr:∀ f',f=f'+1→RecM T f' rec) {s:St} (ho:Ok T s) (hc:Cf f s):RecM1 T f s (stpF PR rec T s).2:=by
  have hn:s.n≤1029:=by
    by_cases e:s.e=0
    · have:=(hc.a e).1;omega
    · exact hc.b e
  have hb:=ho.beg (by omega)
  have hbn:=beg_n s
  have hf2:RecM1 T f s (fl (beg s) 5 (beg s).a):=by
    refine ⟨hb.fl (fun _=>hb.a),by rw [fl_n,hbn];exact Nat.le_refl _,fun e=>absurd e (fl_e _ _ _ (by decide)),fun e=>?_,fun e=>by rw [fl_n,hbn]⟩
    rw [fl_n,hbn]
    have:=(hc.a e).1
    omega
  unfold stpF
  dsimp only
  by_cases e:(beg s).e=0
  · obtain ⟨e0,e1⟩:=beg_e0 s e
    obtain ⟨c1,c2⟩:=hc.a e0
    obtain ⟨f',rfl⟩:∃ f',f=f'+1:=⟨f - 1,by omega⟩
    have hR:=hr f' rfl
    have hcb:Cf f' (beg s):=⟨fun _=>by rw [hbn];omega,fun k=>absurd e k⟩
    have last:∀ s',Ok T s'→(beg s).n≤s'.n→(s'.e=0→s'.n≤512)→s'.n≤513+(f'+1)→RecM1 T (f'+1) s s':=fun s' h1 h2 h3 h4=>⟨h1,by omega,fun k=>⟨e0,h3 k⟩,fun _=>h4,fun k=>absurd e0 k⟩
    split
    · -- two
      have o1:=hb.mst (T:=T) [40]
      have m1:=hR _ o1 (hcb.mst _ (by omega))
      have o3:=((m1.ok.mst (T:=T) [32]).namF isSg [4,5,6]).mst (T:=T) [32]
      have n3:(mst T [32] (namF isSg [4,5,6] T (mst T [32] (rec (mst T [40] (beg s))).2)).2).n=(rec (mst T [40] (beg s))).2.n:=by rw [mst_n,namF_n,mst_n]
      have hlo:=m1.lo
      have hup:=m1.up
      have hhi:=m1.hi
      rw [mst_n] at hlo hup
      have c5:Cf f' (mst T [32] (namF isSg [4,5,6] T (mst T [32] (rec (mst T [40] (beg s))).2)).2):=by
        refine ⟨fun k=>?_,fun _=>?_⟩
        · have k1:=mst_e0 _ _ _ (namF_e0 _ _ _ _ (mst_e0 _ _ _ k))
          have:=(m1.e0 k1).2
          rw [n3]
          omega
        · rw [n3]
          by_cases k:(mst T [40] (beg s)).e=0
          · have:=hhi k;omega
          · have:=hup k;omega
      have m5:=hR _ o3 c5
      have o7:=m5.ok.mst (T:=T) [41]
      refine last _ o7 ?_ ?_ ?_
      · show _≤(mst T [41] _).n
        rw [mst_n]
        have:=m5.lo
        rw [n3] at this
        omega
      · intro k
        show (mst T [41] _).n≤_
        rw [mst_n]
        exact (m5.e0 (mst_e0 _ _ _ k)).2
      · show (mst T [41] _).n≤_
        rw [mst_n]
        by_cases k:(mst T [32] (namF isSg [4,5,6] T (mst T [32] (rec (mst T [40] (beg s))).2)).2).e=0
        · have:=m5.hi k;omega
        · rw [m5.up k,n3]
          by_cases k2:(mst T [40] (beg s)).e=0
          · have:=hhi k2;omega
          · have:=hup k2;omega
    · -- number
      unfold numF
      split
      · refine last _ (hb.ps (rowF_le isNm T _)) ?_ ?_ ?_ <;> (simp only [ps_n];omega)
      · refine last _ (hb.fl (fun _=>hb.a)) ?_ ?_ ?_ <;> (simp only [fl_n];omega)
    · -- word
      have o1:=(hb.namF isLt [2,3,7]).mst (T:=T) [40]
      have n1:(mst T [40] (namF isLt [2,3,7] T (beg s)).2).n=(beg s).n:=by rw [mst_n,namF_n]
      by_cases q:(kwA (namF isLt [2,3,7] T (beg s)).1).1=7
      · have e7:(wrdF rec T (beg s)).2=mst T [41] (rec (mst T [40] (namF isLt [2,3,7] T (beg s)).2)).2:=by unfold wrdF;dsimp only;rw [if_pos q]
        rw [e7]
        have c1:Cf f' (mst T [40] (namF isLt [2,3,7] T (beg s)).2):=⟨fun k=>by rw [n1];omega,fun _=>by rw [n1];omega⟩
        have m1:=hR _ o1 c1
        generalize mst T [40] (namF isLt [2,3,7] T (beg s)).2=s1 at *
        have hlo:=m1.lo
        have hup:=m1.up
        have hhi:=m1.hi
        generalize rec s1=q1 at *
        refine last _ (m1.ok.mst (T:=T) [41]) ?_ ?_ ?_
        · rw [mst_n];omega
        · intro k
          rw [mst_n]
          exact (m1.e0 (mst_e0 _ _ _ k)).2
        · rw [mst_n]
          by_cases k:s1.e=0
          · have:=hhi k;omega
          · have:=hup k;omega
      · obtain ⟨X,hX⟩:∃ X,X=(if (kwA (namF isLt [2,3,7] T (beg s)).1).1=3 then (shrF T (mst T [40] (namF isLt [2,3,7] T (beg s)).2)).2.2 else mst T [40] (namF isLt [2,3,7] T (beg s)).2):=⟨_,rfl⟩
        have e7:(wrdF rec T (beg s)).2=mst T [41] (winF T (serF T X).2.2).2:=by
          unfold wrdF
          dsimp only
          rw [if_neg q,hX]
          by_cases q3:(kwA (namF isLt [2,3,7] T (beg s)).1).1=3
          · rw [if_pos q3,if_pos q3]
          · rw [if_neg q3,if_neg q3]
        have hXo:Ok T X:=by
          rw [hX]
          split
          · exact o1.shrF
          · exact o1
        have hXn:X.n=(beg s).n:=by
          rw [hX]
          split
          · rw [shrF_n,n1]
          · exact n1
        rw [e7]
        clear hX e7 q n1 o1
        have h4:=hXo.serF.winF.mst (T:=T) [41]
        have n4:(mst T [41] (winF T (serF T X).2.2).2).n=X.n:=by rw [mst_n,winF_n,serF_n]
        generalize mst T [41] (winF T (serF T X).2.2).2=Y at *
        exact last Y h4 (by omega) (fun _=>by omega) (by omega)
    · exact hf2
  · rw [rst_e e]
    exact hf2
theorem rul_ok {T:List UInt8} (PR:List UInt8→Option Nat):∀ f,f≤512→RecM T f (rulF PR T f)
  | 0,hf=>fun _ ho hc=>stp_ok hf (fun _ k=>absurd k (by omega)) ho hc
  | f+1,hf=>fun _ ho hc=>stp_ok hf (fun f' k=>by
      have e:f=f':=by omega
      subst e
      exact rul_ok PR f (by omega)) ho hc
end Go.Proofs.YtbgdlbndammgnaaGreatDoor.Ru
