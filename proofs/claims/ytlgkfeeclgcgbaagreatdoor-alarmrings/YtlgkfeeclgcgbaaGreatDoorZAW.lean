/- RULES: THE READER: two. Own work of the verifier. -/
import Derived.Test.YtlgkfeeclgcgbaaGreatDoorZAV
set_option maxRecDepth 100000
set_option maxHeartbeats 4000000
namespace Go.Proofs.YtlgkfeeclgcgbaaGreatDoor.Ru
open Go.RowKit Me
structure Cf (f:Nat) (s:St):Prop where
 a:s.e=0→s.n≤512∧512≤s.n+f
 b:s.e≠0→s.n≤1029
structure RecM1 (T:List UInt8) (f:Nat) (s s':St):Prop where
 ok:Ok T s'
 lo:s.n+1≤s'.n
 e0:s'.e=0→s.e=0∧s'.n≤512
 hi:s.e=0→s'.n≤513+f
 up:s.e≠0→s'.n=s.n+1
def RecM (T:List UInt8) (f:Nat) (rec:St→RT × St):Prop:=∀ s,Ok T s→Cf f s→RecM1 T f s (rec s).2
def RecAt (T:List UInt8) (rb:Nat) (u:World) (f:Nat) (rec:St→RT × St) (s:St):Prop:=∀ (w0 w:World),Rd T rb u w0 s w→Ok T s→Cf f s→Calls Tryz.prog 57 #[.pointer (some ⟨rb,0,none⟩)] w fun e w'=>TellR T rb u w0 w.heap.size (rec s) e w'
def nxt (rec:St→RT × St) (T:List UInt8) (s z:St):Prop :=
 (bgn (rst T s)=1∧(z=mst T [40] s∨z=mst T [32] (namF isSg [4,5,6] T (mst T [32] (rec (mst T [40] s)).2)).2)) ∨
 (bgn (rst T s)=3∧(kwA (namF isLt [2,3,7] T s).1).1=7∧z=mst T [40] (namF isLt [2,3,7] T s).2)
def hitF (PR:List UInt8→Option Nat) (T:List UInt8):Nat→St→St→Prop
 | 0,s,z=>bgn (rst T (beg s))=2∧z=beg s
 | f+1,s,z=>(bgn (rst T (beg s))=2∧z=beg s)∨∃ s',nxt (rulF PR T f) T (beg s) s'∧hitF PR T f s' z
theorem Cf.mst {T:List UInt8} {f:Nat} {s:St} (h:Cf f s) (l:List UInt8) (hn:s.n≤1029):Cf f (mst T l s) :=
 ⟨fun e=>by rw [mst_n];exact h.a (mst_e0 _ _ _ e),fun _=>by rw [mst_n];exact hn⟩
theorem cf_next {T:List UInt8} {f:Nat} {s s':St} (hf:f≤511) (h:RecM1 T f s s') (hs:s.e=0) (hc:Cf f s) (p:UInt8→Bool) (sh:List Nat):Cf f (mst T [32] (namF p sh T (mst T [32] s')).2):=by
 refine ⟨fun e=>?_,fun _=>?_⟩
 ·rw [mst_n,namF_n,mst_n]
  have e1:=mst_e0 _ _ _ (namF_e0 _ _ _ _ (mst_e0 _ _ _ e))
  have:=(h.e0 e1).2
  have:=h.lo
  have:=(hc.a hs).2
  omega
 ·rw [mst_n,namF_n,mst_n]
  have:=h.hi hs
  omega
structure P1 (g0 g1:Nat) (t:RT) (c:Array Value) (W:World):Prop where
 z:Z8 g0 W
 rv:RV (g0+1) W t (.agg c)
 bx:W.heap[g1]? =some (.cells c 61)
theorem P1.ex {g0 g1 rb:Nat} {t:RT} {c:Array Value} {W W1:World} (h:P1 g0 g1 t c W) (hx:La.Ex rb W W1) (hg:rb < g0) (hg1:g0 < g1):P1 g0 g1 t c W1 :=
 ⟨h.z.ex hx (by omega),h.rv.ex hx (by omega),(hx.block g1 (Array.getElem?_eq_some_iff.1 h.bx).1 (by omega)).trans h.bx⟩
theorem P1.below {g0 g1:Nat} {t:RT} {c:Array Value} {W W1:World} (h:P1 g0 g1 t c W) (hb:Below W.heap.size W W1):P1 g0 g1 t c W1 :=
 ⟨h.z.below hb,h.rv.below hb,(hb.block g1 (Array.getElem?_eq_some_iff.1 h.bx).1).trans h.bx⟩
theorem shp_new (W:World) (a b c:Nat) (t:TypeId):Shp W.heap.size [a,b,c] (W.alloc (.cells #[.int .i64 (a:Int),.int .i64 (b:Int),.int .i64 (c:Int)] t)):=by
 have hN:=new_1 W (.cells #[.int .i64 (a:Int),.int .i64 (b:Int),.int .i64 (c:Int)] t)
 intro j hj
 have:j=0∨j=1∨j=2:=by simp at hj;omega
 rcases this with rfl | rfl | rfl <;> (simp only [World.cell?,hN];rfl)
theorem at16 {W:World} {g:Nat} {t:TypeId} {a0 a1 a2 a3 a4 a5 a6 a7 b0 b1 b2 b3 b4 b5 b6 b7:Value} (h:W.heap[g]? =some (.cells #[a0,a1,a2,a3,a4,a5,a6,a7,b0,b1,b2,b3,b4,b5,b6,b7] t)) :
  ∀ i:Nat,∀ j (hj:j < (if i=0 then #[a0,a1,a2,a3,a4,a5,a6,a7] else #[b0,b1,b2,b3,b4,b5,b6,b7]:Array Value).size),W.cell? ⟨g,(if i=0 then 0 else 8)+j,none⟩=some ((if i=0 then #[a0,a1,a2,a3,a4,a5,a6,a7] else #[b0,b1,b2,b3,b4,b5,b6,b7]:Array Value)[j]'hj):=by
 intro i j hj
 by_cases k:i=0
 ·subst k
  simp only [if_true] at hj ⊢
  have:j=0∨j=1∨j=2∨j=3∨j=4∨j=5∨j=6∨j=7:=by simp at hj;omega
  rcases this with rfl | rfl | rfl | rfl | rfl | rfl | rfl | rfl <;> (simp only [World.cell?,h];rfl)
 ·simp only [if_neg k] at hj ⊢
  have:j=0∨j=1∨j=2∨j=3∨j=4∨j=5∨j=6∨j=7:=by simp at hj;omega
  rcases this with rfl | rfl | rfl | rfl | rfl | rfl | rfl | rfl <;> (simp only [World.cell?,h];rfl)
theorem two_any {T:List UInt8} {rb:Nat} {u w0:World} {f:Nat} (hf:f≤511) {rec:St→RT × St} {s:St} (H1:RecAt T rb u f rec (mst T [40] s)) (H5:RecAt T rb u f rec (mst T [32] (namF isSg [4,5,6] T (mst T [32] (rec (mst T [40] s)).2)).2)) (HM:RecM T f rec) {w:World} (h:Rd T rb u w0 s w) (ho:Ok T s) (he0:s.e=0) (hn:s.n≤512∧512≤s.n+f) (he:Env u) :
  Calls Tryz.prog 73 #[.pointer (some ⟨rb,0,none⟩)] w fun e w'=>TellR T rb u w0 w.heap.size (twoF rec T s) e w':=by
 have hb1:=bel1 w (.cells (rc 0 0 [] (.slice none 0 0) 0 0 0 (.slice none 0 0)) 61)
 have hn1:Z8 w.heap.size (w.alloc (.cells (rc 0 0 [] (.slice none 0 0) 0 0 0 (.slice none 0 0)) 61)):=new_1 w _
 have HA:=hid_of (h.below hb1)
 have HN:=hid_of hn1
 have hrb:=h.lt
 have hu:=h.st.size
 have hw0:=h.ex.size
 obtain ⟨s1,hs1⟩:∃ s1,s1=mst T [40] s:=⟨_,rfl⟩
 have ho1:Ok T s1:=by rw [hs1];exact ho.mst _
 have hcf:Cf f s:=⟨fun _=>hn,fun k=>absurd he0 k⟩
 have hc1:Cf f s1:=by rw [hs1];exact hcf.mst _ (by omega)
 have hm1:=HM s1 ho1 hc1
 obtain ⟨s3,hs3⟩:∃ s3,s3=mst T [32] (rec s1).2:=⟨_,rfl⟩
 have ho3:Ok T s3:=by rw [hs3];exact hm1.ok.mst _
 obtain ⟨s5,hs5⟩:∃ s5,s5=mst T [32] (namF isSg [4,5,6] T s3).2:=⟨_,rfl⟩
 have ho5:Ok T s5:=by rw [hs5];exact (ho3.namF _ _).mst _
 have hc5:Cf f s5:=by
  by_cases k:s1.e=0
  ·rw [hs5,hs3];exact cf_next hf hm1 k hc1 _ _
  ·refine ⟨fun e=>?_,fun _=>?_⟩
   ·rw [hs5] at e
    have e1:=namF_e0 _ _ _ _ (mst_e0 _ _ _ e)
    rw [hs3] at e1
    exact absurd ((hm1.e0 (mst_e0 _ _ _ e1)).1) k
   ·rw [hs5,mst_n,namF_n,hs3,mst_n,hm1.up k,hs1,mst_n]
    omega
 have hm5:=HM s5 ho5 hc5
 rw [← hs1] at H1
 rw [← hs1,← hs3,← hs5] at H5
 have HM1:Hid (∀ W,Rd T rb u w0 s W→Calls Tryz.prog 95 #[.pointer (some ⟨rb,0,none⟩),.string ⟨#[40]⟩] W fun e w'=>e=.returned (.tuple #[])∧Rd T rb u W s1 w'):=fun W hr=>by rw [hs1];exact must_any hr.re ho [40] (by decide)
 have HR1:Hid (∀ W,Rd T rb u w0 s1 W→Calls Tryz.prog 57 #[.pointer (some ⟨rb,0,none⟩)] W fun e w'=>TellR T rb u W W.heap.size (rec s1) e w'):=fun W hr=>H1 W W hr.re ho1 hc1
 have HM3:Hid (∀ W,Rd T rb u w0 (rec s1).2 W→Calls Tryz.prog 95 #[.pointer (some ⟨rb,0,none⟩),.string ⟨#[32]⟩] W fun e w'=>e=.returned (.tuple #[])∧Rd T rb u W s3 w'):=fun W hr=>by rw [hs3];exact must_any hr.re hm1.ok [32] (by decide)
 have HNm:Hid (∀ W sb,Rd T rb u w0 s3 W→Shp sb [4,5,6] W→Calls Tryz.prog 96 #[.pointer (some ⟨rb,0,none⟩),.func (.func 97) #[] #[],.slice (some ⟨sb,0,none⟩) 3 3] W fun e w'=>NmQ isSg [4,5,6] T rb u W s3 e w'):=fun W sb hr hs=>named_any hr.re ho3 (he.kd.below hr.st) _ isSg tells_sg sb [4,5,6] hs rfl
 have HM5:Hid (∀ W,Rd T rb u w0 (namF isSg [4,5,6] T s3).2 W→Calls Tryz.prog 95 #[.pointer (some ⟨rb,0,none⟩),.string ⟨#[32]⟩] W fun e w'=>e=.returned (.tuple #[])∧Rd T rb u W s5 w'):=fun W hr=>by rw [hs5];exact must_any hr.re (ho3.namF _ _) [32] (by decide)
 have HR5':Hid (∀ W,Rd T rb u w0 s5 W→Calls Tryz.prog 57 #[.pointer (some ⟨rb,0,none⟩)] W fun e w'=>TellR T rb u W W.heap.size (rec s5) e w'):=fun W hr=>H5 W W hr.re ho5 hc5
 have HM7:Hid (∀ W,Rd T rb u w0 (rec s5).2 W→Calls Tryz.prog 95 #[.pointer (some ⟨rb,0,none⟩),.string ⟨#[41]⟩] W fun e w'=>e=.returned (.tuple #[])∧Rd T rb u W (mst T [41] (rec s5).2) w'):=fun W hr=>must_any hr.re hm5.ok [41] (by decide)
 have hT2:twoF rec T s=(.mk ((namF isSg [4,5,6] T s3).1:Int) 0 [] [] 0 0 0 [(rec s1).1,(rec s5).1],mst T [41] (rec s5).2):=by
  unfold twoF
  dsimp only
  rw [← hs1,← hs3,← hs5]
 rw [hT2]
 have HE7:Hid ((mst T [41] (rec s5).2).e=0→(rec s1).2.e=0∧(rec s5).2.e=0):=fun e=>by
  have e1:=mst_e0 _ _ _ e
  have e2:=(hm5.e0 e1).1
  rw [hs5] at e2
  have e3:=namF_e0 _ _ _ _ (mst_e0 _ _ _ e2)
  rw [hs3] at e3
  exact ⟨mst_e0 _ _ _ e3,e1⟩
 clear h ho he0 hn he H1 H5 HM hm1 hm5 hc1 hc5 ho1 ho3 ho5 hcf hT2 hs1 hs3 hs5 hb1 hn1
 have HNm':Hid (∀ W sb,Rd T rb u w0 s3 W→Shp sb [4,5,6] W→Calls Tryz.prog 96 #[.pointer (some ⟨rb,0,none⟩),.func (.func 97) #[] #[],.slice (some ⟨sb,0,none⟩) 3 3] W fun e w'=>e=.returned (.int .i64 ((namF isSg [4,5,6] T s3).1:Int))∧Rd T rb u W (namF isSg [4,5,6] T s3).2 w'):=fun W sb hr hs=>HNm.out W sb hr hs
 clear HNm
 generalize (namF isSg [4,5,6] T s3).1=kk at *
 generalize (namF isSg [4,5,6] T s3).2=s4 at *
 generalize hq1:rec s1=q1 at *
 generalize hq5:rec s5=q5 at *
 clear hq1 hq5
 have sF:=store_f
 go_enter Tryz.func73,Tryz.ntmps73
 go_wp2_with fail
 generalize w.alloc (.cells (rc 0 0 [] (.slice none 0 0) 0 0 0 (.slice none 0 0)) 61)=W0 at *
 refine Calls.mono (HM1.out _ HA.out) ?_
 rintro e w1 ⟨rfl,hr⟩
 have HR:=hid_of (HA.out.then hr)
 have HZ:=hid_of (HN.out.ex hr.ex (by omega))
 clear HA HN hr HM1
 go_wp2_with fail
 refine Calls.mono (HR1.out _ HR.out) ?_
 rintro e w2 ⟨t1,v1,rfl,hv1,ht1,hr⟩
 have hz2:=HZ.out.ex hr.ex (by omega)
 have hlt:=HZ.out.lt
 have hv1':=hv1.mono (B':=w.heap.size+1) (by omega)
 obtain ⟨k1,x1,nm1,la1,ln1,lc1,wi1,n1,d1,aa1,an1,ac1,rfl⟩:=hv1.form
 have HT1:=hid_of ht1
 have hb:=bel1 w2 (.cells (rc k1 x1 nm1 (.slice la1 ln1 lc1) wi1 n1 d1 (.slice aa1 an1 ac1)) 61)
 have HR2:=hid_of ((HR.out.then hr).below hb)
 have hlt2:=hz2.lt
 have HP:=hid_of (P1.mk (g1:=w2.heap.size) (hz2.below hb) (hv1'.below hb) (new_1 w2 (.cells (rc k1 x1 nm1 (.slice la1 ln1 lc1) wi1 n1 d1 (.slice aa1 an1 ac1)) 61)))
 clear hv1 hv1' ht1 hr HR HZ hb HR1 hlt hz2
 go_upto_region 3 with fail
 generalize w2.alloc (.cells (rc k1 x1 nm1 (.slice la1 ln1 lc1) wi1 n1 d1 (.slice aa1 an1 ac1)) 61)=W3 at *
 generalize w2.heap.size=g1 at *
 go_wp2_with fail
 refine Calls.mono (HM3.out _ HR2.out) ?_
 rintro e w4 ⟨rfl,hr⟩
 have hR4:=HR2.out.then hr
 have hP4:=HP.out.ex hr.ex (by omega) hlt2
 have hb:=bel1 w4 (.cells #[.int .i64 4,.int .i64 5,.int .i64 6] 3)
 have HS:=hid_of (shp_new w4 4 5 6 3)
 have HR4:=hid_of (hR4.below hb)
 have HP4:=hid_of (hP4.below hb)
 clear hr hR4 hP4 hb HR2 HP HM3
 go_wp2_with fail
 refine Calls.mono (HNm'.out _ _ HR4.out HS.out) ?_
 rintro e w5 ⟨rfl,hr⟩
 have HR5:=hid_of (HR4.out.then hr)
 have HP5:=hid_of (HP4.out.ex hr.ex (by omega) hlt2)
 clear hr HR4 HP4 HS HNm'
 go_wp2_with fail
 refine Calls.mono (HM5.out _ HR5.out) ?_
 rintro e w6 ⟨rfl,hr⟩
 have HR6:=hid_of (HR5.out.then hr)
 have HP6:=hid_of (HP5.out.ex hr.ex (by omega) hlt2)
 clear hr HR5 HP5 HM5
 go_wp2_with fail
 refine Calls.mono (HR5'.out _ HR6.out) ?_
 rintro e w7 ⟨t2,v2,rfl,hv2,ht2,hr⟩
 have hP7:=HP6.out.ex hr.ex (by omega) hlt2
 have hs7:g1 < w6.heap.size:=(Array.getElem?_eq_some_iff.1 HP6.out.bx).1
 have hv2':=hv2.mono (B':=w.heap.size+1) (by omega)
 obtain ⟨k2,x2,nm2,la2,ln2,lc2,wi2,n2,d2,aa2,an2,ac2,rfl⟩:=hv2.form
 have HT2:=hid_of ht2
 have hb:=bel1 w7 (.cells (rc k2 x2 nm2 (.slice la2 ln2 lc2) wi2 n2 d2 (.slice aa2 an2 ac2)) 61)
 have HR8:=hid_of ((HR6.out.then hr).below hb)
 have HP8:=hid_of (hP7.below hb)
 have hlt7:=hP7.z.lt
 have HQ8:=hid_of (P1.mk (g1:=w7.heap.size) (hP7.z.below hb) (hv2'.below hb) (new_1 w7 (.cells (rc k2 x2 nm2 (.slice la2 ln2 lc2) wi2 n2 d2 (.slice aa2 an2 ac2)) 61)))
 clear hv2 hv2' ht2 hr HR6 HP6 hb HR5' hs7 hP7
 go_upto_region 7 with fail
 generalize w7.alloc (.cells (rc k2 x2 nm2 (.slice la2 ln2 lc2) wi2 n2 d2 (.slice aa2 an2 ac2)) 61)=W8 at *
 generalize w7.heap.size=g2 at *
 go_wp2_with fail
 refine Calls.mono (HM7.out _ HR8.out) ?_
 rintro e w9 ⟨rfl,hr⟩
 have hR9:=HR8.out.then hr
 have hP9:=HP8.out.ex hr.ex (by omega) hlt2
 have hQ9:=HQ8.out.ex hr.ex (by omega) hlt7
 obtain ⟨y0,y1,y2,y3,y4,y5,y6,y7⟩:=eight hP9.bx
 obtain ⟨u0,u1,u2,u3,u4,u5,u6,u7⟩:=eight hQ9.bx
 have hbA:=bel1 w9 (.cells #[.int .i64 k1,.float .f64 x1,.string ⟨nm1.toArray⟩,.slice la1 ln1 lc1,.int .i64 wi1,.int .i64 n1,.int .i64 d1,.slice aa1 an1 ac1,.int .i64 k2,.float .f64 x2,.string ⟨nm2.toArray⟩,.slice la2 ln2 lc2,.int .i64 wi2,.int .i64 n2,.int .i64 d2,.slice aa2 an2 ac2] 61)
 have hnA:=new_1 w9 (.cells #[.int .i64 k1,.float .f64 x1,.string ⟨nm1.toArray⟩,.slice la1 ln1 lc1,.int .i64 wi1,.int .i64 n1,.int .i64 d1,.slice aa1 an1 ac1,.int .i64 k2,.float .f64 x2,.string ⟨nm2.toArray⟩,.slice la2 ln2 lc2,.int .i64 wi2,.int .i64 n2,.int .i64 d2,.slice aa2 an2 ac2] 61)
 have hz10:=hP9.z.below hbA
 have hR10:=hR9.below hbA
 have hv1:=(hP9.rv.below hbA)
 have hv2:=(hQ9.rv.below hbA)
 have hg9:w.heap.size < w9.heap.size:=hP9.z.lt
 obtain ⟨z0,z1,z2,z3,z4,z5,z6,z7⟩:=eight hz10
 have zf:=eight_f hz10
 have HH:=hid_of (put8_heap hz10 (.int .i64 (kk:Int)) (.float .f64 0) (.string ⟨#[]⟩) (.slice none 0 0) (.int .i64 0) (.int .i64 0) (.int .i64 0) (.slice (some ⟨w9.heap.size,0,none⟩) 2 2))
 have HE:Hid (TellR T rb u w0 w.heap.size (.mk (kk:Int) 0 [] [] 0 0 0 [q1.1,q5.1],mst T [41] q5.2) (.returned (rx (kk:Int) 0 [] (.slice none 0 0) 0 0 0 (.slice (some ⟨w9.heap.size,0,none⟩) 2 2))) (put8 (w9.alloc (.cells #[.int .i64 k1,.float .f64 x1,.string ⟨nm1.toArray⟩,.slice la1 ln1 lc1,.int .i64 wi1,.int .i64 n1,.int .i64 d1,.slice aa1 an1 ac1,.int .i64 k2,.float .f64 x2,.string ⟨nm2.toArray⟩,.slice la2 ln2 lc2,.int .i64 wi2,.int .i64 n2,.int .i64 d2,.slice aa2 an2 ac2] 61)) w.heap.size (.int .i64 (kk:Int)) (.float .f64 0) (.string ⟨#[]⟩) (.slice none 0 0) (.int .i64 0) (.int .i64 0) (.int .i64 0) (.slice (some ⟨w9.heap.size,0,none⟩) 2 2))):=by
  refine ⟨.mk (kk:Int) 0 [] [] 0 0 0 [t1,t2],_,rfl,?_,?_,hR10.put8 (by omega) (by omega) (by omega) _ _ _ _ _ _ _ _⟩
  ·generalize hW:w9.alloc (.cells #[.int .i64 k1,.float .f64 x1,.string ⟨nm1.toArray⟩,.slice la1 ln1 lc1,.int .i64 wi1,.int .i64 n1,.int .i64 d1,.slice aa1 an1 ac1,.int .i64 k2,.float .f64 x2,.string ⟨nm2.toArray⟩,.slice la2 ln2 lc2,.int .i64 wi2,.int .i64 n2,.int .i64 d2,.slice aa2 an2 ac2] 61)=W at *
   have hx:=put8_one W w.heap.size (.int .i64 (kk:Int)) (.float .f64 0) (.string ⟨#[]⟩) (.slice none 0 0) (.int .i64 0) (.int .i64 0) (.int .i64 0) (.slice (some ⟨w9.heap.size,0,none⟩) 2 2)
   have e1:=(hv1.ex hx (by omega)).mono (B':=w.heap.size) (by omega)
   have e2:=(hv2.ex hx (by omega)).mono (B':=w.heap.size) (by omega)
   have hn2:=(hx.block w9.heap.size (Array.getElem?_eq_some_iff.1 hnA).1 (by omega)).trans hnA
   generalize put8 W w.heap.size (.int .i64 (kk:Int)) (.float .f64 0) (.string ⟨#[]⟩) (.slice none 0 0) (.int .i64 0) (.int .i64 0) (.int .i64 0) (.slice (some ⟨w9.heap.size,0,none⟩) 2 2)=W2 at *
   unfold RV
   refine ⟨_,some ⟨w9.heap.size,0,none⟩,w9.heap.size,0,2,rfl,LbV.nil _ _,fun _=>⟨rfl,by omega⟩,by simp,by decide,?_⟩
   unfold RVs
   refine ⟨⟨_,e1,rfl,fun j hj=>?_⟩,?_⟩
   ·exact at16 hn2 0 j hj
   ·unfold RVs
    refine ⟨⟨_,e2,rfl,fun j hj=>?_⟩,?_⟩
    ·exact at16 hn2 1 j hj
    ·unfold RVs;trivial
  ·intro e
   obtain ⟨a,b⟩:=HE7.out e
   rw [HT1.out a,HT2.out b]
 clear hR9 hP9 hQ9 hbA hnA hz10 hR10 hv1 hv2 hg9 hr HR8 HP8 HQ8 HM7 HE7 HT1 HT2
 go_upto_region 8 with fail
 go_wp2_with fail
 refine bodyPost_ret (results_cell_row (P:=Tryz.prog) rfl _ _ w.heap.size 61 _ (0,0) _ rfl HH.out Tryz.underlying61 rfl (by kernel_rfl)) rfl ?_
 exact HE.out
end Go.Proofs.YtlgkfeeclgcgbaaGreatDoor.Ru
/- RULES: THE READER: word; what keeps. Own work of the verifier. -/
set_option maxHeartbeats 1000000
namespace Go.Proofs.YtlgkfeeclgcgbaaGreatDoor.Ru
open Go.RowKit Me
theorem ite_e0 {c:Prop} [Decidable c] {s:St} {e a:Nat} (h:(if c then s else fl s e a).e=0):s.e=0:=by
 split at h
 ·exact h
 ·exact fl_e0 _ _ _ h
theorem ite_n {c:Prop} [Decidable c] (s:St) (e a:Nat):(if c then s else fl s e a).n=s.n:=by
 split
 ·rfl
 ·exact fl_n _ _ _
theorem Ok.ite {T:List UInt8} {c:Prop} [Decidable c] {s:St} {e a:Nat} (h:Ok T s) (ha:s.e=0→a≤T.length):Ok T (if c then s else Ru.fl s e a):=by
 split
 ·exact h
 ·exact h.fl ha
theorem shrF_n (T:List UInt8) (s:St):(shrF T s).2.2.n=s.n:=by
 unfold shrF
 dsimp only
 rw [mst_n,ite_n,cntF_n,mst_n,cntF_n]
theorem Ok.shrF {T:List UInt8} {s:St} (h:Ok T s):Ok T (shrF T s).2.2:=by
 unfold Ru.shrF
 dsimp only
 have h2:=h.cntF.mst (T:=T) [47]
 exact (h2.cntF.ite (fun _=>h2.a)).mst _
theorem winF_e0 (T:List UInt8) (s:St) (h:(winF T s).2.e=0):s.e=0:=by
 unfold winF at h
 dsimp only at h
 exact cntF_e0 _ _ (ite_e0 h)
theorem winF_n (T:List UInt8) (s:St):(winF T s).2.n=s.n:=by
 unfold winF
 dsimp only
 rw [ite_n,cntF_n]
theorem Ok.winF {T:List UInt8} {s:St} (h:Ok T s):Ok T (winF T s).2:=by
 unfold Ru.winF
 dsimp only
 exact h.cntF.ite (fun _=>h.a)
theorem serF_e0 (T:List UInt8) (s:St) (h:(serF T s).2.2.e=0):s.e=0:=by
 unfold serF at h
 dsimp only at h
 split at h
 ·have:=mst_e0 _ _ _ h
  rw [ps_e] at this
  exact fl_e0 _ _ _ this
 ·have:=mst_e0 _ _ _ h
  rw [ps_e] at this
  exact this
theorem serF_n (T:List UInt8) (s:St):(serF T s).2.2.n=s.n:=by
 unfold serF
 dsimp only
 split
 ·rw [mst_n,ps_n,fl_n]
 ·rw [mst_n,ps_n]
theorem Ok.serF {T:List UInt8} {s:St} (h:Ok T s):Ok T (serF T s).2.2:=by
 have hsl:=sLen_le (rst T s)
 unfold Ru.serF
 dsimp only
 split
 ·rename_i z k hp
  have hf:=La.par_far _ _ _ hp
  rw [List.length_take] at hf
  obtain ⟨q,hq⟩:∃ q,q=(if z.toNat=0 then 5 else z.toNat):=⟨_,rfl⟩
  have hq0:q≠0:=by rw [hq];split <;> omega
  rw [← hq]
  have h1:Ok T (Ru.fl s q (s.a+k)):=h.fl (fun e=>by
   unfold rst at hf hsl
   rw [if_pos e] at hf hsl
   rw [List.length_drop] at hf hsl
   have:=h.a
   omega)
  rw [ps_err (fl_e _ _ _ hq0)]
  exact h1.mst _
 ·exact (h.ps hsl).mst _
end Go.Proofs.YtlgkfeeclgcgbaaGreatDoor.Ru
/- RULES: THE READER: word. Own work of the verifier. (Printed by a program of the verifier's.) -/
set_option maxRecDepth 100000
set_option maxHeartbeats 8000000
namespace Go.Proofs.YtlgkfeeclgcgbaaGreatDoor.Ru
open Go.RowKit Me
theorem Rd.set {T:List UInt8} {rb:Nat} {u w:World} {s:St} {W:World} (h:Rd T rb u w s W) {g:Nat} (hr:g≠rb) (hu:u.heap.size≤g) (hw:w.heap.size≤g) (i:Nat) (v:Value):Rd T rb u w s (W.setCell ⟨g,i,none⟩ v):=by
 refine ⟨h.st.setCell (p:=⟨g,i,none⟩) hu _,h.lo,h.ex.put hw i v,h.hb,?_⟩
 rw [Below.heap_setCell _ _ _ _ (fun e=>hr e.symm)]
 exact h.at_
structure B1 (g0 gx:Nat) (a0 a1 a2 a3 a4 a5 a6 a7:Value) (W:World):Prop where
 z:Z8 g0 W
 bx:W.heap[gx]? =some (.cells #[a0,a1,a2,a3,a4,a5,a6,a7] 61)
theorem B1.ex {g0 gx rb:Nat} {a0 a1 a2 a3 a4 a5 a6 a7:Value} {W W1:World} (h:B1 g0 gx a0 a1 a2 a3 a4 a5 a6 a7 W) (hx:La.Ex rb W W1) (hg:rb < g0) (hg1:g0 < gx):B1 g0 gx a0 a1 a2 a3 a4 a5 a6 a7 W1 :=
 ⟨h.z.ex hx (by omega),(hx.block gx (Array.getElem?_eq_some_iff.1 h.bx).1 (by omega)).trans h.bx⟩
theorem B1.below {g0 gx:Nat} {a0 a1 a2 a3 a4 a5 a6 a7:Value} {W W1:World} (h:B1 g0 gx a0 a1 a2 a3 a4 a5 a6 a7 W) (hb:Below W.heap.size W W1):B1 g0 gx a0 a1 a2 a3 a4 a5 a6 a7 W1 :=
 ⟨h.z.below hb,(hb.block gx (Array.getElem?_eq_some_iff.1 h.bx).1).trans h.bx⟩
theorem B1.set2 {g0 gx:Nat} {a0 a1 a2 a3 a4 a5 a6 a7:Value} {W:World} (h:B1 g0 gx a0 a1 a2 a3 a4 a5 a6 a7 W) (hg:g0≠gx) (v:Value):B1 g0 gx a0 a1 v a3 a4 a5 a6 a7 (W.setCell ⟨gx,2,none⟩ v):=by
 refine ⟨(Below.heap_setCell _ _ _ _ hg).trans h.z,?_⟩
 have:=Lib.heap_setCell_same (i:=2) h.bx v
 simpa using this
theorem B1.set3 {g0 gx:Nat} {a0 a1 a2 a3 a4 a5 a6 a7:Value} {W:World} (h:B1 g0 gx a0 a1 a2 a3 a4 a5 a6 a7 W) (hg:g0≠gx) (v:Value):B1 g0 gx a0 a1 a2 v a4 a5 a6 a7 (W.setCell ⟨gx,3,none⟩ v):=by
 refine ⟨(Below.heap_setCell _ _ _ _ hg).trans h.z,?_⟩
 have:=Lib.heap_setCell_same (i:=3) h.bx v
 simpa using this
theorem B1.set4 {g0 gx:Nat} {a0 a1 a2 a3 a4 a5 a6 a7:Value} {W:World} (h:B1 g0 gx a0 a1 a2 a3 a4 a5 a6 a7 W) (hg:g0≠gx) (v:Value):B1 g0 gx a0 a1 a2 a3 v a5 a6 a7 (W.setCell ⟨gx,4,none⟩ v):=by
 refine ⟨(Below.heap_setCell _ _ _ _ hg).trans h.z,?_⟩
 have:=Lib.heap_setCell_same (i:=4) h.bx v
 simpa using this
theorem B1.set5 {g0 gx:Nat} {a0 a1 a2 a3 a4 a5 a6 a7:Value} {W:World} (h:B1 g0 gx a0 a1 a2 a3 a4 a5 a6 a7 W) (hg:g0≠gx) (v:Value):B1 g0 gx a0 a1 a2 a3 a4 v a6 a7 (W.setCell ⟨gx,5,none⟩ v):=by
 refine ⟨(Below.heap_setCell _ _ _ _ hg).trans h.z,?_⟩
 have:=Lib.heap_setCell_same (i:=5) h.bx v
 simpa using this
theorem B1.set6 {g0 gx:Nat} {a0 a1 a2 a3 a4 a5 a6 a7:Value} {W:World} (h:B1 g0 gx a0 a1 a2 a3 a4 a5 a6 a7 W) (hg:g0≠gx) (v:Value):B1 g0 gx a0 a1 a2 a3 a4 a5 v a7 (W.setCell ⟨gx,6,none⟩ v):=by
 refine ⟨(Below.heap_setCell _ _ _ _ hg).trans h.z,?_⟩
 have:=Lib.heap_setCell_same (i:=6) h.bx v
 simpa using this
theorem B1.set7 {g0 gx:Nat} {a0 a1 a2 a3 a4 a5 a6 a7:Value} {W:World} (h:B1 g0 gx a0 a1 a2 a3 a4 a5 a6 a7 W) (hg:g0≠gx) (v:Value):B1 g0 gx a0 a1 a2 a3 a4 a5 a6 v (W.setCell ⟨gx,7,none⟩ v):=by
 refine ⟨(Below.heap_setCell _ _ _ _ hg).trans h.z,?_⟩
 have:=Lib.heap_setCell_same (i:=7) h.bx v
 simpa using this
theorem LbV.set {g:Nat} {W:World} {lv:Value} {L:List La.Lb} (h:LbV (g+1) W lv L) (i:Nat) (v:Value):LbV (g+1) (W.setCell ⟨g,i,none⟩ v) lv L:=h.ex ((La.Ex.refl g W).set i v) (by omega)
theorem put_res {T:List UInt8} {rb:Nat} {u w0:World} {s:St} {W:World} {g0:Nat} {t:RT} {k:Int} {x:Nat} {nm:List UInt8} {lv:Value} {wi n d:Int} {av:Value} (hz:Z8 g0 W) (hR:Rd T rb u w0 s W) (h1:w0.heap.size≤g0) (h2:g0≠rb) (h3:u.heap.size≤g0) (hv:RV (g0+1) W t (rx k x nm lv wi n d av)) :
  (put8 W g0 (.int .i64 k) (.float .f64 x) (.string ⟨nm.toArray⟩) lv (.int .i64 wi) (.int .i64 n) (.int .i64 d) av).heap[g0]? =some (.cells (rc k x nm lv wi n d av) 61)∧RV g0 (put8 W g0 (.int .i64 k) (.float .f64 x) (.string ⟨nm.toArray⟩) lv (.int .i64 wi) (.int .i64 n) (.int .i64 d) av) t (rx k x nm lv wi n d av)∧Rd T rb u w0 s (put8 W g0 (.int .i64 k) (.float .f64 x) (.string ⟨nm.toArray⟩) lv (.int .i64 wi) (.int .i64 n) (.int .i64 d) av) :=
 ⟨put8_heap hz _ _ _ _ _ _ _ _,(hv.ex (put8_one W g0 _ _ _ _ _ _ _ _) (by omega)).mono (by omega),hR.put8 h1 h2 h3 _ _ _ _ _ _ _ _⟩
theorem fnd_lt {sh:List Nat} {r:List UInt8} {i:Nat} (h:fndK sh r=some i):i < 22:=by
 unfold fndK at h
 have:=List.mem_of_find?_eq_some h
 simpa using this
theorem namF_lt (p:UInt8→Bool) (sh:List Nat) (T:List UInt8) (s:St):(namF p sh T s).1 < 22:=by
 unfold namF
 split
 ·rename_i i hi;exact fnd_lt hi
 ·show 0 < 22;decide
theorem tellR_mk {T:List UInt8} {rb:Nat} {u w0 W:World} {B:Nat} {q:RT × St} {A:RT} {S:St} {t:RT} {v:Value} (hq:q=(A,S)) (hv:RV B W t v) (ht:S.e=0→t=A) (hr:Rd T rb u w0 S W):TellR T rb u w0 B q (.returned v) W:=by
 subst hq
 exact ⟨t,v,rfl,hv,ht,hr⟩
theorem at8 {W:World} {g:Nat} {t:TypeId} {a0 a1 a2 a3 a4 a5 a6 a7:Value} (h:W.heap[g]? =some (.cells #[a0,a1,a2,a3,a4,a5,a6,a7] t)) (j:Nat) (hj:j < (#[a0,a1,a2,a3,a4,a5,a6,a7]:Array Value).size):W.cell? ⟨g,0+j,none⟩=some ((#[a0,a1,a2,a3,a4,a5,a6,a7]:Array Value)[j]'hj):=by
 have:j=0∨j=1∨j=2∨j=3∨j=4∨j=5∨j=6∨j=7:=by simp at hj;omega
 rcases this with rfl | rfl | rfl | rfl | rfl | rfl | rfl | rfl <;> (simp only [World.cell?,h];rfl)
theorem word_any {T:List UInt8} {rb:Nat} {u w0:World} {f:Nat} (_hf:f≤511) {rec:St→RT × St} {s:St} (H1:(kwA (namF isLt [2,3,7] T s).1).1=7→RecAt T rb u f rec (mst T [40] (namF isLt [2,3,7] T s).2)) {w:World} (h:Rd T rb u w0 s w) (ho:Ok T s) (_he0:s.e=0) (hn:s.n≤512∧512≤s.n+f) (HMok:∀ s',Ok T s'→Cf f s'→Ok T (rec s').2) (he:Env u) :
  Calls Tryz.prog 75 #[.pointer (some ⟨rb,0,none⟩)] w fun e w'=>TellR T rb u w0 w.heap.size (wrdF rec T s) e w':=by
 have hb1:=bel1 w (.cells (rc 0 0 [] (.slice none 0 0) 0 0 0 (.slice none 0 0)) 61)
 have hn1:Z8 w.heap.size (w.alloc (.cells (rc 0 0 [] (.slice none 0 0) 0 0 0 (.slice none 0 0)) 61)):=new_1 w _
 have hA:=h.below hb1
 have hrb:=h.lt
 have hu:=h.st.size
 have hw0:=h.ex.size
 obtain ⟨kk,hkk⟩:∃ kk,kk=(namF isLt [2,3,7] T s).1:=⟨_,rfl⟩
 obtain ⟨s1,hs1⟩:∃ s1,s1=mst T [40] (namF isLt [2,3,7] T s).2:=⟨_,rfl⟩
 have hk22:kk < 22:=by rw [hkk];exact namF_lt _ _ _ _
 have hkw:kwI (kk:Int)=kwA kk:=by unfold kwI;rw [if_pos (by omega)];rfl
 have ho1:Ok T s1:=by rw [hs1];exact (ho.namF _ _).mst _
 have hc1:Cf f s1:=⟨fun _=>by rw [hs1,mst_n,namF_n];exact hn,fun _=>by rw [hs1,mst_n,namF_n];omega⟩
 have hb2:=bel1 (w.alloc (.cells (rc 0 0 [] (.slice none 0 0) 0 0 0 (.slice none 0 0)) 61)) (.cells #[.int .i64 2,.int .i64 3,.int .i64 7] 3)
 have hS0:=shp_new (w.alloc (.cells (rc 0 0 [] (.slice none 0 0) 0 0 0 (.slice none 0 0)) 61)) 2 3 7 3
 rw [show (w.alloc (.cells (rc 0 0 [] (.slice none 0 0) 0 0 0 (.slice none 0 0)) 61)).heap.size=w.heap.size+1 by simp] at hS0
 have HA:=hid_of (hA.below hb2)
 have HN:=hid_of (hn1.below hb2)
 have HS:=hid_of hS0
 have HNm:Hid (∀ W sb,Rd T rb u w0 s W→Shp sb [2,3,7] W→Calls Tryz.prog 96 #[.pointer (some ⟨rb,0,none⟩),.func (.func 94) #[] #[],.slice (some ⟨sb,0,none⟩) 3 3] W fun e w'=>e=.returned (.int .i64 (kk:Int))∧Rd T rb u W (namF isLt [2,3,7] T s).2 w'):=fun W sb hr hs=>by rw [hkk];exact named_any hr.re ho (he.kd.below hr.st) _ isLt tells_lt sb [2,3,7] hs rfl
 have HM1:Hid (∀ W,Rd T rb u w0 (namF isLt [2,3,7] T s).2 W→Calls Tryz.prog 95 #[.pointer (some ⟨rb,0,none⟩),.string ⟨#[40]⟩] W fun e w'=>e=.returned (.tuple #[])∧Rd T rb u W s1 w'):=fun W hr=>by rw [hs1];exact must_any hr.re (ho.namF _ _) [40] (by decide)
 have HKd:Hid (∀ W,Rd T rb u w0 s1 W→Calls Tryz.prog 78 #[rx (kk:Int) 0 [] (.slice none 0 0) 0 0 0 (.slice none 0 0)] W fun e w'=>e=.returned (kx (kwA kk))∧Below W.heap.size W w'):=fun W hr=>by rw [← hkw];exact kind_any (kk:Int) 0 [] _ 0 0 0 _ ⟨_,_,_,rfl⟩ ⟨_,_,_,rfl⟩ W (he.kd.below hr.st)
 rw [← hkk,← hs1] at H1
 have HR1:Hid ((kwA kk).1=7→∀ W,Rd T rb u w0 s1 W→Calls Tryz.prog 57 #[.pointer (some ⟨rb,0,none⟩)] W fun e w'=>TellR T rb u W W.heap.size (rec s1) e w'):=fun e W hr=>H1 e W W hr.re ho1 hc1
 have HMe:Hid (∀ s' W,Rd T rb u w0 s' W→Ok T s'→Calls Tryz.prog 95 #[.pointer (some ⟨rb,0,none⟩),.string ⟨#[41]⟩] W fun e w'=>e=.returned (.tuple #[])∧Rd T rb u W (mst T [41] s') w'):=fun s' W hr ho=>must_any hr.re ho [41] (by decide)
 have HSh:Hid (∀ W,Rd T rb u w0 s1 W→Calls Tryz.prog 102 #[.pointer (some ⟨rb,0,none⟩)] W fun e w'=>ShQ T rb u W s1 e w'):=fun W hr=>share_any hr.re ho1 he
 have HSe:Hid (∀ s' W,Rd T rb u w0 s' W→Ok T s'→Calls Tryz.prog 103 #[.pointer (some ⟨rb,0,none⟩)] W fun e w'=>SeQ T rb u W W.heap.size s' e w'):=fun s' W hr ho=>series_any hr.re ho
 have HWi:Hid (∀ s' W,Rd T rb u w0 s' W→Ok T s'→Calls Tryz.prog 104 #[.pointer (some ⟨rb,0,none⟩)] W fun e w'=>WiQ T rb u W s' e w'):=fun s' W hr ho=>window_any hr.re ho he
 have HO1:=hid_of ho1
 have HO1r:Hid (Ok T (rec s1).2):=HMok s1 ho1 hc1
 have HT7:Hid ((kwA kk).1=7→wrdF rec T s=(.mk (kk:Int) 0 [] [] 0 0 0 [(rec s1).1],mst T [41] (rec s1).2)):=fun e=>by
  unfold wrdF
  dsimp only
  rw [← hkk,← hs1,if_pos e]
 have HT3:Hid ((kwA kk).1=3→wrdF rec T s=(.mk (kk:Int) 0 (serF T (shrF T s1).2.2).1 (serF T (shrF T s1).2.2).2.1 (winF T (serF T (shrF T s1).2.2).2.2).1 (shrF T s1).1 (shrF T s1).2.1 [],mst T [41] (winF T (serF T (shrF T s1).2.2).2.2).2)):=fun e=>by
  unfold wrdF
  dsimp only
  rw [← hkk,← hs1,if_neg (by omega),if_pos e]
 have HT2:Hid ((kwA kk).1≠7→(kwA kk).1≠3→wrdF rec T s=(.mk (kk:Int) 0 (serF T s1).1 (serF T s1).2.1 (winF T (serF T s1).2.2).1 0 0 [],mst T [41] (winF T (serF T s1).2.2).2)):=fun e1 e2=>by
  unfold wrdF
  dsimp only
  rw [← hkk,← hs1,if_neg e1,if_neg e2]
  rfl
 clear h ho _he0 hn he H1 HMok hc1 ho1 hkw hkk hs1 hb1 hn1 hb2 hA hS0
 generalize (namF isLt [2,3,7] T s).2=s0 at *
 have sF:=store_f
 have hfl:=fldK
 go_enter Tryz.func75,Tryz.ntmps75
 go_wp2_with fail
 refine Calls.mono (HNm.out _ _ HA.out HS.out) ?_
 rintro e w2 ⟨rfl,hr⟩
 have hz2:=HN.out.ex hr.ex (by omega)
 have hlt2:=hz2.lt
 have hb:=bel1 w2 (.cells (rc (kk:Int) 0 [] (.slice none 0 0) 0 0 0 (.slice none 0 0)) 61)
 have HB:=hid_of (B1.mk (g0:=w.heap.size) (gx:=w2.heap.size) (hz2.below hb) (new_1 w2 (.cells (rc (kk:Int) 0 [] (.slice none 0 0) 0 0 0 (.slice none 0 0)) 61)))
 have HR:=hid_of ((HA.out.then hr).below hb)
 clear hr HA HN HS hz2 hb HNm
 go_upto_region 2 with fail
 generalize w2.alloc (.cells (rc (kk:Int) 0 [] (.slice none 0 0) 0 0 0 (.slice none 0 0)) 61)=W2 at *
 generalize w2.heap.size=gx at *
 go_wp2_with fail
 refine Calls.mono (HM1.out _ HR.out) ?_
 rintro e w3 ⟨rfl,hr⟩
 have hB3:=HB.out.ex hr.ex hrb hlt2
 have HR3:=hid_of (HR.out.then hr)
 obtain ⟨y0,y1,y2,y3,y4,y5,y6,y7⟩:=eight hB3.bx
 have HB3:=hid_of hB3
 clear hr HR HB HM1 hB3
 go_wp2_with fail
 refine Calls.mono (HKd.out _ HR3.out) ?_
 rintro e w4 ⟨rfl,hb4⟩
 have HR4:=hid_of (HR3.out.below hb4)
 have HB4:=hid_of (HB3.out.below hb4)
 clear hb4 HR3 HB3 HKd y0 y1 y2 y3 y4 y5 y6 y7
 generalize kwA kk=qk at *
 obtain ⟨sh,wd⟩:=qk
 dsimp only at *
 by_cases q7:sh=7
 ·have b7:((sh:Int) == 7)=true:=by rw [beq_iff_eq,q7];rfl
  have hT:=HT7.out q7
  have HRq:=hid_of (HR1.out q7)
  clear HR1
  have HF:Hid (∀ (t:RT) (v:Value) W,RV w.heap.size W t v→((mst T [41] (rec s1).2).e=0→t=.mk (kk:Int) 0 [] [] 0 0 0 [(rec s1).1])→Rd T rb u w0 (mst T [41] (rec s1).2) W→TellR T rb u w0 w.heap.size (wrdF rec T s) (.returned v) W):=fun t v W hv ht hr=>tellR_mk hT hv ht hr
  clear hT HT7 HT3 HT2 HSh HSe HWi q7 HO1
  go_wp2_with fail
  refine Calls.mono (HRq.out _ HR4.out) ?_
  rintro e w5 ⟨t1,v1,rfl,hv1,ht1,hr⟩
  have hB5:=HB4.out.ex hr.ex hrb hlt2
  have hg4:gx < w4.heap.size:=(Array.getElem?_eq_some_iff.1 HB4.out.bx).1
  have hg5:gx < w5.heap.size:=(Array.getElem?_eq_some_iff.1 hB5.bx).1
  have hv1':=hv1.mono (B':=gx+1) (by omega)
  obtain ⟨k1,x1,nm1,la1,ln1,lc1,wi1,n1,d1,aa1,an1,ac1,rfl⟩:=hv1.form
  have hR5:=HR4.out.then hr
  have hb0:=bel1 w5 (.cells (rc k1 x1 nm1 (.slice la1 ln1 lc1) wi1 n1 d1 (.slice aa1 an1 ac1)) 61)
  have hB0:=hB5.below hb0
  obtain ⟨y0,y1,y2,y3,y4,y5,y6,y7⟩:=eight hB0.bx
  have yf:=eight_f hB0.bx
  have hbA:=bel1 (w5.setCell ⟨gx,7,none⟩ (.slice (some ⟨w5.heap.size,0,none⟩) 1 1)) (.cells (rc k1 x1 nm1 (.slice la1 ln1 lc1) wi1 n1 d1 (.slice aa1 an1 ac1)) 61)
  have hnA:=new_1 (w5.setCell ⟨gx,7,none⟩ (.slice (some ⟨w5.heap.size,0,none⟩) 1 1)) (.cells (rc k1 x1 nm1 (.slice la1 ln1 lc1) wi1 n1 d1 (.slice aa1 an1 ac1)) 61)
  rw [show (w5.setCell ⟨gx,7,none⟩ (.slice (some ⟨w5.heap.size,0,none⟩) 1 1)).heap.size=w5.heap.size by simp [World.setCell]] at hnA
  have HB7:=hid_of ((hB5.set7 (by omega) (.slice (some ⟨w5.heap.size,0,none⟩) 1 1)).below hbA)
  have HR7:=hid_of ((hR5.set (g:=gx) (by omega) (by omega) (by omega) 7 (.slice (some ⟨w5.heap.size,0,none⟩) 1 1)).below hbA)
  have HV7:=hid_of ((hv1'.ex ((La.Ex.refl gx _).set 7 (.slice (some ⟨w5.heap.size,0,none⟩) 1 1)) (by omega)).below hbA)
  have HN7:=hid_of hnA
  have HT1:=hid_of ht1
  clear hv1 hv1' hB5 hB0 hb0 hR5 hbA hnA hr HR4 HB4 HRq ht1
  go_upto_region 10 with fail
  generalize (w5.setCell ⟨gx,7,none⟩ (.slice (some ⟨w5.heap.size,0,none⟩) 1 1)).alloc (.cells (rc k1 x1 nm1 (.slice la1 ln1 lc1) wi1 n1 d1 (.slice aa1 an1 ac1)) 61)=W7 at *
  generalize w5.heap.size=ga at *
  clear y0 y1 y2 y3 y4 y5 y6 y7 yf
  go_wp2_with fail
  refine Calls.mono (HMe.out _ _ HR7.out HO1r.out) ?_
  rintro e w8 ⟨rfl,hr⟩
  have hB8:=HB7.out.ex hr.ex hrb hlt2
  have hR8:=HR7.out.then hr
  have hv8:=HV7.out.ex hr.ex (by omega)
  have hn8:=(hr.ex.block ga (Array.getElem?_eq_some_iff.1 HN7.out).1 (by omega)).trans HN7.out
  obtain ⟨y0,y1,y2,y3,y4,y5,y6,y7⟩:=eight hB8.bx
  obtain ⟨z0,z1,z2,z3,z4,z5,z6,z7⟩:=eight hB8.z
  have zf:=eight_f hB8.z
  have hRV:RV (w.heap.size+1) w8 (.mk (kk:Int) 0 [] [] 0 0 0 [t1]) (rx (kk:Int) 0 [] (.slice none 0 0) 0 0 0 (.slice (some ⟨ga,0,none⟩) 1 1)):=by
   unfold RV
   refine ⟨_,some ⟨ga,0,none⟩,ga,0,1,rfl,LbV.nil _ _,fun _=>⟨rfl,by omega⟩,by simp,by decide,?_⟩
   unfold RVs
   refine ⟨⟨_,hv8.mono (by omega),rfl,fun j hj=>?_⟩,by unfold RVs;trivial⟩
   exact at8 hn8 j hj
  obtain ⟨p1,p2,p3⟩:=put_res hB8.z hR8 (by omega) (by omega) (by omega) hRV
  have HH:=hid_of p1
  have HE:=hid_of (HF.out _ _ _ p2 (fun e=>by rw [HT1.out (mst_e0 _ _ _ e)]) p3)
  clear hB8 hR8 hv8 hn8 hRV p1 p2 p3 hr HB7 HR7 HV7 HN7 HF HT1 HMe
  go_wp2_with fail
  refine bodyPost_ret (results_cell_row (P:=Tryz.prog) rfl _ _ w.heap.size 61 _ (0,0) _ rfl HH.out Tryz.underlying61 rfl (by kernel_rfl)) rfl ?_
  exact HE.out
 ·have b7:((sh:Int) == 7)=false:=by rw [beq_eq_false_iff_ne];omega
  by_cases q3:sh=3
  ·have b3:((sh:Int) == 3)=true:=by rw [beq_iff_eq,q3];rfl
   have hT:=HT3.out q3
   have HF:Hid (∀ (t:RT) (v:Value) W,RV w.heap.size W t v→((mst T [41] (winF T (serF T (shrF T s1).2.2).2.2).2).e=0→t=.mk (kk:Int) 0 (serF T (shrF T s1).2.2).1 (serF T (shrF T s1).2.2).2.1 (winF T (serF T (shrF T s1).2.2).2.2).1 (shrF T s1).1 (shrF T s1).2.1 [])→Rd T rb u w0 (mst T [41] (winF T (serF T (shrF T s1).2.2).2.2).2) W→TellR T rb u w0 w.heap.size (wrdF rec T s) (.returned v) W):=fun t v W hv ht hr=>tellR_mk hT hv ht hr
   have HO2:Hid (Ok T (shrF T s1).2.2):=HO1.out.shrF
   have HO3:Hid (Ok T (serF T (shrF T s1).2.2).2.2):=HO2.out.serF
   have HO4:Hid (Ok T (winF T (serF T (shrF T s1).2.2).2.2).2):=HO3.out.winF
   clear hT HT7 HT3 HT2 q7 q3 HR1 HO1 HO1r
   go_wp2_with fail
   refine Calls.mono (HSh.out _ HR4.out) ?_
   rintro e w5 ⟨x,y,rfl,hxy,hr⟩
   have hB5:=HB4.out.ex hr.ex hrb hlt2
   have hR5:=HR4.out.then hr
   obtain ⟨y0,y1,y2,y3,y4,y5,y6,y7⟩:=eight hB5.bx
   have yf:=eight_f hB5.bx
   have HB6:=hid_of ((hB5.set5 (by omega) (.int .i64 x)).set6 (by omega) (.int .i64 y))
   have HR6:=hid_of ((hR5.set (g:=gx) (by omega) (by omega) (by omega) 5 (.int .i64 x)).set (g:=gx) (by omega) (by omega) (by omega) 6 (.int .i64 y))
   have HXY:=hid_of hxy
   clear hB5 hR5 hr hxy HR4 HB4 HSh
   go_upto_region 8 with fail
   generalize (w5.setCell ⟨gx,5,none⟩ (.int .i64 x)).setCell ⟨gx,6,none⟩ (.int .i64 y)=W6 at *
   clear y0 y1 y2 y3 y4 y5 y6 y7 yf
   go_wp2_with fail
   refine Calls.mono (HSe.out _ _ HR6.out HO2.out) ?_
   rintro e w7 ⟨nm,L,lv,rfl,hl,hnl,hr⟩
   have hB7:=HB6.out.ex hr.ex hrb hlt2
   have hg6:gx < W6.heap.size:=(Array.getElem?_eq_some_iff.1 HB6.out.bx).1
   have hl':=hl.mono (B':=gx+1) (by omega)
   obtain ⟨la,lb,lo,lc,rfl,-⟩:=hl
   have hR7:=HR6.out.then hr
   obtain ⟨y0,y1,y2,y3,y4,y5,y6,y7⟩:=eight hB7.bx
   have yf:=eight_f hB7.bx
   have HB8:=hid_of ((hB7.set2 (by omega) (.string ⟨nm.toArray⟩)).set3 (by omega) (.slice la L.length lc))
   have HR8:=hid_of ((hR7.set (g:=gx) (by omega) (by omega) (by omega) 2 (.string ⟨nm.toArray⟩)).set (g:=gx) (by omega) (by omega) (by omega) 3 (.slice la L.length lc))
   have HL8:=hid_of ((hl'.set 2 (.string ⟨nm.toArray⟩)).set 3 (.slice la L.length lc))
   have HNL:=hid_of hnl
   clear hB7 hl' hR7 hr hnl HR6 HB6 HSe
   go_upto_region 9 with fail
   generalize (w7.setCell ⟨gx,2,none⟩ (.string ⟨nm.toArray⟩)).setCell ⟨gx,3,none⟩ (.slice la L.length lc)=W8 at *
   clear y0 y1 y2 y3 y4 y5 y6 y7 yf
   go_wp2_with fail
   refine Calls.mono (HWi.out _ _ HR8.out HO3.out) ?_
   rintro e w9 ⟨z,rfl,-,hz,hr⟩
   have hB9:=HB8.out.ex hr.ex hrb hlt2
   have hR9:=HR8.out.then hr
   have hl9:=HL8.out.ex hr.ex (by omega)
   obtain ⟨y0,y1,y2,y3,y4,y5,y6,y7⟩:=eight hB9.bx
   have yf:=eight_f hB9.bx
   have HB10:=hid_of (hB9.set4 (by omega) (.int .i64 z))
   have HR10:=hid_of (hR9.set (g:=gx) (by omega) (by omega) (by omega) 4 (.int .i64 z))
   have HL10:=hid_of (hl9.set 4 (.int .i64 z))
   have HZ:=hid_of hz
   clear hB9 hR9 hl9 hr hz HR8 HB8 HL8 HWi
   go_upto_region 10 with fail
   generalize w9.setCell ⟨gx,4,none⟩ (.int .i64 z)=W10 at *
   clear y0 y1 y2 y3 y4 y5 y6 y7 yf
   go_wp2_with fail
   refine Calls.mono (HMe.out _ _ HR10.out HO4.out) ?_
   rintro e w11 ⟨rfl,hr⟩
   have hB11:=HB10.out.ex hr.ex hrb hlt2
   have hR11:=HR10.out.then hr
   have hl11:=HL10.out.ex hr.ex (by omega)
   obtain ⟨y0,y1,y2,y3,y4,y5,y6,y7⟩:=eight hB11.bx
   obtain ⟨z0,z1,z2,z3,z4,z5,z6,z7⟩:=eight hB11.z
   have zf:=eight_f hB11.z
   have hRV:RV (w.heap.size+1) w11 (.mk (kk:Int) 0 nm L z x y []) (rx (kk:Int) 0 nm (.slice la L.length lc) z x y (.slice none 0 0)):=by
    unfold RV
    exact ⟨_,none,0,0,0,rfl,hl11.mono (by omega),fun h=>absurd rfl h,Nat.le_refl _,by decide,by unfold RVs;trivial⟩
   obtain ⟨p1,p2,p3⟩:=put_res hB11.z hR11 (by omega) (by omega) (by omega) hRV
   have HH:=hid_of p1
   have HE:=hid_of (HF.out _ _ _ p2 (fun e=>by
    have e1:=mst_e0 _ _ _ e
    have e2:=winF_e0 _ _ e1
    have e3:=serF_e0 _ _ e2
    obtain ⟨f1,f2⟩:=HNL.out e2
    obtain ⟨g1,g2⟩:=HXY.out e3
    rw [f1,f2,HZ.out e1,g1,g2]) p3)
   clear hB11 hR11 hl11 hRV p1 p2 p3 hr HB10 HR10 HL10 HF HNL HZ HMe
   go_wp2_with fail
   refine bodyPost_ret (results_cell_row (P:=Tryz.prog) rfl _ _ w.heap.size 61 _ (0,0) _ rfl HH.out Tryz.underlying61 rfl (by kernel_rfl)) rfl ?_
   exact HE.out
  ·have b3:((sh:Int) == 3)=false:=by rw [beq_eq_false_iff_ne];omega
   have hT:=HT2.out q7 q3
   have HF:Hid (∀ (t:RT) (v:Value) W,RV w.heap.size W t v→((mst T [41] (winF T (serF T s1).2.2).2).e=0→t=.mk (kk:Int) 0 (serF T s1).1 (serF T s1).2.1 (winF T (serF T s1).2.2).1 0 0 [])→Rd T rb u w0 (mst T [41] (winF T (serF T s1).2.2).2) W→TellR T rb u w0 w.heap.size (wrdF rec T s) (.returned v) W):=fun t v W hv ht hr=>tellR_mk hT hv ht hr
   have HO2:Hid (Ok T s1):=HO1.out
   have HO3:Hid (Ok T (serF T s1).2.2):=HO2.out.serF
   have HO4:Hid (Ok T (winF T (serF T s1).2.2).2):=HO3.out.winF
   clear hT HT7 HT3 HT2 q7 q3 HR1 HO1 HO1r HSh
   have HB6:=HB4
   have HR6:=HR4
   generalize w4=W6 at *
   clear HB4 HR4
   go_wp2_with fail
   refine Calls.mono (HSe.out _ _ HR6.out HO2.out) ?_
   rintro e w7 ⟨nm,L,lv,rfl,hl,hnl,hr⟩
   have hB7:=HB6.out.ex hr.ex hrb hlt2
   have hg6:gx < W6.heap.size:=(Array.getElem?_eq_some_iff.1 HB6.out.bx).1
   have hl':=hl.mono (B':=gx+1) (by omega)
   obtain ⟨la,lb,lo,lc,rfl,-⟩:=hl
   have hR7:=HR6.out.then hr
   obtain ⟨y0,y1,y2,y3,y4,y5,y6,y7⟩:=eight hB7.bx
   have yf:=eight_f hB7.bx
   have HB8:=hid_of ((hB7.set2 (by omega) (.string ⟨nm.toArray⟩)).set3 (by omega) (.slice la L.length lc))
   have HR8:=hid_of ((hR7.set (g:=gx) (by omega) (by omega) (by omega) 2 (.string ⟨nm.toArray⟩)).set (g:=gx) (by omega) (by omega) (by omega) 3 (.slice la L.length lc))
   have HL8:=hid_of ((hl'.set 2 (.string ⟨nm.toArray⟩)).set 3 (.slice la L.length lc))
   have HNL:=hid_of hnl
   clear hB7 hl' hR7 hr hnl HR6 HB6 HSe
   go_upto_region 9 with fail
   generalize (w7.setCell ⟨gx,2,none⟩ (.string ⟨nm.toArray⟩)).setCell ⟨gx,3,none⟩ (.slice la L.length lc)=W8 at *
   clear y0 y1 y2 y3 y4 y5 y6 y7 yf
   go_wp2_with fail
   refine Calls.mono (HWi.out _ _ HR8.out HO3.out) ?_
   rintro e w9 ⟨z,rfl,-,hz,hr⟩
   have hB9:=HB8.out.ex hr.ex hrb hlt2
   have hR9:=HR8.out.then hr
   have hl9:=HL8.out.ex hr.ex (by omega)
   obtain ⟨y0,y1,y2,y3,y4,y5,y6,y7⟩:=eight hB9.bx
   have yf:=eight_f hB9.bx
   have HB10:=hid_of (hB9.set4 (by omega) (.int .i64 z))
   have HR10:=hid_of (hR9.set (g:=gx) (by omega) (by omega) (by omega) 4 (.int .i64 z))
   have HL10:=hid_of (hl9.set 4 (.int .i64 z))
   have HZ:=hid_of hz
   clear hB9 hR9 hl9 hr hz HR8 HB8 HL8 HWi
   go_upto_region 10 with fail
   generalize w9.setCell ⟨gx,4,none⟩ (.int .i64 z)=W10 at *
   clear y0 y1 y2 y3 y4 y5 y6 y7 yf
   go_wp2_with fail
   refine Calls.mono (HMe.out _ _ HR10.out HO4.out) ?_
   rintro e w11 ⟨rfl,hr⟩
   have hB11:=HB10.out.ex hr.ex hrb hlt2
   have hR11:=HR10.out.then hr
   have hl11:=HL10.out.ex hr.ex (by omega)
   obtain ⟨y0,y1,y2,y3,y4,y5,y6,y7⟩:=eight hB11.bx
   obtain ⟨z0,z1,z2,z3,z4,z5,z6,z7⟩:=eight hB11.z
   have zf:=eight_f hB11.z
   have hRV:RV (w.heap.size+1) w11 (.mk (kk:Int) 0 nm L z 0 0 []) (rx (kk:Int) 0 nm (.slice la L.length lc) z 0 0 (.slice none 0 0)):=by
    unfold RV
    exact ⟨_,none,0,0,0,rfl,hl11.mono (by omega),fun h=>absurd rfl h,Nat.le_refl _,by decide,by unfold RVs;trivial⟩
   obtain ⟨p1,p2,p3⟩:=put_res hB11.z hR11 (by omega) (by omega) (by omega) hRV
   have HH:=hid_of p1
   have HE:=hid_of (HF.out _ _ _ p2 (fun e=>by
    have e1:=mst_e0 _ _ _ e
    have e2:=winF_e0 _ _ e1
    have e3:=serF_e0 _ _ e2
    obtain ⟨f1,f2⟩:=HNL.out e2
    rw [f1,f2,HZ.out e1]) p3)
   clear hB11 hR11 hl11 hRV p1 p2 p3 hr HB10 HR10 HL10 HF HNL HZ HMe
   go_wp2_with fail
   refine bodyPost_ret (results_cell_row (P:=Tryz.prog) rfl _ _ w.heap.size 61 _ (0,0) _ rfl HH.out Tryz.underlying61 rfl (by kernel_rfl)) rfl ?_
   exact HE.out
end Go.Proofs.YtlgkfeeclgcgbaaGreatDoor.Ru
