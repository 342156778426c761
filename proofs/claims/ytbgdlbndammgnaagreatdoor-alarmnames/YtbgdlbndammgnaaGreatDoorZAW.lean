/- RULES: THE READER: two. Own work of the verifier. -/
import Derived.Test.YtbgdlbndammgnaaGreatDoorZAV
set_option maxRecDepth 100000
set_option maxHeartbeats 4000000
namespace Go.Proofs.YtbgdlbndammgnaaGreatDoor.Ru
open Go.RowKit Me
structure Cf (f:Nat) (s:St):Prop where
  a:s.e=0→s.n≤512∧512≤s.n+f
  b:s.e≠0→s.n≤1029
structure RecM1 (T:List UInt8) (f:Nat) (s s':St):Prop where
  ok:Ok T s'
  lo:s.n+1≤s'.n
  e0:s'.e=0→s.e=0∧s'.n≤512
  hi:s.e=0→s'.n≤513+f
  up:s.e≠0→s'.n=s.n+1
def RecM (T:List UInt8) (f:Nat) (rec:St→RT × St):Prop:=∀ s,Ok T s→Cf f s→RecM1 T f s (rec s).2
def RecAt (T:List UInt8) (rb:Nat) (u:World) (f:Nat) (rec:St→RT × St) (s:St):Prop:=∀ (w0 w:World),Rd T rb u w0 s w→Ok T s→Cf f s→Calls Tryz.prog 53 #[.pointer (some ⟨rb,0,none⟩)] w fun e w'=>TellR T rb u w0 w.heap.size (rec s) e w'
def nxt (rec:St→RT × St) (T:List UInt8) (s z:St):Prop :=
  (bgn (rst T s)=1∧(z=mst T [40] s∨z=mst T [32] (namF isSg [4,5,6] T (mst T [32] (rec (mst T [40] s)).2)).2)) ∨
  (bgn (rst T s)=3∧(kwA (namF isLt [2,3,7] T s).1).1=7∧z=mst T [40] (namF isLt [2,3,7] T s).2)
def hitF (PR:List UInt8→Option Nat) (T:List UInt8):Nat→St→St→Prop
  | 0,s,z=>bgn (rst T (beg s))=2∧z=beg s
  | f+1,s,z=>(bgn (rst T (beg s))=2∧z=beg s)∨∃ s',nxt (rulF PR T f) T (beg s) s'∧hitF PR T f s' z
theorem Cf.mst {T:List UInt8} {f:Nat} {s:St} (h:Cf f s) (l:List UInt8) (hn:s.n≤1029):Cf f (mst T l s) :=
  ⟨fun e=>by rw [mst_n];exact h.a (mst_e0 _ _ _ e),fun _=>by rw [mst_n];exact hn⟩
theorem cf_next {T:List UInt8} {f:Nat} {s s':St} (hf:f≤511) (h:RecM1 T f s s') (hs:s.e=0) (hc:Cf f s) (p:UInt8→Bool) (sh:List Nat):Cf f (mst T [32] (namF p sh T (mst T [32] s')).2):=by
  refine ⟨fun e=>?_,fun _=>?_⟩
  · rw [mst_n,namF_n,mst_n]
    have e1:=mst_e0 _ _ _ (namF_e0 _ _ _ _ (mst_e0 _ _ _ e))
    have:=(h.e0 e1).2
    have:=h.lo
    have:=(hc.a hs).2
    omega
  · rw [mst_n,namF_n,mst_n]
    have:=h.hi hs
    omega
structure P1 (g0 g1:Nat) (t:RT) (c:Array Value) (W:World):Prop where
  z:Z8 g0 W
  rv:RV (g0+1) W t (.agg c)
  bx:W.heap[g1]? =some (.cells c 55)
theorem P1.ex {g0 g1 rb:Nat} {t:RT} {c:Array Value} {W W1:World} (h:P1 g0 g1 t c W) (hx:La.Ex rb W W1) (hg:rb < g0) (hg1:g0 < g1):P1 g0 g1 t c W1 :=
  ⟨h.z.ex hx (by omega),h.rv.ex hx (by omega),(hx.block g1 (Array.getElem?_eq_some_iff.1 h.bx).1 (by omega)).trans h.bx⟩
theorem P1.below {g0 g1:Nat} {t:RT} {c:Array Value} {W W1:World} (h:P1 g0 g1 t c W) (hb:Below W.heap.size W W1):P1 g0 g1 t c W1 :=
  ⟨h.z.below hb,h.rv.below hb,(hb.block g1 (Array.getElem?_eq_some_iff.1 h.bx).1).trans h.bx⟩
theorem shp_new (W:World) (a b c:Nat) (t:TypeId):Shp W.heap.size [a,b,c] (W.alloc (.cells #[.int .i64 (a:Int),.int .i64 (b:Int),.int .i64 (c:Int)] t)):=by
  have hN:=new_1 W (.cells #[.int .i64 (a:Int),.int .i64 (b:Int),.int .i64 (c:Int)] t)
  intro j hj
  have:j=0∨j=1∨j=2:=by simp at hj;omega
  rcases this with rfl | rfl | rfl <;> (simp only [World.cell?,hN];rfl)
theorem at16 {W:World} {g:Nat} {t:TypeId} {a0 a1 a2 a3 a4 a5 a6 a7 b0 b1 b2 b3 b4 b5 b6 b7:Value} (h:W.heap[g]? =some (.cells #[a0,a1,a2,a3,a4,a5,a6,a7,b0,b1,b2,b3,b4,b5,b6,b7] t)) :
    ∀ i:Nat,∀ j (hj:j < (if i=0 then #[a0,a1,a2,a3,a4,a5,a6,a7] else #[b0,b1,b2,b3,b4,b5,b6,b7]:Array Value).size),W.cell? ⟨g,(if i=0 then 0 else 8)+j,none⟩=some ((if i=0 then #[a0,a1,a2,a3,a4,a5,a6,a7] else #[b0,b1,b2,b3,b4,b5,b6,b7]:Array Value)[j]'hj):=by
  intro i j hj
  by_cases k:i=0
  · subst k
    simp only [if_true] at hj ⊢
    have:j=0∨j=1∨j=2∨j=3∨j=4∨j=5∨j=6∨j=7:=by simp at hj;omega
    rcases this with rfl | rfl | rfl | rfl | rfl | rfl | rfl | rfl <;> (simp only [World.cell?,h];rfl)
  · simp only [if_neg k] at hj ⊢
    have:j=0∨j=1∨j=2∨j=3∨j=4∨j=5∨j=6∨j=7:=by simp at hj;omega
    rcases this with rfl | rfl | rfl | rfl | rfl | rfl | rfl | rfl <;> (simp only [World.cell?,h];rfl)
theorem two_any {T:List UInt8} {rb:Nat} {u w0:World} {f:Nat} (hf:f≤511) {rec:St→RT × St} {s:St} (H1:RecAt T rb u f rec (mst T [40] s)) (H5:RecAt T rb u f rec (mst T [32] (namF isSg [4,5,6] T (mst T [32] (rec (mst T [40] s)).2)).2)) (HM:RecM T f rec) {w:World} (h:Rd T rb u w0 s w) (ho:Ok T s) (he0:s.e=0) (hn:s.n≤512∧512≤s.n+f) (he:Env u) :
    Calls Tryz.prog 69 #[.pointer (some ⟨rb,0,none⟩)] w fun e w'=>TellR T rb u w0 w.heap.size (twoF rec T s) e w':=by
  have hb1:=bel1 w (.cells (rc 0 0 [] (.slice none 0 0) 0 0 0 (.slice none 0 0)) 55)
  have hn1:Z8 w.heap.size (w.alloc (.cells (rc 0 0 [] (.slice none 0 0) 0 0 0 (.slice none 0 0)) 55)):=new_1 w _
  have HA:=hid_of (h.below hb1)
  have HN:=hid_of hn1
  have hrb:=h.lt
  have hu:=h.st.size
  have hw0:=h.ex.size
  obtain ⟨s1,hs1⟩:∃ s1,s1=mst T [40] s:=⟨_,rfl⟩
  have ho1:Ok T s1:=by rw [hs1];exact ho.mst _
  have hcf:Cf f s:=⟨fun _=>hn,fun k=>absurd he0 k⟩
  have hc1:Cf f s1:=by rw [hs1];exact hcf.mst _ (by omega)
  have hm1:=HM s1 ho1 hc1
  obtain ⟨s3,hs3⟩:∃ s3,s3=mst T [32] (rec s1).2:=⟨_,rfl⟩
  have ho3:Ok T s3:=by rw [hs3];exact hm1.ok.mst _
  obtain ⟨s5,hs5⟩:∃ s5,s5=mst T [32] (namF isSg [4,5,6] T s3).2:=⟨_,rfl⟩
  have ho5:Ok T s5:=by rw [hs5];exact (ho3.namF _ _).mst _
  have hc5:Cf f s5:=by
    by_cases k:s1.e=0
    · rw [hs5,hs3];exact cf_next hf hm1 k hc1 _ _
    · refine ⟨fun e=>?_,fun _=>?_⟩
      · rw [hs5] at e
        have e1:=namF_e0 _ _ _ _ (mst_e0 _ _ _ e)
        rw [hs3] at e1
        exact absurd ((hm1.e0 (mst_e0 _ _ _ e1)).1) k
      · rw [hs5,mst_n,namF_n,hs3,mst_n,hm1.up k,hs1,mst_n]
        omega
  have hm5:=HM s5 ho5 hc5
  rw [← hs1] at H1
  rw [← hs1,← hs3,← hs5] at H5
  have HM1:Hid (∀ W,Rd T rb u w0 s W→Calls Tryz.prog 91 #[.pointer (some ⟨rb,0,none⟩),.string ⟨#[40]⟩] W fun e w'=>e=.returned (.tuple #[])∧Rd T rb u W s1 w'):=fun W hr=>by rw [hs1];exact must_any hr.re ho [40] (by decide)
  have HR1:Hid (∀ W,Rd T rb u w0 s1 W→Calls Tryz.prog 53 #[.pointer (some ⟨rb,0,none⟩)] W fun e w'=>TellR T rb u W W.heap.size (rec s1) e w'):=fun W hr=>H1 W W hr.re ho1 hc1
  have HM3:Hid (∀ W,Rd T rb u w0 (rec s1).2 W→Calls Tryz.prog 91 #[.pointer (some ⟨rb,0,none⟩),.string ⟨#[32]⟩] W fun e w'=>e=.returned (.tuple #[])∧Rd T rb u W s3 w'):=fun W hr=>by rw [hs3];exact must_any hr.re hm1.ok [32] (by decide)
  have HNm:Hid (∀ W sb,Rd T rb u w0 s3 W→Shp sb [4,5,6] W→Calls Tryz.prog 92 #[.pointer (some ⟨rb,0,none⟩),.func (.func 93) #[] #[],.slice (some ⟨sb,0,none⟩) 3 3] W fun e w'=>NmQ isSg [4,5,6] T rb u W s3 e w'):=fun W sb hr hs=>named_any hr.re ho3 (he.kd.below hr.st) _ isSg tells_sg sb [4,5,6] hs rfl
  have HM5:Hid (∀ W,Rd T rb u w0 (namF isSg [4,5,6] T s3).2 W→Calls Tryz.prog 91 #[.pointer (some ⟨rb,0,none⟩),.string ⟨#[32]⟩] W fun e w'=>e=.returned (.tuple #[])∧Rd T rb u W s5 w'):=fun W hr=>by rw [hs5];exact must_any hr.re (ho3.namF _ _) [32] (by decide)
  have HR5':Hid (∀ W,Rd T rb u w0 s5 W→Calls Tryz.prog 53 #[.pointer (some ⟨rb,0,none⟩)] W fun e w'=>TellR T rb u W W.heap.size (rec s5) e w'):=fun W hr=>H5 W W hr.re ho5 hc5
  have HM7:Hid (∀ W,Rd T rb u w0 (rec s5).2 W→Calls Tryz.prog 91 #[.pointer (some ⟨rb,0,none⟩),.string ⟨#[41]⟩] W fun e w'=>e=.returned (.tuple #[])∧Rd T rb u W (mst T [41] (rec s5).2) w'):=fun W hr=>must_any hr.re hm5.ok [41] (by decide)
  have hT2:twoF rec T s=(.mk ((namF isSg [4,5,6] T s3).1:Int) 0 [] [] 0 0 0 [(rec s1).1,(rec s5).1],mst T [41] (rec s5).2):=by
    unfold twoF
    dsimp only
    rw [← hs1,← hs3,← hs5]
  rw [hT2]
  have HE7:Hid ((mst T [41] (rec s5).2).e=0→(rec s1).2.e=0∧(rec s5).2.e=0):=fun e=>by
    have e1:=mst_e0 _ _ _ e
    have e2:=(hm5.e0 e1).1
    rw [hs5] at e2
    have e3:=namF_e0 _ _ _ _ (mst_e0 _ _ _ e2)
    rw [hs3] at e3
    exact ⟨mst_e0 _ _ _ e3,e1⟩
  clear h ho he0 hn he H1 H5 HM hm1 hm5 hc1 hc5 ho1 ho3 ho5 hcf hT2 hs1 hs3 hs5 hb1 hn1
  have HNm':Hid (∀ W sb,Rd T rb u w0 s3 W→Shp sb [4,5,6] W→Calls Tryz.prog 92 #[.pointer (some ⟨rb,0,none⟩),.func (.func 93) #[] #[],.slice (some ⟨sb,0,none⟩) 3 3] W fun e w'=>e=.returned (.int .i64 ((namF isSg [4,5,6] T s3).1:Int))∧Rd T rb u W (namF isSg [4,5,6] T s3).2 w'):=fun W sb hr hs=>HNm.out W sb hr hs
  clear HNm
  generalize (namF isSg [4,5,6] T s3).1=kk at *
  generalize (namF isSg [4,5,6] T s3).2=s4 at *
  generalize hq1:rec s1=q1 at *
  generalize hq5:rec s5=q5 at *
  clear hq1 hq5
  have sF:=store_f
  go_enter Tryz.func69,Tryz.ntmps69
  go_wp2_with fail
  generalize w.alloc (.cells (rc 0 0 [] (.slice none 0 0) 0 0 0 (.slice none 0 0)) 55)=W0 at *
  refine Calls.mono (HM1.out _ HA.out) ?_
  rintro e w1 ⟨rfl,hr⟩
  have HR:=hid_of (HA.out.then hr)
  have HZ:=hid_of (HN.out.ex hr.ex (by omega))
  clear HA HN hr HM1
  go_wp2_with fail
  refine Calls.mono (HR1.out _ HR.out) ?_
  rintro e w2 ⟨t1,v1,rfl,hv1,ht1,hr⟩
  have hz2:=HZ.out.ex hr.ex (by omega)
  have hlt:=HZ.out.lt
  have hv1':=hv1.mono (B':=w.heap.size+1) (by omega)
  obtain ⟨k1,x1,nm1,la1,ln1,lc1,wi1,n1,d1,aa1,an1,ac1,rfl⟩:=hv1.form
  have HT1:=hid_of ht1
  have hb:=bel1 w2 (.cells (rc k1 x1 nm1 (.slice la1 ln1 lc1) wi1 n1 d1 (.slice aa1 an1 ac1)) 55)
  have HR2:=hid_of ((HR.out.then hr).below hb)
  have hlt2:=hz2.lt
  have HP:=hid_of (P1.mk (g1:=w2.heap.size) (hz2.below hb) (hv1'.below hb) (new_1 w2 (.cells (rc k1 x1 nm1 (.slice la1 ln1 lc1) wi1 n1 d1 (.slice aa1 an1 ac1)) 55)))
  clear hv1 hv1' ht1 hr HR HZ hb HR1 hlt hz2
  go_upto_region 3 with fail
  generalize w2.alloc (.cells (rc k1 x1 nm1 (.slice la1 ln1 lc1) wi1 n1 d1 (.slice aa1 an1 ac1)) 55)=W3 at *
  generalize w2.heap.size=g1 at *
  go_wp2_with fail
  refine Calls.mono (HM3.out _ HR2.out) ?_
  rintro e w4 ⟨rfl,hr⟩
  have hR4:=HR2.out.then hr
  have hP4:=HP.out.ex hr.ex (by omega) hlt2
  have hb:=bel1 w4 (.cells #[.int .i64 4,.int .i64 5,.int .i64 6] 3)
  have HS:=hid_of (shp_new w4 4 5 6 3)
  have HR4:=hid_of (hR4.below hb)
  have HP4:=hid_of (hP4.below hb)
  clear hr hR4 hP4 hb HR2 HP HM3
  go_wp2_with fail
  refine Calls.mono (HNm'.out _ _ HR4.out HS.out) ?_
  rintro e w5 ⟨rfl,hr⟩
  have HR5:=hid_of (HR4.out.then hr)
  have HP5:=hid_of (HP4.out.ex hr.ex (by omega) hlt2)
  clear hr HR4 HP4 HS HNm'
  go_wp2_with fail
  refine Calls.mono (HM5.out _ HR5.out) ?_
  rintro e w6 ⟨rfl,hr⟩
  have HR6:=hid_of (HR5.out.then hr)
  have HP6:=hid_of (HP5.out.ex hr.ex (by omega) hlt2)
  clear hr HR5 HP5 HM5
  go_wp2_with fail
  refine Calls.mono (HR5'.out _ HR6.out) ?_
  rintro e w7 ⟨t2,v2,rfl,hv2,ht2,hr⟩
  have hP7:=HP6.out.ex hr.ex (by omega) hlt2
  have hs7:g1 < w6.heap.size:=(Array.getElem?_eq_some_iff.1 HP6.out.bx).1
  have hv2':=hv2.mono (B':=w.heap.size+1) (by omega)
  obtain ⟨k2,x2,nm2,la2,ln2,lc2,wi2,n2,d2,aa2,an2,ac2,rfl⟩:=hv2.form
  have HT2:=hid_of ht2
  have hb:=bel1 w7 (.cells (rc k2 x2 nm2 (.slice la2 ln2 lc2) wi2 n2 d2 (.slice aa2 an2 ac2)) 55)
  have HR8:=hid_of ((HR6.out.then hr).below hb)
  have HP8:=hid_of (hP7.below hb)
  have hlt7:=hP7.z.lt
  have HQ8:=hid_of (P1.mk (g1:=w7.heap.size) (hP7.z.below hb) (hv2'.below hb) (new_1 w7 (.cells (rc k2 x2 nm2 (.slice la2 ln2 lc2) wi2 n2 d2 (.slice aa2 an2 ac2)) 55)))
  clear hv2 hv2' ht2 hr HR6 HP6 hb HR5' hs7 hP7
  go_upto_region 7 with fail
  generalize w7.alloc (.cells (rc k2 x2 nm2 (.slice la2 ln2 lc2) wi2 n2 d2 (.slice aa2 an2 ac2)) 55)=W8 at *
  generalize w7.heap.size=g2 at *
  go_wp2_with fail
  refine Calls.mono (HM7.out _ HR8.out) ?_
  rintro e w9 ⟨rfl,hr⟩
  have hR9:=HR8.out.then hr
  have hP9:=HP8.out.ex hr.ex (by omega) hlt2
  have hQ9:=HQ8.out.ex hr.ex (by omega) hlt7
  obtain ⟨y0,y1,y2,y3,y4,y5,y6,y7⟩:=eight hP9.bx
  obtain ⟨u0,u1,u2,u3,u4,u5,u6,u7⟩:=eight hQ9.bx
  have hbA:=bel1 w9 (.cells #[.int .i64 k1,.float .f64 x1,.string ⟨nm1.toArray⟩,.slice la1 ln1 lc1,.int .i64 wi1,.int .i64 n1,.int .i64 d1,.slice aa1 an1 ac1,.int .i64 k2,.float .f64 x2,.string ⟨nm2.toArray⟩,.slice la2 ln2 lc2,.int .i64 wi2,.int .i64 n2,.int .i64 d2,.slice aa2 an2 ac2] 55)
  have hnA:=new_1 w9 (.cells #[.int .i64 k1,.float .f64 x1,.string ⟨nm1.toArray⟩,.slice la1 ln1 lc1,.int .i64 wi1,.int .i64 n1,.int .i64 d1,.slice aa1 an1 ac1,.int .i64 k2,.float .f64 x2,.string ⟨nm2.toArray⟩,.slice la2 ln2 lc2,.int .i64 wi2,.int .i64 n2,.int .i64 d2,.slice aa2 an2 ac2] 55)
  have hz10:=hP9.z.below hbA
  have hR10:=hR9.below hbA
  have hv1:=(hP9.rv.below hbA)
  have hv2:=(hQ9.rv.below hbA)
  have hg9:w.heap.size < w9.heap.size:=hP9.z.lt
  obtain ⟨z0,z1,z2,z3,z4,z5,z6,z7⟩:=eight hz10
  have zf:=eight_f hz10
  have HH:=hid_of (put8_heap hz10 (.int .i64 (kk:Int)) (.float .f64 0) (.string ⟨#[]⟩) (.slice none 0 0) (.int .i64 0) (.int .i64 0) (.int .i64 0) (.slice (some ⟨w9.heap.size,0,none⟩) 2 2))
  have HE:Hid (TellR T rb u w0 w.heap.size (.mk (kk:Int) 0 [] [] 0 0 0 [q1.1,q5.1],mst T [41] q5.2) (.returned (rx (kk:Int) 0 [] (.slice none 0 0) 0 0 0 (.slice (some ⟨w9.heap.size,0,none⟩) 2 2))) (put8 (w9.alloc (.cells #[.int .i64 k1,.float .f64 x1,.string ⟨nm1.toArray⟩,.slice la1 ln1 lc1,.int .i64 wi1,.int .i64 n1,.int .i64 d1,.slice aa1 an1 ac1,.int .i64 k2,.float .f64 x2,.string ⟨nm2.toArray⟩,.slice la2 ln2 lc2,.int .i64 wi2,.int .i64 n2,.int .i64 d2,.slice aa2 an2 ac2] 55)) w.heap.size (.int .i64 (kk:Int)) (.float .f64 0) (.string ⟨#[]⟩) (.slice none 0 0) (.int .i64 0) (.int .i64 0) (.int .i64 0) (.slice (some ⟨w9.heap.size,0,none⟩) 2 2))):=by
    refine ⟨.mk (kk:Int) 0 [] [] 0 0 0 [t1,t2],_,rfl,?_,?_,hR10.put8 (by omega) (by omega) (by omega) _ _ _ _ _ _ _ _⟩
    · generalize hW:w9.alloc (.cells #[.int .i64 k1,.float .f64 x1,.string ⟨nm1.toArray⟩,.slice la1 ln1 lc1,.int .i64 wi1,.int .i64 n1,.int .i64 d1,.slice aa1 an1 ac1,.int .i64 k2,.float .f64 x2,.string ⟨nm2.toArray⟩,.slice la2 ln2 lc2,.int .i64 wi2,.int .i64 n2,.int .i64 d2,.slice aa2 an2 ac2] 55)=W at *
      have hx:=put8_one W w.heap.size (.int .i64 (kk:Int)) (.float .f64 0) (.string ⟨#[]⟩) (.slice none 0 0) (.int .i64 0) (.int .i64 0) (.int .i64 0) (.slice (some ⟨w9.heap.size,0,none⟩) 2 2)
      have e1:=(hv1.ex hx (by omega)).mono (B':=w.heap.size) (by omega)
      have e2:=(hv2.ex hx (by omega)).mono (B':=w.heap.size) (by omega)
      have hn2:=(hx.block w9.heap.size (Array.getElem?_eq_some_iff.1 hnA).1 (by omega)).trans hnA
      generalize put8 W w.heap.size (.int .i64 (kk:Int)) (.float .f64 0) (.string ⟨#[]⟩) (.slice none 0 0) (.int .i64 0) (.int .i64 0) (.int .i64 0) (.slice (some ⟨w9.heap.size,0,none⟩) 2 2)=W2 at *
      unfold RV
      refine ⟨_,some ⟨w9.heap.size,0,none⟩,w9.heap.size,0,2,rfl,LbV.nil _ _,fun _=>⟨rfl,by omega⟩,by simp,by decide,?_⟩
      unfold RVs
      refine ⟨⟨_,e1,rfl,fun j hj=>?_⟩,?_⟩
      · exact at16 hn2 0 j hj
      · unfold RVs
        refine ⟨⟨_,e2,rfl,fun j hj=>?_⟩,?_⟩
        · exact at16 hn2 1 j hj
        · unfold RVs;trivial
    · intro e
      obtain ⟨a,b⟩:=HE7.out e
      rw [HT1.out a,HT2.out b]
  clear hR9 hP9 hQ9 hbA hnA hz10 hR10 hv1 hv2 hg9 hr HR8 HP8 HQ8 HM7 HE7 HT1 HT2
  go_upto_region 8 with fail
  go_wp2_with fail
  refine bodyPost_ret (results_cell_row (P:=Tryz.prog) rfl _ _ w.heap.size 55 _ (0,0) _ rfl HH.out Tryz.underlying55 rfl (by kernel_rfl)) rfl ?_
  exact HE.out
end Go.Proofs.YtbgdlbndammgnaaGreatDoor.Ru
/- RULES: THE READER: word; what keeps. Own work of the verifier. -/
set_option maxHeartbeats 1000000
namespace Go.Proofs.YtbgdlbndammgnaaGreatDoor.Ru
open Go.RowKit Me
theorem ite_e0 {c:Prop} [Decidable c] {s:St} {e a:Nat} (h:(if c then s else fl s e a).e=0):s.e=0:=by
  split at h
  · exact h
  · exact fl_e0 _ _ _ h
theorem ite_n {c:Prop} [Decidable c] (s:St) (e a:Nat):(if c then s else fl s e a).n=s.n:=by
  split
  · rfl
  · exact fl_n _ _ _
theorem Ok.ite {T:List UInt8} {c:Prop} [Decidable c] {s:St} {e a:Nat} (h:Ok T s) (ha:s.e=0→a≤T.length):Ok T (if c then s else Ru.fl s e a):=by
  split
  · exact h
  · exact h.fl ha
theorem shrF_n (T:List UInt8) (s:St):(shrF T s).2.2.n=s.n:=by
  unfold shrF
  dsimp only
  rw [mst_n,ite_n,cntF_n,mst_n,cntF_n]
theorem Ok.shrF {T:List UInt8} {s:St} (h:Ok T s):Ok T (shrF T s).2.2:=by
  unfold Ru.shrF
  dsimp only
  have h2:=h.cntF.mst (T:=T) [47]
  exact (h2.cntF.ite (fun _=>h2.a)).mst _
theorem winF_e0 (T:List UInt8) (s:St) (h:(winF T s).2.e=0):s.e=0:=by
  unfold winF at h
  dsimp only at h
  exact cntF_e0 _ _ (ite_e0 h)
theorem winF_n (T:List UInt8) (s:St):(winF T s).2.n=s.n:=by
  unfold winF
  dsimp only
  rw [ite_n,cntF_n]
theorem Ok.winF {T:List UInt8} {s:St} (h:Ok T s):Ok T (winF T s).2:=by
  unfold Ru.winF
  dsimp only
  exact h.cntF.ite (fun _=>h.a)
theorem serF_e0 (T:List UInt8) (s:St) (h:(serF T s).2.2.e=0):s.e=0:=by
  unfold serF at h
  dsimp only at h
  split at h
  · have:=mst_e0 _ _ _ h
    rw [ps_e] at this
    exact fl_e0 _ _ _ this
  · have:=mst_e0 _ _ _ h
    rw [ps_e] at this
    exact this
theorem serF_n (T:List UInt8) (s:St):(serF T s).2.2.n=s.n:=by
  unfold serF
  dsimp only
  split
  · rw [mst_n,ps_n,fl_n]
  · rw [mst_n,ps_n]
theorem Ok.serF {T:List UInt8} {s:St} (h:Ok T s):Ok T (serF T s).2.2:=by
  have hsl:=sLen_le (rst T s)
  unfold Ru.serF
  dsimp only
  split
  · rename_i z k hp
    have hf:=La.par_far _ _ _ hp
    rw [List.length_take] at hf
    obtain ⟨q,hq⟩:∃ q,q=(if z.toNat=0 then 5 else z.toNat):=⟨_,rfl⟩
    have hq0:q≠0:=by rw [hq];split <;> omega
    rw [← hq]
    have h1:Ok T (Ru.fl s q (s.a+k)):=h.fl (fun e=>by
      unfold rst at hf hsl
      rw [if_pos e] at hf hsl
      rw [List.length_drop] at hf hsl
      have:=h.a
      omega)
    rw [ps_err (fl_e _ _ _ hq0)]
    exact h1.mst _
  · exact (h.ps hsl).mst _
end Go.Proofs.YtbgdlbndammgnaaGreatDoor.Ru
