/- THE READER: a counter's line, where it is right. Own work of the verifier. -/
import Derived.Test.YtfkbjdgbpenflaaGreatDoorWBE
import Derived.Test.YtfkbjdgbpenflaaGreatDoorWAQ
import Derived.Deep.RegionHeld3
import Derived.Deep.AppendLies
import Derived.Lib.AppendZeros
import Derived.Deep.RegionLaw
set_option maxRecDepth 100000
set_option maxHeartbeats 4000000
namespace Go.Proofs.YtfkbjdgbpenflaaGreatDoor.Sc
open Go.RowKit Me
def cntR (name L:List UInt8):Option (List La.Lb × Int):=(spl L).bind fun ab=>(labR name ab.1).bind fun l=>(widR ab.2).map fun t=>(l,t)
theorem cntR_some {name S:List UInt8} {L:List La.Lb} {t:Int} (h:cntR name S=some (L,t)):∃ a b,spl S=some (a,b)∧labR name a=some L∧widR b=some t:=by
 unfold cntR at h
 cases h1:spl S with
 | none=>rw [h1] at h;cases h
 | some ab =>
  rw [h1] at h
  cases h2:labR name ab.1 with
  | none=>simp [h2] at h
  | some l =>
   cases h3:widR ab.2 with
   | none=>simp [h2,h3] at h
   | some t' =>
    simp [h2,h3] at h
    exact ⟨ab.1,ab.2,rfl,by rw [h2,h.1],by rw [h3,h.2]⟩
theorem spl_len {S a b:List UInt8} (h:spl S=some (a,b)):a.length≤S.length∧b.length≤S.length:=by
 unfold spl at h
 split at h
 ·simp only [Option.some.injEq,Prod.mk.injEq] at h
  obtain ⟨rfl,rfl⟩:=h
  simp only [List.length_take,List.length_drop]
  omega
 ·cases h
abbrev d4 (k:Int) (nm hp:List UInt8) (lv:Value):Array Value:=#[.int .i64 k,.string ⟨nm.toArray⟩,.string ⟨hp.toArray⟩,lv]
abbrev z11:Array Value:=#[.int .i64 0,.string ⟨#[]⟩,.string ⟨#[]⟩,.slice none 0 0,.int .i64 0,.int .u64 0,.slice none 0 0,.int .u64 0,.float .f64 0,.float .f64 0,.float .f64 0]
abbrev cvV (k:Int) (nm hp:List UInt8) (lv:Value) (t:Int):Array Value:=#[.int .i64 k,.string ⟨nm.toArray⟩,.string ⟨hp.toArray⟩,lv,.int .i64 (hiOf t),.int .u64 (loOf t),.slice none 0 0,.int .u64 0,.float .f64 0,.float .f64 0,.float .f64 0]
theorem store_f (W:World) (a:Addr) (x:Nat) (m:Mode):(store a (.float .f64 x) m).run Tryz.prog W=stored Tryz.prog W a (.float .f64 x) m:=run_store Tryz.prog W a _ m rfl
theorem elev {W:World} {b:Nat} {x0 x1 x2 x3 x4 x5 x6 x7 x8 x9 x10:Value} {t:TypeId} (h:W.heap[b]? =some (.cells #[x0,x1,x2,x3,x4,x5,x6,x7,x8,x9,x10] t)):W.cell? ⟨b,0,none⟩=some x0∧W.cell? ⟨b,1,none⟩=some x1∧W.cell? ⟨b,2,none⟩=some x2∧W.cell? ⟨b,3,none⟩=some x3∧W.cell? ⟨b,4,none⟩=some x4∧W.cell? ⟨b,5,none⟩=some x5∧W.cell? ⟨b,6,none⟩=some x6∧W.cell? ⟨b,7,none⟩=some x7∧W.cell? ⟨b,8,none⟩=some x8∧W.cell? ⟨b,9,none⟩=some x9∧W.cell? ⟨b,10,none⟩=some x10∧∀ o,W.frozen? ⟨b,o,none⟩=false:=by
 refine ⟨?_,?_,?_,?_,?_,?_,?_,?_,?_,?_,?_,fun o=>?_⟩ <;> simp [World.cell?,World.frozen?,h]
def put11 (W:World) (b:Nat) (y0 y1 y2 y3 y4 y5 y6 y7 y8 y9 y10:Value):World:=((((((((((W.setCell ⟨b,0,none⟩ y0).setCell ⟨b,1,none⟩ y1).setCell ⟨b,2,none⟩ y2).setCell ⟨b,3,none⟩ y3).setCell ⟨b,4,none⟩ y4).setCell ⟨b,5,none⟩ y5).setCell ⟨b,6,none⟩ y6).setCell ⟨b,7,none⟩ y7).setCell ⟨b,8,none⟩ y8).setCell ⟨b,9,none⟩ y9).setCell ⟨b,10,none⟩ y10
theorem put11_heap {W:World} {b:Nat} {x0 x1 x2 x3 x4 x5 x6 x7 x8 x9 x10:Value} {t:TypeId} (h:W.heap[b]? =some (.cells #[x0,x1,x2,x3,x4,x5,x6,x7,x8,x9,x10] t)) (y0 y1 y2 y3 y4 y5 y6 y7 y8 y9 y10:Value):(put11 W b y0 y1 y2 y3 y4 y5 y6 y7 y8 y9 y10).heap[b]? =some (.cells #[y0,y1,y2,y3,y4,y5,y6,y7,y8,y9,y10] t):=by
 have h0:(W.setCell ⟨b,0,none⟩ y0).heap[b]? =some (.cells #[y0,x1,x2,x3,x4,x5,x6,x7,x8,x9,x10] t):=by have:=Lib.heap_setCell_same (i:=0) h y0;simpa using this
 have h1:((W.setCell ⟨b,0,none⟩ y0).setCell ⟨b,1,none⟩ y1).heap[b]? =some (.cells #[y0,y1,x2,x3,x4,x5,x6,x7,x8,x9,x10] t):=by have:=Lib.heap_setCell_same (i:=1) h0 y1;simpa using this
 have h2:(((W.setCell ⟨b,0,none⟩ y0).setCell ⟨b,1,none⟩ y1).setCell ⟨b,2,none⟩ y2).heap[b]? =some (.cells #[y0,y1,y2,x3,x4,x5,x6,x7,x8,x9,x10] t):=by have:=Lib.heap_setCell_same (i:=2) h1 y2;simpa using this
 have h3:((((W.setCell ⟨b,0,none⟩ y0).setCell ⟨b,1,none⟩ y1).setCell ⟨b,2,none⟩ y2).setCell ⟨b,3,none⟩ y3).heap[b]? =some (.cells #[y0,y1,y2,y3,x4,x5,x6,x7,x8,x9,x10] t):=by have:=Lib.heap_setCell_same (i:=3) h2 y3;simpa using this
 have h4:(((((W.setCell ⟨b,0,none⟩ y0).setCell ⟨b,1,none⟩ y1).setCell ⟨b,2,none⟩ y2).setCell ⟨b,3,none⟩ y3).setCell ⟨b,4,none⟩ y4).heap[b]? =some (.cells #[y0,y1,y2,y3,y4,x5,x6,x7,x8,x9,x10] t):=by have:=Lib.heap_setCell_same (i:=4) h3 y4;simpa using this
 have h5:((((((W.setCell ⟨b,0,none⟩ y0).setCell ⟨b,1,none⟩ y1).setCell ⟨b,2,none⟩ y2).setCell ⟨b,3,none⟩ y3).setCell ⟨b,4,none⟩ y4).setCell ⟨b,5,none⟩ y5).heap[b]? =some (.cells #[y0,y1,y2,y3,y4,y5,x6,x7,x8,x9,x10] t):=by have:=Lib.heap_setCell_same (i:=5) h4 y5;simpa using this
 have h6:(((((((W.setCell ⟨b,0,none⟩ y0).setCell ⟨b,1,none⟩ y1).setCell ⟨b,2,none⟩ y2).setCell ⟨b,3,none⟩ y3).setCell ⟨b,4,none⟩ y4).setCell ⟨b,5,none⟩ y5).setCell ⟨b,6,none⟩ y6).heap[b]? =some (.cells #[y0,y1,y2,y3,y4,y5,y6,x7,x8,x9,x10] t):=by have:=Lib.heap_setCell_same (i:=6) h5 y6;simpa using this
 have h7:((((((((W.setCell ⟨b,0,none⟩ y0).setCell ⟨b,1,none⟩ y1).setCell ⟨b,2,none⟩ y2).setCell ⟨b,3,none⟩ y3).setCell ⟨b,4,none⟩ y4).setCell ⟨b,5,none⟩ y5).setCell ⟨b,6,none⟩ y6).setCell ⟨b,7,none⟩ y7).heap[b]? =some (.cells #[y0,y1,y2,y3,y4,y5,y6,y7,x8,x9,x10] t):=by have:=Lib.heap_setCell_same (i:=7) h6 y7;simpa using this
 have h8:(((((((((W.setCell ⟨b,0,none⟩ y0).setCell ⟨b,1,none⟩ y1).setCell ⟨b,2,none⟩ y2).setCell ⟨b,3,none⟩ y3).setCell ⟨b,4,none⟩ y4).setCell ⟨b,5,none⟩ y5).setCell ⟨b,6,none⟩ y6).setCell ⟨b,7,none⟩ y7).setCell ⟨b,8,none⟩ y8).heap[b]? =some (.cells #[y0,y1,y2,y3,y4,y5,y6,y7,y8,x9,x10] t):=by have:=Lib.heap_setCell_same (i:=8) h7 y8;simpa using this
 have h9:((((((((((W.setCell ⟨b,0,none⟩ y0).setCell ⟨b,1,none⟩ y1).setCell ⟨b,2,none⟩ y2).setCell ⟨b,3,none⟩ y3).setCell ⟨b,4,none⟩ y4).setCell ⟨b,5,none⟩ y5).setCell ⟨b,6,none⟩ y6).setCell ⟨b,7,none⟩ y7).setCell ⟨b,8,none⟩ y8).setCell ⟨b,9,none⟩ y9).heap[b]? =some (.cells #[y0,y1,y2,y3,y4,y5,y6,y7,y8,y9,x10] t):=by have:=Lib.heap_setCell_same (i:=9) h8 y9;simpa using this
 have h10:(((((((((((W.setCell ⟨b,0,none⟩ y0).setCell ⟨b,1,none⟩ y1).setCell ⟨b,2,none⟩ y2).setCell ⟨b,3,none⟩ y3).setCell ⟨b,4,none⟩ y4).setCell ⟨b,5,none⟩ y5).setCell ⟨b,6,none⟩ y6).setCell ⟨b,7,none⟩ y7).setCell ⟨b,8,none⟩ y8).setCell ⟨b,9,none⟩ y9).setCell ⟨b,10,none⟩ y10).heap[b]? =some (.cells #[y0,y1,y2,y3,y4,y5,y6,y7,y8,y9,y10] t):=by have:=Lib.heap_setCell_same (i:=10) h9 y10;simpa using this
 exact h10
theorem Rd.put11 {u:World} {rb:Nat} {w0 W:World} {T:List UInt8} {n:Nat} (h:Rd u rb w0 T n W) (b:Nat) (y0 y1 y2 y3 y4 y5 y6 y7 y8 y9 y10:Value) (hne:b≠rb) (hlo:w0.heap.size≤b) (hu:u.heap.size≤b):Rd u rb w0 T n (put11 W b y0 y1 y2 y3 y4 y5 y6 y7 y8 y9 y10) :=
 (((((((((((h.put ⟨b,0,none⟩ _ hne hlo hu).put ⟨b,1,none⟩ _ hne hlo hu).put ⟨b,2,none⟩ _ hne hlo hu).put ⟨b,3,none⟩ _ hne hlo hu).put ⟨b,4,none⟩ _ hne hlo hu).put ⟨b,5,none⟩ _ hne hlo hu).put ⟨b,6,none⟩ _ hne hlo hu).put ⟨b,7,none⟩ _ hne hlo hu).put ⟨b,8,none⟩ _ hne hlo hu).put ⟨b,9,none⟩ _ hne hlo hu).put ⟨b,10,none⟩ _ hne hlo hu)
theorem own_far {W:World} {B b:Nat} {v:Value} {L:List La.Lb} (h:La.OwnL B v L W) (hb:b < B):v.ownBlock≠some b:=by
 rcases h.2 with ⟨k,_⟩ | ⟨g,cap,cur,k1,k2,_⟩
 ·rw [k];simp [Value.ownBlock]
 ·rw [k1]
  simp only [Value.ownBlock]
  intro e
  cases e
  omega
theorem own_belL {W W1:World} {B:Nat} {v:Value} {L:List La.Lb} (h:La.OwnL B v L W) (hb:Below W.heap.size W W1):La.OwnL B v L W1:=own_belG h hb
theorem own_set1 {W:World} {B b:Nat} {v:Value} {L:List La.Lb} (h:La.OwnL B v L W) (hb:v.ownBlock≠some b) {a:Addr} (x:Value) (ha:a.block=b:=by rfl):La.OwnL B v L (W.setCell a x):=by
 refine ⟨h.1,?_⟩
 rcases h.2 with k | ⟨g,cap,cur,k1,k2,k3,k4⟩
 ·exact Or.inl k
 ·refine Or.inr ⟨g,cap,cur,k1,k2,?_,k4⟩
  rw [heap_other _ _ _ _ (fun e=>hb (by rw [k1];simp only [Value.ownBlock];rw [e,ha]))]
  exact k3
theorem own_put11 {W:World} {B b:Nat} {v:Value} {L:List La.Lb} (h:La.OwnL B v L W) (hb:v.ownBlock≠some b) (y0 y1 y2 y3 y4 y5 y6 y7 y8 y9 y10:Value):La.OwnL B v L (put11 W b y0 y1 y2 y3 y4 y5 y6 y7 y8 y9 y10):=by
 exact (own_set1 (own_set1 (own_set1 (own_set1 (own_set1 (own_set1 (own_set1 (own_set1 (own_set1 (own_set1 (own_set1 h hb (a:=⟨b,0,none⟩) y0) hb (a:=⟨b,1,none⟩) y1) hb (a:=⟨b,2,none⟩) y2) hb (a:=⟨b,3,none⟩) y3) hb (a:=⟨b,4,none⟩) y4) hb (a:=⟨b,5,none⟩) y5) hb (a:=⟨b,6,none⟩) y6) hb (a:=⟨b,7,none⟩) y7) hb (a:=⟨b,8,none⟩) y8) hb (a:=⟨b,9,none⟩) y9) hb (a:=⟨b,10,none⟩) y10)
theorem own_put {W:World} {B b o:Nat} {v:Value} {L:List La.Lb} (h:La.OwnL B v L W) (hb:b < B) (x:Value):La.OwnL b v L (W.setCell ⟨b,o,none⟩ x):=by
 refine ⟨h.1,?_⟩
 rcases h.2 with k | ⟨g,cap,cur,k1,k2,k3,k4⟩
 ·exact Or.inl k
 ·refine Or.inr ⟨g,cap,cur,k1,by omega,?_,k4⟩
  rw [heap_other _ _ _ _ (by show g≠b;omega)]
  exact k3
theorem counter_ok (u:World) (rb:Nat) (T nm hp:List UInt8) (k:Int) (lv:Value) (n:Nat) (L:List La.Lb) (t:Int) (w:World) (h:Rd u rb w T n w) (hm:Mx u) (ht:Wi.Tab u) (hT:T.length≤4194304) (hn:n≤4611686018427387904) (hc:(cut10 T).2.2=true) (hR:cntR nm (cut10 T).1=some (L,t)) :
  Calls Tryz.prog 135 #[.pointer (some ⟨rb,0,none⟩),.agg (d4 k nm hp lv)] w fun e w'=>∃ v,e=.returned (.agg (cvV k nm hp v t))∧Rd u rb w (cut10 T).2.1 (n+1) w'∧La.OwnL w.heap.size v L w':=by
 obtain ⟨a,b,hsp,hlb,hwd⟩:=cntR_some hR
 obtain ⟨W0,hW0⟩:∃ W0,W0=(w.alloc (.cells (d4 k nm hp lv) 41)).alloc (.cells z11 45):=⟨_,rfl⟩
 have hb0:Below w.heap.size w W0:=by rw [hW0];exact bt (bel1 _ _) (bel1 _ _)
 have hN3:W0.heap[w.heap.size]? =some (.cells (d4 k nm hp lv) 41):=by rw [hW0];exact hkN' (new_1 w _) (bel1 _ _)
 have hN4:W0.heap[w.heap.size+1]? =some (.cells z11 45):=by
  rw [hW0]
  have:=new_1 (w.alloc (.cells (d4 k nm hp lv) 41)) (.cells z11 45)
  rwa [show (w.alloc (.cells (d4 k nm hp lv) 41)).heap.size=w.heap.size+1 by simp] at this
 have h0:=h.below hb0
 have hlt:=h.lt
 have HNu:La.HidC _ _ _ _ _:=numbered_any u rb T n W0 W0 h0.re hm hT hn
 have hl:=(cut_len T).1
 obtain ⟨hla,hlb2⟩:=spl_len hsp
 have HLb:Hid (∀ S W,Rd u rb W0 S (n+1) W→Calls Tryz.prog 165 #[.pointer (some ⟨rb,0,none⟩),.string ⟨nm.toArray⟩,.string ⟨a.toArray⟩] W fun e w'=>∃ v,e=.returned v∧La.OwnL W.heap.size v L w'∧Below W.heap.size W w'):=fun S W k=>by
  refine Calls.mono (labels_any u rb S nm a (n+1) W0 W k (by omega)) ?_
  rintro e w' ⟨hb,⟨L',v,q1,q2,q3⟩ | ⟨q,_⟩⟩
  ·rw [hlb] at q1;cases q1;exact ⟨v,q2,q3,hb⟩
  ·rw [hlb] at q;cases q
 have HWd:Hid (∀ S w1 W,Rd u rb w1 S (n+1) W→Calls Tryz.prog 53 #[.pointer (some ⟨rb,0,none⟩),.string ⟨b.toArray⟩] W fun e w'=>e=.returned (.agg #[.int .i64 (hiOf t),.int .u64 (loOf t)])∧Below W.heap.size W w'):=fun S w1 W k=>by
  refine Calls.mono (rwide_any u rb S b (n+1) w1 W k ht) ?_
  rintro e w' ⟨hb,⟨t',q1,q2⟩ | ⟨q,_⟩⟩
  ·rw [hwd] at q1;cases q1;exact ⟨q2,hb⟩
  ·rw [hwd] at q;cases q
 have hne:w.heap.size≠rb:=by omega
 have HW0:=hid_of hW0
 have H0:=hid_of h0
 have HN3:=hid_of hN3
 have HN4:=hid_of hN4
 have HUs:Hid (u.heap.size≤w.heap.size):=h.st.size
 have HSz:Hid (w.heap.size+2≤W0.heap.size):=by rw [hW0];simp [Hid]
 clear h hm ht hT hn hl hla hlb2 hW0 hN3 hN4 hb0 h0 hR hwd hlb
 go_enter Tryz.func135,Tryz.ntmps135
 go_upto_region 1 with fail
 rw [← HW0.out]
 clear HW0
 go_wp2_with fail
 refine Calls.mono HNu.out ?_
 rintro e w1 (⟨a',b',k1,k2,rfl,hr⟩ | ⟨k1,k2,-,-⟩ | ⟨k1,-,-⟩)
 ·rw [hsp] at k2
  cases k2
  have hx3:=hr.ch.at_ HN3.out hne
  have hx4:=hr.ch.at_ HN4.out (by show w.heap.size+1≠rb;omega)
  obtain ⟨c0,c1,c2,c3⟩:=four_cells hx3
  have D2:La.HidC _ _ _ _ _:=HLb.out _ w1 hr
  have HR1:=hid_of hr
  have HX3:=hid_of hx3
  have HX4:=hid_of hx4
  clear HNu HLb hsp hc k1 hr hx3 hx4 HN3 HN4
  go_wp2_with fail
  refine Calls.mono D2.out ?_
  rintro e w2 ⟨v,rfl,ho,hb2⟩
  obtain ⟨ao,g,cap,rfl,-⟩:=own_form ho
  have hy3:=hkN' HX3.out hb2
  have f3:w2.frozen? ⟨w.heap.size,3,none⟩=false:=by simp [World.frozen?,hy3]
  obtain ⟨e0,e1,e2,e3⟩:=four_cells hy3
  have hs1:w.heap.size < w1.heap.size:=by have:=HR1.out.ch.size;have:=HSz.out;omega
  have HR3:Hid (Rd u rb w (cut10 T).2.1 (n+1) (w2.setCell ⟨w.heap.size,3,none⟩ (.slice ao L.length cap))):=(H0.out.then (HR1.out.below hb2)).put ⟨w.heap.size,3,none⟩ _ hne (Nat.le_refl _) HUs.out
  have HZ3:Hid ((w2.setCell ⟨w.heap.size,3,none⟩ (.slice ao L.length cap)).heap[w.heap.size]? =some (.cells (d4 k nm hp (.slice ao L.length cap)) 41)):=by
   have:=Lib.heap_setCell_same (i:=3) hy3 (.slice ao L.length cap)
   unfold Hid
   simpa using this
  have HZ4:Hid ((w2.setCell ⟨w.heap.size,3,none⟩ (.slice ao L.length cap)).heap[w.heap.size+1]? =some (.cells z11 45)):=by
   show _=_
   rw [heap_other _ _ _ _ (by show w.heap.size+1≠w.heap.size;omega)]
   exact hkN' HX4.out hb2
  have HOn:Hid ((Value.slice ao L.length cap).ownBlock≠some (w.heap.size+1)):=own_far ho (by have:=HR1.out.ch.size;have:=HSz.out;omega)
  have HO3:Hid (La.OwnL w.heap.size (.slice ao L.length cap) L (w2.setCell ⟨w.heap.size,3,none⟩ (.slice ao L.length cap))):=own_put ho hs1 _
  clear D2 c0 c1 c2 c3 ho hb2 HX3 HX4 HR1 H0 hs1
  go_upto_region 3 with fail
  generalize w2.setCell ⟨w.heap.size,3,none⟩ (.slice ao L.length cap)=w3 at *
  clear e0 e1 e2 e3 f3 hy3
  obtain ⟨e0,e1,e2,e3⟩:=four_cells HZ3.out
  have HQ:Hid (∀ w9,Below w3.heap.size w3 w9→Rd u rb w (cut10 T).2.1 (n+1) (put11 w9 (w.heap.size+1) (.int .i64 k) (.string ⟨nm.toArray⟩) (.string ⟨hp.toArray⟩) (.slice ao L.length cap) (.int .i64 (hiOf t)) (.int .u64 (loOf t)) (.slice none 0 0) (.int .u64 0) (.float .f64 0) (.float .f64 0) (.float .f64 0))∧La.OwnL w.heap.size (.slice ao L.length cap) L (put11 w9 (w.heap.size+1) (.int .i64 k) (.string ⟨nm.toArray⟩) (.string ⟨hp.toArray⟩) (.slice ao L.length cap) (.int .i64 (hiOf t)) (.int .u64 (loOf t)) (.slice none 0 0) (.int .u64 0) (.float .f64 0) (.float .f64 0) (.float .f64 0))):=fun w9 hb=>⟨(HR3.out.below hb).put11 _ _ _ _ _ _ _ _ _ _ _ _ (by omega) (by omega) (by have:=HUs.out;omega),own_put11 (own_belL HO3.out hb) HOn.out _ _ _ _ _ _ _ _ _ _ _⟩
  have HE:Hid (∀ w9,Below w3.heap.size w3 w9→w9.heap[w.heap.size+1]? =some (.cells z11 45)):=fun w9 hb=>hkN' HZ4.out hb
  have HE3:Hid (∀ w9,Below w3.heap.size w3 w9→w9.heap[w.heap.size]? =some (.cells (d4 k nm hp (.slice ao L.length cap)) 41)):=fun w9 hb=>hkN' HZ3.out hb
  have sF:=store_f
  clear hne hlt HUs HSz HO3 HOn
  go_region_with (first
   | (go_at_call 53;(with_reducible refine Calls.mono (HWd.out _ _ _ (HR3.out.below (bel_dn (Below.refl _ _) 1))) ?_);rintro e w9 ⟨rfl,hb9⟩;have hB9:=bt (bel_dn (Below.refl _ _) 1) hb9;obtain ⟨y0,y1,y2,y3,y4,y5,y6,y7,y8,y9,y10,f⟩:=elev (HE.out w9 hB9);obtain ⟨g0,g1,g2,g3⟩:=four_cells (HE3.out w9 hB9)))
  all_goals
   obtain ⟨hq1,hq2⟩:=HQ.out w9 hB9
   have HF:=hid_of hq1
   have HG:=hid_of hq2
   have hph:=put11_heap (HE.out w9 hB9) (.int .i64 k) (.string ⟨nm.toArray⟩) (.string ⟨hp.toArray⟩) (.slice ao L.length cap) (.int .i64 (hiOf t)) (.int .u64 (loOf t)) (.slice none 0 0) (.int .u64 0) (.float .f64 0) (.float .f64 0) (.float .f64 0)
   change Exit.then _ _ Exit.normal _ (put11 w9 (w.heap.size+1) (.int .i64 k) (.string ⟨nm.toArray⟩) (.string ⟨hp.toArray⟩) (.slice ao L.length cap) (.int .i64 (hiOf t)) (.int .u64 (loOf t)) (.slice none 0 0) (.int .u64 0) (.float .f64 0) (.float .f64 0) (.float .f64 0))
   clear y0 y1 y2 y3 y4 y5 y6 y7 y8 y9 y10 f g0 g1 g2 g3 hq1 hq2 hb9 hB9 HQ HE HE3 sF HWd
   generalize put11 w9 (w.heap.size+1) (.int .i64 k) (.string ⟨nm.toArray⟩) (.string ⟨hp.toArray⟩) (.slice ao L.length cap) (.int .i64 (hiOf t)) (.int .u64 (loOf t)) (.slice none 0 0) (.int .u64 0) (.float .f64 0) (.float .f64 0) (.float .f64 0)=W9 at *
   have HPH:=hid_of hph
   clear hph
   go_wp2_with fail
   refine bodyPost_ret (results_cell_row (P:=Tryz.prog) rfl _ _ (w.heap.size+1) 45 _ (0,0) _ rfl HPH.out Tryz.underlying45 rfl (by kernel_rfl)) rfl ?_
   exact ⟨_,rfl,HF.out,HG.out⟩
 ·rw [hsp] at k2;cases k2
 ·rw [hc] at k1;cases k1
theorem own_mono {W:World} {B b:Nat} {v:Value} {L:List La.Lb} (h:La.OwnL B v L W) (hb:b≤B):La.OwnL b v L W:=by
 refine ⟨h.1,?_⟩
 rcases h.2 with k | ⟨g,cap,cur,k1,k2,k3⟩
 ·exact Or.inl k
 ·exact Or.inr ⟨g,cap,cur,k1,by omega,k3⟩
noncomputable def lstE (s:Sn):Int:=(chkS ⟨s.p,s.vs.drop (s.vs.length - 2),s.r⟩).1
abbrev sn3 (s:Sn) (v:Value):Array Value:=#[.int .i64 s.p,v,.int .u64 (s.r:Int)]
theorem last_any (s:Sn) (v:Value) (h:SnW s) (w:World) (hv:SV w v s.vs) (h1:1≤s.vs.length) (h2:s.vs.length≤256) :
  Calls Tryz.prog 97 #[.agg (sn3 s v)] w fun e w'=>e=.returned (.int .i64 (lstE s))∧Below w.heap.size w w':=by
 rcases hv with ⟨rfl,k⟩ | ⟨b,o,cap,rfl,hcap,hcap2,hr⟩
 ·rw [k] at h1;simp at h1
 have HCk:Hid (∀ W,Below w.heap.size w W→Calls Tryz.prog 5 #[.agg (sn3 s (.slice (some ⟨b,o+(s.vs.length - 2)*11,none⟩) (s.vs.length - (s.vs.length - 2)) (cap - (s.vs.length - 2))))] W fun e w'=>∃ z,e=two (lstE s) z∧Below W.heap.size W w'):=fun W hW=>by
  refine Calls.mono (check_any ⟨s.p,s.vs.drop (s.vs.length - 2),s.r⟩ _ ⟨fun x hx=>h.vs x (List.mem_of_mem_drop hx),h.r⟩ W ⟨_,rfl,Or.inr ⟨b,o+(s.vs.length - 2)*11,cap - (s.vs.length - 2),?_,?_,by omega,(hr.below hW).drop _⟩⟩) ?_
  ·simp only [List.length_drop]
  ·simp only [List.length_drop];omega
  ·rintro e w' ⟨he,hb⟩
   exact ⟨_,he,hb⟩
 generalize hm:s.vs.length=m at *
 obtain ⟨W0,hW0⟩:∃ W0,W0=w.alloc (.cells (sn3 s (.slice (some ⟨b,o,none⟩) m cap)) 25):=⟨_,rfl⟩
 have hb0:Below w.heap.size w W0:=by rw [hW0];exact bel1 _ _
 have hN:W0.heap[w.heap.size]? =some (.cells (sn3 s (.slice (some ⟨b,o,none⟩) m cap)) 25):=by rw [hW0];exact new_1 w _
 have c0:W0.cell? ⟨w.heap.size,0,none⟩=some (.int .i64 s.p):=by simp [World.cell?,hN]
 have c1:W0.cell? ⟨w.heap.size,1,none⟩=some (.slice (some ⟨b,o,none⟩) m cap):=by simp [World.cell?,hN]
 have c2:W0.cell? ⟨w.heap.size,2,none⟩=some (.int .u64 (s.r:Int)):=by simp [World.cell?,hN]
 have f1:W0.frozen? ⟨w.heap.size,1,none⟩=false:=by simp [World.frozen?,hN]
 have hmx:(max ((m:Int) - 2) 0).toNat=m - 2:=by omega
 have HMx:=hid_of hmx
 have HW0:=hid_of hW0
 have HB0:=hid_of hb0
 have HCp:=hid_of hcap
 have HH1:=hid_of h1
 clear hW0 hN hb0 hr hm h hmx hcap
 go_enter Tryz.func97,Tryz.ntmps97
 go_upto_region 1 with fail
 rw [← HW0.out]
 clear HW0
 go_wp2_with fail
 ·rename_i hq
  exfalso
  have:=HMx.out
  have:=HCp.out
  omega
 ·rw [HMx.out]
  have HB1:Hid (Below w.heap.size w (W0.setCell ⟨w.heap.size,1,none⟩ (.slice (some ⟨b,o+(m - 2)*11,none⟩) (m - (m - 2)) (cap - (m - 2))))):=Below.setCell (p:=⟨w.heap.size,1,none⟩) HB0.out (Nat.le_refl _) _
  refine Calls.mono (HCk.out _ HB1.out) ?_
  rintro e w2 ⟨z,rfl,hb2⟩
  have HB2:=hid_of (bt HB1.out hb2)
  clear HCk HMx hb2 HB1 HB0
  go_wp2_with fail
  go_ret
  exact ⟨rfl,HB2.out⟩
end Go.Proofs.YtfkbjdgbpenflaaGreatDoor.Sc
namespace Go.Proofs.YtfkbjdgbpenflaaGreatDoor
open Go.RowKit Me
abbrev Rv:Type:=Vl × Value × Value
abbrev cl (r:Rv):List Value:=[.int .i64 r.1.d.kind,.string ⟨r.1.d.name.toArray⟩,.string ⟨r.1.d.help.toArray⟩,r.2.1,.int .i64 (hiOf r.1.t),.int .u64 (loOf r.1.t),r.2.2,.int .u64 (r.1.n:Int),.float .f64 r.1.sum,.float .f64 r.1.mn,.float .f64 r.1.mx]
def flV:List Rv→List Value
 | []=>[]
 | r::L=>cl r++flV L
theorem flV_length (L:List Rv):(flV L).length=L.length*11:=by
 induction L with
 | nil=>rfl
 | cons c L ih=>simp only [flV,List.length_append,List.length_cons,ih,List.length_nil];omega
theorem flV_append (A B:List Rv):flV (A++B)=flV A++flV B:=by
 induction A with
 | nil=>rfl
 | cons c A ih=>simp only [List.cons_append,flV,ih,List.append_assoc]
theorem flV_get (L:List Rv) (i j:Nat) (h:i < L.length) (hj:j < 11):(flV L)[i*11+j]? =(cl L[i])[j]?:=by
 induction L generalizing i with
 | nil=>simp at h
 | cons c L ih =>
  cases i with
  | zero =>
   rw [flV,List.getElem?_append_left (by simp;omega)]
   simp
  | succ i =>
   rw [flV,List.getElem?_append_right (by simp;omega)]
   have:=ih i (by simpa using h)
   rw [show (i+1)*11+j - (cl c).length=i*11+j by simp;omega]
   exact this
def Lz (R:List Rv):Prop:=∀ r ∈ R,r.2.1.oneCell'=true∧r.2.2.oneCell'=true
theorem flV_one (L:List Rv) (hz:Lz L):∀ u ∈ flV L,u.oneCell'=true:=by
 induction L with
 | nil=>intro u hu;cases hu
 | cons c L ih =>
  intro u hu
  simp only [flV,List.mem_append] at hu
  rcases hu with hu | hu
  ·obtain ⟨h1,h2⟩:=hz c List.mem_cons_self
   simp only [cl,List.mem_cons,List.not_mem_nil,or_false] at hu
   rcases hu with rfl | rfl | rfl | rfl | rfl | rfl | rfl | rfl | rfl | rfl | rfl <;> first | rfl | exact h1 | exact h2
  ·exact ih (fun r hr=>hz r (List.mem_cons_of_mem _ hr)) u hu
def RowR (W:World) (b o:Nat) (R:List Rv):Prop:=∀ i (h:i < R.length),C11 W b (o+i*11) R[i].1 R[i].2.1 R[i].2.2
def Ls (W:World) (R:List Rv):Prop:=∀ r ∈ R,SLb W r.2.1 r.1.d.labels∧SN W r.2.2 r.1.cs
theorem RowR.row {W:World} {b o:Nat} {R:List Rv} (h:RowR W b o R) (k:Ls W R):RowV W b o (R.map (·.1)):=fun i hi=>by
 have hi':i < R.length:=by simpa using hi
 refine ⟨R[i].2.1,R[i].2.2,?_,?_⟩
 ·have:=h i hi'
  simpa using this
 ·have:=k R[i] (List.getElem_mem hi')
  simpa using this
theorem own_row {W:World} {B g n cap:Nat} {R:List Rv} (h:W.ownsRow B 45 11 (.slice (some ⟨g,0,none⟩) n cap) n (flV R)) (hn:n=R.length):RowR W g 0 R:=fun i hi=>by
 subst hn
 have key:∀ j,j < 11→W.cell? ⟨g,0+i*11+j,none⟩=(cl R[i])[j]?:=fun j hj=>by
  have:=h.cellAt (i*11+j) (by omega)
  rw [show 0+i*11+j=i*11+j by omega,this]
  exact flV_get R i j hi hj
 exact ⟨key 0 (by omega),key 1 (by omega),key 2 (by omega),key 3 (by omega),key 4 (by omega),key 5 (by omega),key 6 (by omega),key 7 (by omega),key 8 (by omega),key 9 (by omega),key 10 (by omega)⟩
structure GV (B:Nat) (W0:World) (v:Value) (R:List Rv) (w:World):Prop where
 own:w.ownsRow B 45 11 v R.length (flV R)
 below:Below B W0 w
 size:B≤w.heap.size
theorem own_slice {W:World} {B:Nat} {e:TypeId} {s n:Nat} {v:Value} {xs:List Value} (h:W.ownsRow B e s v n xs):∃ ao g cap,v=.slice ao n cap∧(0 < n→ao=some ⟨g,0,none⟩)∧n≤cap∧cap≤9223372036854775807:=by
 rcases h.2 with ⟨q,q2⟩ | ⟨g,cap,cur,q,_,_,h3,h4,_⟩
 ·exact ⟨none,0,0,by rw [q,q2],fun k=>by omega,by omega,by omega⟩
 ·exact ⟨_,g,cap,q,fun _=>rfl,h3,by unfold maxLen at h4;omega⟩
theorem GV.sv {B:Nat} {W0 w:World} {v:Value} {R:List Rv} (h:GV B W0 v R w) (hl:Ls w R):SV w v (R.map (·.1)):=by
 rcases h.own.2 with ⟨q,q2⟩ | ⟨g,cap,cur,q,_,_,h3,h4,_⟩
 ·have:R=[]:=List.length_eq_zero_iff.1 q2
  subst this
  exact Or.inl ⟨q,rfl⟩
 ·subst q
  refine Or.inr ⟨g,0,cap,by simp,by simpa using h3,by unfold maxLen at h4;omega,(own_row h.own rfl).row hl⟩
end Go.Proofs.YtfkbjdgbpenflaaGreatDoor
namespace Go.Proofs.YtfkbjdgbpenflaaGreatDoor.Sc
open Go.RowKit Me
def OwC (B:Nat) (v:Value) (L:List Cn) (W:World):Prop:=W.ownsRow B 79 2 v L.length (fl L)
structure Ss (u:World) (rb sb B:Nat) (p:Int) (r:Nat) (v:Value) (R:List Rv) (T:List UInt8) (n:Nat) (W:World):Prop where
 rd:Rd u rb W T n W
 sn:W.heap[sb]? =some (.cells #[.int .i64 p,v,.int .u64 (r:Int)] 25)
 own:W.ownsRow B 45 11 v R.length (flV R)
 el:∀ q ∈ R,La.OwnL B q.2.1 q.1.d.labels W∧OwC B q.2.2 q.1.cs W
 rB:rb < B
 sB:sb < B
 us:u.heap.size≤sb
 ne:sb≠rb
 sz:B≤W.heap.size
 vw:∀ q ∈ R,VW q.1
 r64:r < 18446744073709551616
theorem typesLV:(85:TypeId)≠45:=by decide
theorem typesCV:(79:TypeId)≠45:=by decide
theorem own_neG {W:World} {B b:Nat} {e:TypeId} {s n:Nat} {v:Value} {xs:List Value} (h:W.ownsRow B e s v n xs) (hb:b < B):v.ownBlock≠some b:=by
 rcases own_atG h with k | ⟨g,k,k1,_⟩
 ·rw [k];intro e;cases e
 ·rw [k];intro e;cases e;omega
theorem Ss.keep {u:World} {rb sb B:Nat} {p:Int} {r:Nat} {v:Value} {R:List Rv} {T:List UInt8} {n:Nat} {W W':World} (h:Ss u rb sb B p r v R T n W) (hb:Below W.heap.size W W'):Ss u rb sb B p r v R T n W' :=
 ⟨(h.rd.below hb).re,hkN' h.sn hb,own_belG h.own hb,fun q hq=>⟨own_belG (h.el q hq).1 hb,own_belG (h.el q hq).2 hb⟩,h.rB,h.sB,h.us,h.ne,by have:=hb.size;have:=h.sz;omega,h.vw,h.r64⟩
theorem Ss.called {u:World} {rb sb B:Nat} {p:Int} {r:Nat} {v:Value} {R:List Rv} {T T':List UInt8} {n n':Nat} {W W':World} (h:Ss u rb sb B p r v R T n W) (k:Rd u rb W T' n' W'):Ss u rb sb B p r v R T' n' W':=by
 have hn:∀ {e:TypeId} {s m:Nat} {y:Value} {xs:List Value},W.ownsRow B e s y m xs→W'.ownsRow B e s y m xs:=fun q=>k.ch.row q (fun x hx hx2=>own_neG q h.rB (by rw [hx,hx2]))
 exact ⟨k.re,k.ch.at_ h.sn h.ne,hn h.own,fun q hq=>⟨hn (h.el q hq).1,hn (h.el q hq).2⟩,h.rB,h.sB,h.us,h.ne,by have:=k.ch.size;have:=h.sz;omega,h.vw,h.r64⟩
theorem Ss.push {u:World} {rb sb B:Nat} {p:Int} {r:Nat} {v v':Value} {R:List Rv} {T:List UInt8} {n:Nat} {W W':World} {q:Rv} (h:Ss u rb sb B p r v R T n W) (hl:La.OwnL B q.2.1 q.1.d.labels W) (hc:OwC B q.2.2 q.1.cs W) (hw:VW q.1) (hown:W'.ownsRow B 45 11 v' (R.length+1) (flV R++flV [q])) (hg:W.grownBy W' v.ownBlock) :
  Ss u rb sb B p r v' (R++[q]) T n (W'.setCell ⟨sb,1,none⟩ v')∧Chg (fun b=>b=sb∨v.ownBlock=some b) W (W'.setCell ⟨sb,1,none⟩ v'):=by
 have hc1:Chg (fun b=>v.ownBlock=some b) W W':=Chg.of_grown hg (fun x e=>e)
 have hc2:Chg (fun b=>b=sb∨v.ownBlock=some b) W (W'.setCell ⟨sb,1,none⟩ v'):=(Chg.trans (S:=fun b=>b=sb∨v.ownBlock=some b) ⟨hc1.os,hc1.tape,hc1.output,hc1.size,fun k hk hn=>hc1.block k hk (fun e=>hn (Or.inr e))⟩ (chg_set W' ⟨sb,1,none⟩ v') (fun x e=>Or.inl (Or.inl e)))
 have hsW:=hc1.at_ h.sn (own_neG h.own h.sB)
 have hrW:=hc2.at_ h.rd.at_ (by rintro (e | e);exact h.ne e.symm;exact own_neG h.own h.rB e)
 have hne:∀ {e:TypeId} {s m:Nat} {y:Value} {xs:List Value},W.ownsRow B e s y m xs→e≠45→(W'.setCell ⟨sb,1,none⟩ v').ownsRow B e s y m xs:=fun k ke=>hc2.row k (fun x hx=>by
  rintro (e | e)
  ·exact own_neG k h.sB (by rw [hx,e])
  ·rcases own_apart k h.own ke with o | o
   ·rw [o] at hx;cases hx
   ·exact o (by rw [hx,e]))
 have hst:Below u.heap.size u (W'.setCell ⟨sb,1,none⟩ v'):=h.rd.st.trans (hc2.below (by have:=h.rd.st.size;omega) (fun x e=>by
  rcases e with e | e
  ·have:=h.us;omega
  ·rcases own_atG h.own with o | ⟨g,o,o1,_⟩
   ·rw [o] at e;cases e
   ·rw [o] at e;cases e;have:=h.us;have:=h.sB;omega))
 refine ⟨⟨⟨hrW,Chg.refl _ _,h.rd.lo,hst⟩,?_,?_,fun z hz=>?_,h.rB,h.sB,h.us,h.ne,by have:=hc2.size;have:=h.sz;omega,fun z hz=>?_,h.r64⟩,hc2⟩
 ·have:=Lib.heap_setCell_same (i:=1) hsW v'
  simpa using this
 ·rw [List.length_append,List.length_singleton,flV_append]
  exact (chg_set W' ⟨sb,1,none⟩ v').row hown (fun x hx e=>own_neG hown h.sB (by rw [hx,e]))
 ·rcases List.mem_append.1 hz with k | k
  ·exact ⟨hne (h.el z k).1 typesLV,hne (h.el z k).2 typesCV⟩
  ·rw [List.mem_singleton] at k
   subst k
   exact ⟨hne hl typesLV,hne hc typesCV⟩
 ·rcases List.mem_append.1 hz with k | k
  ·exact h.vw z k
  ·rw [List.mem_singleton] at k
   subst k
   exact hw
theorem step_sv {w:World} {ops:Array Oper} {o:Oper} {a:Act} {K:Act→World→Prop} {Q:Exit→Act→World→Prop} {E:Prop} (hgd:o.guard=none) (s x:Operand)
  (ho:o.op=.call { callee:=.builtin .append,args:=#[s,x],argTypes:=#[22,22] }) {B:Nat} {v:Value} {R:List Rv} (hs:a.eval s=v) (hG:w.ownsRow B 45 11 v R.length (flV R)) (hB:B≤w.heap.size) (hl:R.length≤1048576) (k:Nat) (hx:a.eval x=.slice (some ⟨k,0,none⟩) 1 1) (r:Rv) (hr:Lz [r])
  (hk:w.heap[k]? =some (.cells (cl r).toArray 45 (0,0)))
  (hh:∀ g cap w',w'.ownsRow B 45 11 (.slice (some ⟨g,0,none⟩) (R.length+1) cap) (R.length+1) (flV R++flV [r])→w.grownBy w' v.ownBlock→K (a.put o.dst (.slice (some ⟨g,0,none⟩) (R.length+1) cap)) w') :
  if Region.wanted o (yielded ops a.tmps)=true then Oper.wp Tryz.prog o a w K Q else E:=by
 obtain ⟨i0,hi,hz0,hz1,hz2⟩:=info_parts infoV
 refine step_append_lies w hgd s x _ ho B 45 i0 (.agg #[.int .i64 0,.string ⟨#[]⟩,.string ⟨#[]⟩,.slice none 0 0,.int .i64 0,.int .u64 0,.slice none 0 0,.int .u64 0,.float .f64 0,.float .f64 0,.float .f64 0]) 11 136 Tryz.underlying22 hi hz0 hz1 hz2 rfl (by decide) v R.length (flV R) hs hG ⟨k,0,none⟩ 1 1 (flV [r]) hx (by rw [flV_length];rfl) (World.news_of_block (by simpa [flV] using hk)) (flV_one _ hr) (by omega) (by unfold maxLen;omega) (by omega) hB _ rfl ?_
 intro g cap w' h1 h2 h3 h4
 exact hh g cap w' h1 h2
theorem own_slb {B:Nat} {v:Value} {L:List La.Lb} {W:World} (h:La.OwnL B v L W):SLb W v L:=by
 rcases h.2 with ⟨h1,h2⟩ | ⟨g,cap,cur,hv,hg,hh,h3,h4,h5,h6⟩
 ·exact Or.inl ⟨h1,List.length_eq_zero_iff.1 h2⟩
 ·refine Or.inr (Or.inl ⟨g,0,cap,hv,h3,by unfold maxLen at h4;omega,fun i hi=>?_⟩)
  obtain ⟨e1,e2⟩:=La.flL_get L i hi
  rw [← h6,List.getElem?_take,if_pos (by omega)] at e1
  rw [← h6,List.getElem?_take,if_pos (by omega)] at e2
  rw [Array.getElem?_toList] at e1 e2
  constructor
  ·show W.cell? ⟨g,0+i*2,none⟩=_
   rw [Nat.zero_add]
   simp [World.cell?,hh,e1]
  ·show W.cell? ⟨g,0+i*2+1,none⟩=_
   rw [Nat.zero_add]
   simp [World.cell?,hh,e2]
theorem own_snc {B:Nat} {v:Value} {L:List Cn} {W:World} (h:OwC B v L W) (hB:B≤W.heap.size):SN W v L:=GC.sn (B:=B) (W0:=W) ⟨h,⟨rfl,rfl,rfl,Nat.le_refl _,fun _ _=>rfl⟩,hB⟩
theorem Ss.sv {u:World} {rb sb B:Nat} {p:Int} {r:Nat} {v:Value} {R:List Rv} {T:List UInt8} {n:Nat} {W:World} (h:Ss u rb sb B p r v R T n W):SV W v (R.map (·.1)) :=
 (GV.mk (W0:=W) (B:=B) h.own (Below.refl _ _) h.sz).sv (fun q hq=>⟨own_slb (h.el q hq).1,own_snc (h.el q hq).2 h.sz⟩)
end Go.Proofs.YtfkbjdgbpenflaaGreatDoor.Sc
