/- THE ITERATOR over those of a window. Own work of the verifier. -/
import Derived.Test.YtlgkfeeclgcgbaaGreatDoorZBH
import Derived.Test.YtlgkfeeclgcgbaaGreatDoorZBA
import Derived.Test.YtlgkfeeclgcgbaaGreatDoorZBF
import Derived.Laws.OwnMore
import Derived.Sort.CutIn
set_option maxRecDepth 100000
set_option maxHeartbeats 4000000
namespace Go.Proofs.YtlgkfeeclgcgbaaGreatDoor.Ri
open Go.RowKit Go.Shelf Me
attribute [local go_sem] Oper.semAt_some
def inW (T:List Int) (k N:Nat) (fr tO:Int) (i:Nat):Bool:=decide (fr < T.getD (plc k i N) 0) && decide (T.getD (plc k i N) 0≤tO)
def wL (T:List Int) (R:List Rs) (k:Nat) (fr tO:Int):List Rs:=((List.range R.length).filter (inW T k R.length fr tO)).map fun i=>R.getD (plc k i R.length) dR
def encB (T:List Int) (R:List Rs) (k:Nat) (fr tO:Int) (j:Nat):Array Value:=#[sx ((wL T R k fr tO).getD j dR)]
def cnt (T:List Int) (N k:Nat) (fr tO:Int) (i:Nat):Nat:=((List.range i).filter (inW T k N fr tO)).length
theorem cnt_all (T:List Int) (R:List Rs) (k:Nat) (fr tO:Int):cnt T R.length k fr tO R.length=(wL T R k fr tO).length:=by unfold cnt wL;rw [List.length_map]
theorem wL_at {T:List Int} {R:List Rs} {k:Nat} {fr tO:Int} {i:Nat} (hi:i < R.length) (h:inW T k R.length fr tO i=true):(wL T R k fr tO).getD (cnt T R.length k fr tO i) dR=R.getD (plc k i R.length) dR:=by
 unfold wL cnt
 rw [List.getD,List.getElem?_map,filt_at _ _ _ hi h]
 rfl
theorem cnt_lt {T:List Int} {R:List Rs} {k:Nat} {fr tO:Int} {i:Nat} (hi:i < R.length) (h:inW T k R.length fr tO i=true):cnt T R.length k fr tO i < (wL T R k fr tO).length:=by
 rw [← cnt_all]
 exact filt_lt _ _ _ hi h
theorem all_in (m b:Nat) (w:World):CallsIn Fence.wide m Tryz.prog 34 #[.pointer (some ⟨b,0,none⟩)] w fun e w'=>e=.returned (.func (.func 52) #[] #[.pointer (some ⟨w.heap.size,0,none⟩)])∧w'=w.alloc (.cells #[.pointer (some ⟨b,0,none⟩)] 33):=by
 refine callsIn_of_wp Tryz.func34 rfl trivial ?_ rfl
 simp only [Tryz.ntmps34,List.size_toArray,List.length_cons,List.length_nil,Nat.reduceAdd,Nat.reduceSub,Array.replicate_succ,Array.replicate_zero,List.push_toArray,List.append_toArray,List.nil_append,List.cons_append]
 gi_wp2
 go_ret
 exact ⟨rfl,rfl⟩
theorem yield_bool {P:Program} {l:Nat} {args:Array Value} {m m' l' n0 B:Nat} {W:World} {J Jx:World→Prop} (h:YieldAt Fence.wide m P l args W fun e W'=>(e=.returned (.bool true)∧Mid n0 B W W'∧J W')∨(e=.returned (.bool false)∧MidX n0 B l W W'∧Jx W')) :
  YieldAt (Fence.wide.inRound l') m' P l args W fun e W'=>∃ c:Bool,e=.returned (.bool c)∧Hid ((c=true→Mid n0 B W W'∧J W')∧(c=false→MidX n0 B l W W'∧Jx W')):=(yield_any h).mono (by
 rintro e w (⟨rfl,h1,h2⟩ | ⟨rfl,h3,h4⟩)
 ·exact ⟨true,rfl,fun _=>⟨h1,h2⟩,fun k=>by cases k⟩
 ·exact ⟨false,rfl,(fun k=>by cases k),fun _=>⟨h3,h4⟩⟩)
structure Bw (l Bf Bt By:Nat) (fr tO:Int) (W:World):Prop where
 f:W.cell? ⟨Bf,0,none⟩=some (.int .i64 fr)
 t:W.cell? ⟨Bt,0,none⟩=some (.int .i64 tO)
 y:W.cell? ⟨By,0,none⟩=some (.func (.yield l) #[] #[])
theorem Tn.cell {B:Nat} {a:Addr} {W W1:World} {u:Value} (h:Tn B W W1) (e:W.cell? a=some u):W1.cell? a=some u:=by
 unfold World.cell? at e ⊢
 generalize hq:W.heap[a.block]? =q at e
 match q,e with
 | some (.cells c t z),e=>rw [h.cells hq];exact e
theorem Bw.tn {l Bf Bt By B:Nat} {fr tO:Int} {W W1:World} (h:Bw l Bf Bt By fr tO W) (hb:Tn B W W1):Bw l Bf Bt By fr tO W1:=⟨hb.cell h.f,hb.cell h.t,hb.cell h.y⟩
theorem cell_of_heap {W W1:World} {b:Nat} (h:W1.heap[b]? =W.heap[b]?) (i:Nat):W1.cell? ⟨b,i,none⟩=W.cell? ⟨b,i,none⟩:=by unfold World.cell?;rw [h]
theorem Bw.mid {l Bf Bt By n0 B:Nat} {fr tO:Int} {W W1:World} (h:Bw l Bf Bt By fr tO W) (hb:Mid n0 B W W1) (h1:B≤Bf) (h2:B≤Bt) (h3:B≤By):Bw l Bf Bt By fr tO W1 :=
 ⟨(cell_of_heap (hb.block Bf (World.block_lt_of_cell? W _ h.f) (by omega)) 0).trans h.f,(cell_of_heap (hb.block Bt (World.block_lt_of_cell? W _ h.t) (by omega)) 0).trans h.t,(cell_of_heap (hb.block By (World.block_lt_of_cell? W _ h.y) (by omega)) 0).trans h.y⟩
theorem three_cells0 {W:World} {b:Nat} {x y z:Value} {t:TypeId} (h:W.heap[b]? =some (.cells #[x,y,z] t (0,0))):W.cell? ⟨b,0,none⟩=some x∧W.cell? ⟨b,1,none⟩=some y∧W.cell? ⟨b,2,none⟩=some z∧W.frozen? ⟨b,0,none⟩=false∧W.frozen? ⟨b,1,none⟩=false∧W.frozen? ⟨b,2,none⟩=false :=
 ⟨by simp [World.cell?,h],by simp [World.cell?,h],by simp [World.cell?,h],by simp [World.frozen?,h],by simp [World.frozen?,h],by simp [World.frozen?,h]⟩
theorem between_seq (m Br Bf Bt n0 B b k tg tc sg sc:Nat) (T:List Int) (R:List Rs) (ta sa:Option Addr) (fr tO:Int) (w:World) (h1:w.cell? ⟨Br,0,none⟩=some (.pointer (some ⟨b,0,none⟩))) (h2:w.cell? ⟨Bf,0,none⟩=some (.int .i64 fr)) (h3:w.cell? ⟨Bt,0,none⟩=some (.int .i64 tO)) (hBr:B≤Br) (hBf:B≤Bf) (hBt:B≤Bt) (hn:n0≤B) (hR:∀ W,Below n0 w W→Rw b T R k tg tc sg sc ta sa W) :
  SeqX Tryz.prog m 294 #[.pointer (some ⟨Br,0,none⟩),.pointer (some ⟨Bf,0,none⟩),.pointer (some ⟨Bt,0,none⟩)] n0 B (wL T R k fr tO).length (encB T R k fr tO) w:=by
 intro l J Jx W hWb hsz hl hlW hJ hJx hY h0
 have z1:Br < w.heap.size:=World.block_lt_of_cell? w _ h1
 have z2:Bf < w.heap.size:=World.block_lt_of_cell? w _ h2
 have z3:Bt < w.heap.size:=World.block_lt_of_cell? w _ h3
 have g1:W.cell? ⟨Br,0,none⟩=some (.pointer (some ⟨b,0,none⟩)):=cellB hWb h1
 have g2:W.cell? ⟨Bf,0,none⟩=some (.int .i64 fr):=cellB hWb h2
 have g3:W.cell? ⟨Bt,0,none⟩=some (.int .i64 tO):=cellB hWb h3
 have HR:=hid_of hR
 have HA:Hid (∀ W,_):=all_in (m - 1) b
 clear h1 h2 h3
 have g1':=cellB (bel1 W (.cells #[.func (.yield l) #[] #[]] 77)) g1
 refine callsIn_of_wp_marks Tryz.func294 rfl trivial ?_ rfl
 simp only [Tryz.ntmps294,List.size_toArray,List.length_cons,List.length_nil,Nat.reduceAdd,Nat.reduceSub,Array.replicate_succ,Array.replicate_zero,List.push_toArray,List.append_toArray,List.nil_append,List.cons_append]
 gi_wp2_with (refine ⟨trivial,(fun h=>by simp [Fence.wide] at h),?_⟩;gi_at_call 34;refine (HA.out _).mono ?_;rintro e w' ⟨rfl,rfl⟩)
 have HBl:=hid_of (bt (bel1 W (.cells #[.func (.yield l) #[] #[]] 77)) (bel1 _ (.cells #[.pointer (some ⟨b,0,none⟩)] 33)))
 have n1:=new_1 W (.cells #[.func (.yield l) #[] #[]] 77)
 have n2:=new_1 (W.alloc (.cells #[.func (.yield l) #[] #[]] 77)) (.cells #[.pointer (some ⟨b,0,none⟩)] 33)
 have n1':=hkN n1 (bel1 _ (.cells #[.pointer (some ⟨b,0,none⟩)] 33))
 have hs2:((W.alloc (.cells #[.func (.yield l) #[] #[]] 77)).alloc (.cells #[.pointer (some ⟨b,0,none⟩)] 33)).heap.size=W.heap.size+2:=by simp
 rw [show (W.alloc (.cells #[.func (.yield l) #[] #[]] 77)).heap.size=W.heap.size+1 by simp] at n2
 obtain ⟨W0,hW0⟩:∃ W0,(W.alloc (.cells #[.func (.yield l) #[] #[]] 77)).alloc (.cells #[.pointer (some ⟨b,0,none⟩)] 33)=W0:=⟨_,rfl⟩
 rw [hW0] at HBl n1' n2 hs2 ⊢
 clear hW0 n1 g1'
 have HW:Hid (Bw l Bf Bt W.heap.size fr tO W0):=⟨cellB HBl.out g2,cellB HBl.out g3,by simp [World.cell?,n1']⟩
 have HZ:Hid (n0≤w.heap.size∧w.heap.size≤W.heap.size∧W0.heap.size=W.heap.size+2∧w.heap.size≤l∧l < W.heap.size∧B≤l∧n0≤l∧Bf < W.heap.size∧Bt < W.heap.size):=⟨by omega,hsz,hs2,hl,hlW,by omega,by omega,by omega,by omega⟩
 refine wpIn_rangeFunc_seqX (gf:=52) (lb:=#[.pointer (some ⟨W.heap.size+1,0,none⟩)]) (n0:=n0) (B:=l+1) (N:=R.length) (encs:=encR T R k) rfl (enters_of Tryz.func52 (by kernel_rfl) rfl) (by omega)
  (all_seq (m - 1) (W.heap.size+1) n0 (l+1) b k tg tc sg sc T R ta sa W0 (by simp [World.cell?,n2]) (by omega) (by omega) (fun W1 hb=>hR W1 (((hWb.mono (by omega)).trans (HBl.out.mono (by omega))).trans hb))) (fun _=>rfl)
  (fun i W1=>J (cnt T R.length k fr tO i) W1∧Hid (Bw l Bf Bt W.heap.size fr tO W1)) (fun c i W1=>c=.ret∧∃ j,j≤(wL T R k fr tO).length∧Jx j W1)
  (fun i A A' h hb=>⟨hJ _ _ _ h.1 (hb.mono (by omega)),h.2.out.tn hb⟩) (fun c i A A' h hb=>⟨h.1,h.2.imp fun j q=>⟨q.1,hJx _ _ _ q.2 (hb.mono (by omega))⟩⟩) ⟨hJ _ _ _ h0 (Tn.of HBl.out),HW⟩ ?round ?done ?stop
 case round =>
  clear n1' n2 HW g1 g2 g3
  rintro l' i W1 hi hl1 hl2 ⟨hJi,HBw⟩
  unfold encR
  have HYi:Hid (inW T k R.length fr tO i=true→∀ W2,J (cnt T R.length k fr tO i) W2→YieldAt (Fence.wide.inRound l') (m - 1 - 1 - 1) Tryz.prog l #[sx (R.getD (plc k i R.length) dR)] W2 fun e W'=>∃ c:Bool,e=.returned (.bool c)∧Hid ((c=true→Mid n0 B W2 W'∧J (cnt T R.length k fr tO i+1) W')∧(c=false→MidX n0 B l W2 W'∧Jx (cnt T R.length k fr tO i+1) W'))):=fun hin W2 hj=>by
   have:=yield_bool (l':=l') (m':=m - 1 - 1 - 1) (hY _ W2 (cnt_lt hi hin) hj)
   unfold encB at this
   rw [wL_at hi hin] at this
   exact this
  have HCl:Hid (inW T k R.length fr tO i=true→cnt T R.length k fr tO i < (wL T R k fr tO).length):=fun h=>cnt_lt hi h
  have HCy:Hid (inW T k R.length fr tO i=true→cnt T R.length k fr tO (i+1)=cnt T R.length k fr tO i+1):=fun h=>filt_yes _ _ h
  have HCn:Hid (inW T k R.length fr tO i=false→cnt T R.length k fr tO (i+1)=cnt T R.length k fr tO i):=fun h=>filt_no _ _ h
  have hin:inW T k R.length fr tO i=(decide (fr < T.getD (plc k i R.length) 0) && decide (T.getD (plc k i R.length) 0≤tO)):=rfl
  obtain ⟨ra,rn,rc,hrs⟩:=(hR w (Below.refl _ _)).slD (plc k i R.length)
  generalize T.getD (plc k i R.length) 0=x at *
  generalize R.getD (plc k i R.length) dR=r at *
  obtain ⟨rs,rv⟩:=r
  dsimp only at hrs HYi
  subst hrs
  generalize cnt T R.length k fr tO i=c0 at *
  generalize inW T k R.length fr tO i=qin at *
  clear hY
  gi_wp2
  refine ⟨(Below.refl _ _).alloc (Nat.le_refl _) _,?_⟩
  rintro W2 ⟨hJ2,HB2⟩ hs2 hot
  have hnb:=(hot W1.heap.size (by omega)).trans (World.alloc_heap_new W1 _)
  obtain ⟨v0,v1,v2,-,-,-⟩:=three_cells0 hnb
  have f1:=HB2.out.f
  have f2:=HB2.out.t
  have f3:=HB2.out.y
  have HS2:Hid (W1.heap.size < W2.heap.size):=(Array.getElem?_eq_some_iff.1 hnb).1
  clear hnb hot hs2
  by_cases q1:fr < x
  ·by_cases q2:x≤tO
   ·have hq:qin=true:=by rw [hin];simp [q1,q2]
    subst hq
    obtain ⟨fn,tmps,assign,body,hy,hRd⟩:=HYi.out rfl W2 hJ2
    clear hin
    have HCl':=hid_of (HCl.out rfl)
    have HCy':=hid_of (HCy.out rfl)
    clear HCl HCy HCn HYi hJ2
    gi_wp2
    refine ⟨fun h=>by simp [Fence.wide] at h,hRd.mono ?_⟩
    rintro e W4 ⟨c,rfl,HQ⟩
    cases c with
    | true =>
     obtain ⟨hM,hJ4⟩:=HQ.out.1 rfl
     clear HQ
     gi_wp2
     refine ⟨mid_wide hM (by have:=HZ.out;omega),?_⟩
     show J (cnt T R.length k fr tO (i+1)) W4∧_
     rw [HCy'.out]
     exact ⟨hJ4,HB2.out.mid hM hBf hBt (by have:=HZ.out;omega)⟩
    | false =>
     obtain ⟨hM,hJ4⟩:=HQ.out.2 rfl
     clear HQ
     gi_wp2
     exact ⟨hM.mid (by have:=HZ.out;omega) (by have:=HZ.out;omega),rfl,c0+1,HCl'.out,hJ4⟩
   ·have hq:qin=false:=by rw [hin];simp [q2]
    have hq2:¬ x≤tO:=q2
    gi_wp2
    refine ⟨fun _ h=>(by cases h),?_⟩
    gi_wp2
    refine ⟨Mid.refl _ _ _,?_⟩
    show J (cnt T R.length k fr tO (i+1)) W2∧_
    rw [HCn.out hq]
    exact ⟨hJ2,HB2⟩
  ·have hq:qin=false:=by rw [hin];simp [q1]
   gi_wp2
   refine ⟨fun _ h=>(by cases h),?_⟩
   gi_wp2
   refine ⟨Mid.refl _ _ _,?_⟩
   show J (cnt T R.length k fr tO (i+1)) W2∧_
   rw [HCn.out hq]
   exact ⟨hJ2,HB2⟩
 case done =>
  rintro D W1 hD ⟨hJi,-⟩ hK
  gi_wp2
  refine ⟨by simp,.inl ⟨_,_,rfl,run_takeDeferred hK,?_⟩⟩
  refine ⟨_,results_none rfl _ _ _,⟨_,rfl⟩,.inl ?_⟩
  rw [← cnt_all]
  exact hJ _ _ _ hJi (Tn.putD hK (by omega) _)
 case stop =>
  rintro D c i W1 hD hiN ⟨rfl,j,hj,hJj⟩ hK
  gi_wp2
  refine ⟨by simp,.inl ⟨_,_,rfl,run_takeDeferred hK,?_⟩⟩
  refine ⟨_,results_none rfl _ _ _,⟨_,rfl⟩,.inr ⟨j,hj,?_⟩⟩
  exact hJx _ _ _ hJj (Tn.putD hK (by omega) _)
end Go.Proofs.YtlgkfeeclgcgbaaGreatDoor.Ri
/- THE RING'S copied. Own work of the verifier. -/
namespace Go.Proofs.YtlgkfeeclgcgbaaGreatDoor.Ri
open Go.RowKit Me
theorem flV_put:∀ (J:List Rv) (m j:Nat) (u:Value) (r:Rv) (hm:m < J.length) (_:j < 11) (_:(cl J[m]).set j u=cl r),(flV J).set (m*11+j) u=flV (J.set m r)
 | [],m,_,_,_,hm,_,_=>absurd hm (by simp)
 | c::L,0,j,u,r,_,hj,h=>by
  show (cl c++flV L).set (0*11+j) u=cl r++flV L
  rw [show 0*11+j=j by omega,List.set_append_left _ _ (by simp;omega)]
  have h':(cl c).set j u=cl r:=h
  rw [h']
 | c::L,m+1,j,u,r,hm,hj,h=>by
  show (cl c++flV L).set ((m+1)*11+j) u=cl c++flV (L.set m r)
  rw [List.set_append_right _ _ (by simp;omega),show (m+1)*11+j - (cl c).length=m*11+j by simp;omega]
  have hm':m < L.length:=by simpa using hm
  have h':(cl L[m]).set j u=cl r:=h
  rw [flV_put L m j u r hm' hj h']
structure Cq (w:World) (s:Sn) (v:Value) (J:List Rv) (i c:Nat) (W:World):Prop where
 g1:W.heap[w.heap.size]? =some (.cells #[.int .i64 s.p,v,.int .u64 (s.r:Int)] 50 (0,0))
 g2:W.heap[w.heap.size+1]? =some (.cells #[.int .i64 0,.slice none 0 0,.int .u64 0] 50 (0,0))
 own:W.ownsRow (w.heap.size+2) 86 11 v J.length (flV J)
 nl:∀ j (h:j < J.length),j < i→OwnL (w.heap.size+2) J[j].2.1 J[j].1.d.labels W
 nc:∀ j (h:j < J.length),j < c→OwnC (w.heap.size+2) J[j].2.2 J[j].1.cs W
 ol:∀ j (h:j < J.length),i≤j→SLb w J[j].2.1 J[j].1.d.labels
 oc:∀ j (h:j < J.length),c≤j→SN w J[j].2.2 J[j].1.cs
 dl:∀ a b (ha:a < J.length) (hb:b < J.length),a < i→b < i→a≠b→Ap J[a].2.1 J[b].2.1
 dc:∀ a b (ha:a < J.length) (hb:b < J.length),a < c→b < c→a≠b→Ap J[a].2.2 J[b].2.2
 mp:J.map (·.1)=s.vs
 bl:Below w.heap.size w W
theorem Cq.size {w W:World} {s:Sn} {v:Value} {J:List Rv} {i c:Nat} (h:Cq w s v J i c W):w.heap.size+2≤W.heap.size:=(Array.getElem?_eq_some_iff.1 h.g2).1
theorem Cq.g {w W:World} {s:Sn} {J:List Rv} {i c g cap:Nat} (h:Cq w s (.slice (some ⟨g,0,none⟩) J.length cap) J i c W):w.heap.size+2≤g∧g < W.heap.size:=h.own.lt g rfl
theorem map_set {J:List Rv} {i:Nat} {r:Rv} (hi:i < J.length) (e:r.1=J[i].1):(J.set i r).map (·.1)=J.map (·.1):=by
 apply List.ext_getElem
 ·simp
 ·intro j h1 h2
  simp only [List.getElem_map,List.getElem_set]
  split
  ·next q=>subst q;exact e
  ·rfl
theorem Cq.lab {w W W5:World} {s:Sn} {J:List Rv} {i c g cap:Nat} {u:Value} (h:Cq w s (.slice (some ⟨g,0,none⟩) J.length cap) J i c W) (hi:i < J.length) (hb:Below W.heap.size W W5) (hl:OwnL W.heap.size u J[i].1.d.labels W5) :
  Cq w s (.slice (some ⟨g,0,none⟩) (J.set i (J[i].1,u,J[i].2.2)).length cap) (J.set i (J[i].1,u,J[i].2.2)) (i+1) c (W5.setCell ⟨g,i*11+3,none⟩ u):=by
 obtain ⟨hg1,hg2⟩:=h.g
 have own5:=own_belG h.own hb
 obtain ⟨s0,-⟩:=own5.stored (i*11+3) u
 rw [flV_put J i 3 u (J[i].1,u,J[i].2.2) hi (by omega) rfl] at s0
 have key:∀ {e:TypeId} {v:Value} {n:Nat} {xs:List Value},W5.ownsRow (w.heap.size+2) e 2 v n xs→e≠86→(W5.setCell ⟨g,i*11+3,none⟩ u).ownsRow (w.heap.size+2) e 2 v n xs:=fun {e v n xs} k ke=>by
  refine own_set k ?_ u
  rcases own_apart k own5 ke with q | q
  ·rw [q];simp
  ·exact q
 have hz:∀ j (hj:j < (J.set i (J[i].1,u,J[i].2.2)).length),(J.set i (J[i].1,u,J[i].2.2))[j].1=(J[j]'(by simpa using hj)).1∧(J.set i (J[i].1,u,J[i].2.2))[j].2.2=(J[j]'(by simpa using hj)).2.2∧(j≠i→(J.set i (J[i].1,u,J[i].2.2))[j].2.1=(J[j]'(by simpa using hj)).2.1)∧(j=i→(J.set i (J[i].1,u,J[i].2.2))[j].2.1=u):=fun j hj=>by
  rw [List.getElem_set]
  split
  ·next q=>subst q;exact ⟨rfl,rfl,fun k=>absurd rfl k,fun _=>rfl⟩
  ·next q=>exact ⟨rfl,rfl,fun _=>rfl,fun k=>absurd k.symm q⟩
 refine ⟨?_,?_,by rw [List.length_set];exact s0,fun j hj hlt=>?_,fun j hj hlt=>?_,fun j hj hle=>?_,fun j hj hle=>?_,fun a b ha hb' h1 h2 hne=>?_,fun a b ha hb' h1 h2 hne=>?_,?_,?_⟩
 ·rw [heap_other _ _ _ _ (by show _≠g;omega),List.length_set]
  exact hkN h.g1 hb
 ·rw [heap_other _ _ _ _ (by show _≠g;omega)]
  exact hkN h.g2 hb
 ·obtain ⟨e1,-,e3,e4⟩:=hz j hj
  rw [e1]
  by_cases q:j=i
  ·subst q
   rw [e4 rfl]
   exact key (own_leG hl h.size) typesLV
  ·rw [e3 q]
   exact key (own_belG (h.nl j (by simpa using hj) (by omega)) hb) typesLV
 ·obtain ⟨e1,e2,-,-⟩:=hz j hj
  rw [e1,e2]
  exact key (own_belG (h.nc j (by simpa using hj) hlt) hb) typesCV
 ·obtain ⟨e1,-,e3,-⟩:=hz j hj
  rw [e1,e3 (by omega)]
  exact h.ol j (by simpa using hj) (by omega)
 ·obtain ⟨e1,e2,-,-⟩:=hz j hj
  rw [e1,e2]
  exact h.oc j (by simpa using hj) hle
 ·obtain ⟨-,-,a3,a4⟩:=hz a ha
  obtain ⟨-,-,b3,b4⟩:=hz b hb'
  by_cases qa:a=i
  ·rw [a4 qa,b3 (by omega)]
   exact ap_sym (ap_of (h.nl b (by simpa using hb') (by omega)) hl)
  ·rw [a3 qa]
   by_cases qb:b=i
   ·rw [b4 qb]
    exact ap_of (h.nl a (by simpa using ha) (by omega)) hl
   ·rw [b3 qb]
    exact h.dl a b _ _ (by omega) (by omega) hne
 ·obtain ⟨-,a2,-,-⟩:=hz a ha
  obtain ⟨-,b2,-,-⟩:=hz b hb'
  rw [a2,b2]
  exact h.dc a b _ _ h1 h2 hne
 ·exact (map_set (r:=(J[i].1,u,J[i].2.2)) hi rfl).trans h.mp
 ·exact Below.setCell (p:=⟨g,i*11+3,none⟩) (bt h.bl hb) (by show w.heap.size≤g;omega) u
theorem Cq.cnt {w W W5:World} {s:Sn} {J:List Rv} {i c g cap:Nat} {u:Value} (h:Cq w s (.slice (some ⟨g,0,none⟩) J.length cap) J i c W) (hi:c < J.length) (hb:Below W.heap.size W W5) (hl:OwnC W.heap.size u J[c].1.cs W5) :
  Cq w s (.slice (some ⟨g,0,none⟩) (J.set c (J[c].1,J[c].2.1,u)).length cap) (J.set c (J[c].1,J[c].2.1,u)) i (c+1) (W5.setCell ⟨g,c*11+6,none⟩ u):=by
 obtain ⟨hg1,hg2⟩:=h.g
 have own5:=own_belG h.own hb
 obtain ⟨s0,-⟩:=own5.stored (c*11+6) u
 rw [flV_put J c 6 u (J[c].1,J[c].2.1,u) hi (by omega) rfl] at s0
 have key:∀ {e:TypeId} {v:Value} {n:Nat} {xs:List Value},W5.ownsRow (w.heap.size+2) e 2 v n xs→e≠86→(W5.setCell ⟨g,c*11+6,none⟩ u).ownsRow (w.heap.size+2) e 2 v n xs:=fun {e v n xs} k ke=>by
  refine own_set k ?_ u
  rcases own_apart k own5 ke with q | q
  ·rw [q];simp
  ·exact q
 have hz:∀ j (hj:j < (J.set c (J[c].1,J[c].2.1,u)).length),(J.set c (J[c].1,J[c].2.1,u))[j].1=(J[j]'(by simpa using hj)).1∧(J.set c (J[c].1,J[c].2.1,u))[j].2.1=(J[j]'(by simpa using hj)).2.1∧(j≠c→(J.set c (J[c].1,J[c].2.1,u))[j].2.2=(J[j]'(by simpa using hj)).2.2)∧(j=c→(J.set c (J[c].1,J[c].2.1,u))[j].2.2=u):=fun j hj=>by
  rw [List.getElem_set]
  split
  ·next q=>subst q;exact ⟨rfl,rfl,fun k=>absurd rfl k,fun _=>rfl⟩
  ·next q=>exact ⟨rfl,rfl,fun _=>rfl,fun k=>absurd k.symm q⟩
 refine ⟨?_,?_,by rw [List.length_set];exact s0,fun j hj hlt=>?_,fun j hj hlt=>?_,fun j hj hle=>?_,fun j hj hle=>?_,fun a b ha hb' h1 h2 hne=>?_,fun a b ha hb' h1 h2 hne=>?_,?_,?_⟩
 ·rw [heap_other _ _ _ _ (by show _≠g;omega),List.length_set]
  exact hkN h.g1 hb
 ·rw [heap_other _ _ _ _ (by show _≠g;omega)]
  exact hkN h.g2 hb
 ·obtain ⟨e1,e2,-,-⟩:=hz j hj
  rw [e1,e2]
  exact key (own_belG (h.nl j (by simpa using hj) hlt) hb) typesLV
 ·obtain ⟨e1,-,e3,e4⟩:=hz j hj
  rw [e1]
  by_cases q:j=c
  ·subst q
   rw [e4 rfl]
   exact key (own_leG hl h.size) typesCV
  ·rw [e3 q]
   exact key (own_belG (h.nc j (by simpa using hj) (by omega)) hb) typesCV
 ·obtain ⟨e1,e2,-,-⟩:=hz j hj
  rw [e1,e2]
  exact h.ol j (by simpa using hj) hle
 ·obtain ⟨e1,-,e3,-⟩:=hz j hj
  rw [e1,e3 (by omega)]
  exact h.oc j (by simpa using hj) (by omega)
 ·obtain ⟨-,a2,-,-⟩:=hz a ha
  obtain ⟨-,b2,-,-⟩:=hz b hb'
  rw [a2,b2]
  exact h.dl a b _ _ h1 h2 hne
 ·obtain ⟨-,-,a3,a4⟩:=hz a ha
  obtain ⟨-,-,b3,b4⟩:=hz b hb'
  by_cases qa:a=c
  ·rw [a4 qa,b3 (by omega)]
   exact ap_sym (ap_of (h.nc b (by simpa using hb') (by omega)) hl)
  ·rw [a3 qa]
   by_cases qb:b=c
   ·rw [b4 qb]
    exact ap_of (h.nc a (by simpa using ha) (by omega)) hl
   ·rw [b3 qb]
    exact h.dc a b _ _ (by omega) (by omega) hne
 ·exact (map_set (r:=(J[c].1,J[c].2.1,u)) hi rfl).trans h.mp
 ·exact Below.setCell (p:=⟨g,c*11+6,none⟩) (bt h.bl hb) (by show w.heap.size≤g;omega) u
theorem Cq.fin {w W:World} {s:Sn} {v:Value} {J:List Rv} (h:Cq w s v J J.length J.length W) (x y z:Value):JV w v J (put3 W (w.heap.size+1) x y z):=by
 have hs:=h.size
 have hsz:(put3 W (w.heap.size+1) x y z).heap.size=W.heap.size:=by
  unfold put3
  simp only [World.setCell,Array.size_modify]
 refine ⟨⟨own_leG (own_put3 h.own (own_ne h.own (by omega)) x y z) (by omega),put3_bel h.bl (by omega) x y z,by rw [hsz];omega⟩,fun r hr=>?_,fun i j hi hj hne=>⟨h.dl i j hi hj hi hj hne,h.dc i j hi hj hi hj hne⟩⟩
 obtain ⟨i,hi,rfl⟩:=List.mem_iff_getElem.1 hr
 have k1:=h.nl i hi hi
 have k2:=h.nc i hi hi
 exact ⟨own_leG (own_put3 k1 (own_ne k1 (by omega)) x y z) (by omega),own_leG (own_put3 k2 (own_ne k2 (by omega)) x y z) (by omega)⟩
end Go.Proofs.YtlgkfeeclgcgbaaGreatDoor.Ri
/- THE RING'S copied: the walk. Own work of the verifier. -/
set_option maxRecDepth 100000
set_option maxHeartbeats 8000000
namespace Go.Proofs.YtlgkfeeclgcgbaaGreatDoor.Ri
open Go.RowKit Me
theorem Cq.start {w W:World} {s:Sn} {v:Value} {J:List Rv} {us:Value} (g1:W.heap[w.heap.size]? =some (.cells #[.int .i64 s.p,us,.int .u64 (s.r:Int)] 50 (0,0))) (g2:W.heap[w.heap.size+1]? =some (.cells #[.int .i64 0,.slice none 0 0,.int .u64 0] 50 (0,0)))
  (own:W.ownsRow (w.heap.size+2) 86 11 v J.length (flV J)) (hl:Ls w J) (mp:J.map (·.1)=s.vs) (bl:Below w.heap.size w W):Cq w s v J 0 0 (W.setCell ⟨w.heap.size,1,none⟩ v):=by
 refine ⟨?_,?_,own_set own (own_ne own (by show w.heap.size < _;omega)) v,fun j _ h=>absurd h (Nat.not_lt_zero _),fun j _ h=>absurd h (Nat.not_lt_zero _),fun j hj _=>(hl _ (List.getElem_mem hj)).1,fun j hj _=>(hl _ (List.getElem_mem hj)).2,fun _ _ _ _ h=>absurd h (Nat.not_lt_zero _),fun _ _ _ _ h=>absurd h (Nat.not_lt_zero _),mp,bl.setCell (p:=⟨w.heap.size,1,none⟩) (Nat.le_refl _) v⟩
 ·rw [heap_setCell_same _ _ 1 _ _ _ g1]
  rfl
 ·rw [heap_other _ _ _ _ (by show _≠w.heap.size;omega)]
  exact g2
theorem Cq.cells {w W:World} {s:Sn} {J:List Rv} {i c g cap:Nat} (h:Cq w s (.slice (some ⟨g,0,none⟩) J.length cap) J i c W) (m j:Nat) (hm:m < J.length) (hj:j < 11):W.cell? ⟨g,m*11+j,none⟩=(cl J[m])[j]?:=by
 rw [h.own.cellAt (m*11+j) (by omega),flV_get J m j hm hj]
theorem sv_open {W:World} {v:Value} {L:List Vl} (h:SV W v L):∃ ao b o cap,v=.slice ao L.length cap∧(L≠[]→ao=some ⟨b,o,none⟩)∧(ao=none→cap=0)∧RowV W b o L:=by
 rcases h with ⟨rfl,rfl⟩ | ⟨b,o,cap,rfl,h2,h3,hr⟩
 ·exact ⟨none,0,0,0,rfl,fun k=>absurd rfl k,fun _=>rfl,fun i hi=>by simp at hi⟩
 ·exact ⟨_,b,o,cap,rfl,fun _=>rfl,(fun k=>by cases k),hr⟩
theorem rcopied_any (s:Sn) (v:Value) (w:World) (hv:SnAt w s v) (hl:s.vs.length≤1048576) (hx:∀ x ∈ s.vs,x.d.labels.length≤1048576∧x.cs.length≤1048576) :
  Calls Tryz.prog 21 #[v] w fun e w'=>CyQ w s e w':=by
 obtain ⟨us,rfl,su⟩:=hv
 obtain ⟨ao,b1,o1,cap,rfl,hao,hcap,hr⟩:=sv_open su
 obtain ⟨Z,hZ,hZr,hZl⟩:=hr.raw
 have hZn:Z.length=s.vs.length:=by rw [← hZ];simp
 have n1:=new_1 w (.cells #[.int .i64 s.p,.slice ao s.vs.length cap,.int .u64 (s.r:Int)] 50)
 have n2:=new_1 (w.alloc (.cells #[.int .i64 s.p,.slice ao s.vs.length cap,.int .u64 (s.r:Int)] 50)) (.cells #[.int .i64 0,.slice none 0 0,.int .u64 0] 50)
 rw [show (w.alloc (.cells #[.int .i64 s.p,.slice ao s.vs.length cap,.int .u64 (s.r:Int)] 50)).heap.size=w.heap.size+1 by simp] at n2
 have n1':=hkN n1 (bel1 _ (.cells #[.int .i64 0,.slice none 0 0,.int .u64 0] 50))
 have HB:=hid_of (bt (bel1 w (.cells #[.int .i64 s.p,.slice ao s.vs.length cap,.int .u64 (s.r:Int)] 50)) (bel1 _ (.cells #[.int .i64 0,.slice none 0 0,.int .u64 0] 50)))
 have HS:Hid (((w.alloc (.cells #[.int .i64 s.p,.slice ao s.vs.length cap,.int .u64 (s.r:Int)] 50)).alloc (.cells #[.int .i64 0,.slice none 0 0,.int .u64 0] 50)).heap.size=w.heap.size+2):=by unfold Hid;simp
 have HX:=hid_of hx
 clear n1 hr su
 go_enter Tryz.func21,Tryz.ntmps21
 go_upto_region 1 with fail
 obtain ⟨w0,hw0⟩:∃ w0,(w.alloc (.cells #[.int .i64 s.p,.slice ao s.vs.length cap,.int .u64 (s.r:Int)] 50)).alloc (.cells #[.int .i64 0,.slice none 0 0,.int .u64 0] 50)=w0:=⟨_,rfl⟩
 rw [hw0] at n1' n2 HB HS ⊢
 clear hw0
 go_cut [] from 5 to 8 (fun W=>∃ v J,Hid (J.length=s.vs.length∧Cq w s v J 0 0 W))
 case first =>
  obtain ⟨c0,c1,c2,_,_,_⟩:=three_cells n1'
  have HR:=hid_of (fun ty=>run_vals (w:=w0) (W0:=w0) (B:=w.heap.size+2) (R:=[]) (Z:=Z) (v:=.slice none 0 0) (u:=.slice ao s.vs.length cap) (b:=b1) (o:=o1) (GV.nil (Below.refl _ _) (by rw [HS.out];exact Nat.le_refl _)) rfl hZn.symm (by
   intro e
   cases ao with
   | none=>exact Or.inl ⟨rfl,hcap rfl⟩
   | some a=>exact Or.inr ⟨a,rfl⟩) (fun e=>hao (fun q=>by rw [q] at e;simp at e)) (hZr.below HB.out) hZl.lz (by simp;omega) ty)
  go_wp2_with (first
   | (at_builtin;refine wpList_run _ rfl _ _ 48 rfl _ _ rfl rfl (HR.out _) ?_;intro v5 w5 hG5;obtain ⟨a5,b5,n5,rfl,-⟩:=own_slice hG5.own;obtain ⟨d0,d1,d2,f0,f1,f2⟩:=three_cells ((hG5.below.block _ (by omega)).trans n1')))
  rw [List.nil_append] at hG5
  go_meet
  have hO:=hG5.own
  refine ⟨_,Z,hZn,Cq.start (us:=.slice ao s.vs.length cap) ((hG5.below.block _ (by omega)).trans n1') ((hG5.below.block _ (by omega)).trans n2) ?_ hZl hZ (HB.out.trans (hG5.below.mono (by omega)))⟩
  rw [List.nil_append,hZn] at *
  exact hO
 case rest =>
 obtain ⟨v0,J0,HC0⟩:=hcut
 obtain ⟨a0,g0,cp0,rfl,ha0,-⟩:=own_slice HC0.out.2.own
 obtain ⟨hJ0,hC0⟩:=HC0.out
 rw [hJ0] at hC0 ha0
 have HC1:=hid_of hC0
 obtain ⟨c0,c1,c2,_,_,_⟩:=three_cells hC0.g1
 clear n1' n2 hZ hZr hZl hZn hao hC0 HC0
 go_upto_region 3 with fail
 go_loopw [12] (fun x W=>∃ (i:Nat) (J:List Rv),i≤s.vs.length∧x=.int .i64 (i:Int)∧Hid (J.length=s.vs.length∧Cq w s (.slice a0 s.vs.length cp0) J i i W)) (fun x _=>s.vs.length - (intOf x).toNat)
 case atStart=>exact ⟨0,J0,Nat.zero_le _,rfl,hJ0,HC1.out⟩
 case round =>
  clear HC1 c0 c1 c2 hJ0
  obtain ⟨i,J,hi,rfl,HC⟩:=hrel
  obtain ⟨c0,c1,c2,_,_,_⟩:=three_cells HC.out.2.g1
  by_cases hlt:i < s.vs.length
  ·have hlt':(i:Int) < (s.vs.length:Int):=by omega
   obtain rfl:=ha0 (by omega)
   have hJl:i < J.length:=by rw [HC.out.1];exact hlt
   have hix:=index_val g0 0 s.vs.length cp0 i (i:Int) rfl hlt
   go_upto_region 6 with fail
   go_cut [] from 19 to 28 (fun W=>∃ J',Hid (J'.length=s.vs.length∧Cq w s (.slice (some ⟨g0,0,none⟩) s.vs.length cp0) J' (i+1) i W))
   case first =>
    have hC:=HC.out.2
    rw [← HC.out.1] at hC
    have d3:=hC.cells i 3 hJl (by omega)
    have e3:(cl J[i])[3]? =some J[i].2.1:=rfl
    rw [e3] at d3
    obtain ⟨la,lc,hla⟩:=(hC.ol i hJl (Nat.le_refl _)).form
    have hxi:J[i].1.d.labels.length≤1048576:=(HX.out J[i].1 (by rw [← hC.mp];exact List.mem_map.2 ⟨_,List.getElem_mem hJl,rfl⟩)).1
    have HR:=hid_of (fun ty=>run_copyL ((hC.ol i hJl (Nat.le_refl _)).below hC.bl) hxi ty)
    rw [hla] at d3 HR
    have HCC:=hid_of hC
    clear hC e3 hla c0 c1 c2 hix
    go_wp2_with (first
     | (at_builtin;refine wpList_run _ rfl _ _ 58 rfl _ _ rfl rfl (HR.out _) ?_;intro v5 w5 hG5;obtain ⟨a5,b5,n5,rfl,-⟩:=own_slice hG5.1;have hz5:=own_belG HCC.out.own hG5.2;have d5:w5.cell? ⟨g0,i*11+3,none⟩=some (.slice la J[i].1.d.labels.length lc):=cellB hG5.2 d3;have f5:=hz5.frozenAt (i*11+3)))
    go_meet
    refine ⟨J.set i (J[i].1,.slice a5 J[i].1.d.labels.length n5,J[i].2.2),by rw [List.length_set];exact HC.out.1,?_⟩
    have:=HCC.out.lab hJl hG5.2 hG5.1
    rw [List.length_set,HC.out.1] at this
    exact this
   case rest =>
   obtain ⟨J',HC'⟩:=hcut
   clear HC
   have hJl':i < J'.length:=by rw [HC'.out.1];exact hlt
   go_upto_region 7 with fail
   have hC:=HC'.out.2
   rw [← HC'.out.1] at hC
   have d3:=hC.cells i 6 hJl' (by omega)
   have e3:(cl J'[i])[6]? =some J'[i].2.2:=rfl
   rw [e3] at d3
   obtain ⟨la,lc,hla⟩:=(hC.oc i hJl' (Nat.le_refl _)).form
   have hxi:J'[i].1.cs.length≤1048576:=(HX.out J'[i].1 (by rw [← hC.mp];exact List.mem_map.2 ⟨_,List.getElem_mem hJl',rfl⟩)).2
   have HR:=hid_of (fun ty=>run_copyC ((hC.oc i hJl' (Nat.le_refl _)).below hC.bl) hxi ty)
   rw [hla] at d3 HR
   have HCC:=hid_of hC
   clear hC e3 hla c0 c1 c2 hix
   go_wp2_with (first
    | (at_builtin;refine wpList_run _ rfl _ _ 84 rfl _ _ rfl rfl (HR.out _) ?_;intro v5 w5 hG5;obtain ⟨a5,b5,n5,rfl,-⟩:=own_slice hG5.1;have hz5:=own_belG HCC.out.own hG5.2;have d5:w5.cell? ⟨g0,i*11+6,none⟩=some (.slice la J'[i].1.cs.length lc):=cellB hG5.2 d3;have f5:=hz5.frozenAt (i*11+6)))
   refine ⟨⟨i+1,J'.set i (J'[i].1,J'[i].2.1,.slice a5 J'[i].1.cs.length n5),by omega,by go_num,by rw [List.length_set];exact HC'.out.1,?_⟩,by simp [intOf];omega⟩
   have:=HCC.out.cnt hJl' hG5.2 hG5.1
   rw [List.length_set,HC'.out.1] at this
   exact this
  ·have hlt':¬ (i:Int) < (s.vs.length:Int):=by omega
   have hie:i=s.vs.length:=by omega
   subst hie
   obtain ⟨z0,z1,z2,f0,f1,f2⟩:=three_cells HC.out.2.g2
   have HS:=hid_of (set_three (x:=.int .i64 s.p) (y:=.slice a0 s.vs.length cp0) (z:=.int .u64 (s.r:Int)) HC.out.2.g2)
   have hF:=HC.out.2
   rw [← HC.out.1] at hF
   have HF:=hid_of (hF.fin (.int .i64 s.p) (.slice a0 J.length cp0) (.int .u64 (s.r:Int)))
   rw [HC.out.1] at HF
   have HJe:=hid_of HC.out.2.mp
   clear HC HX hF
   go_wp2_with fail
   rw [put3_eq]
   obtain ⟨y0,y1,y2,_,_,_⟩:=three_cells HS.out
   simp [bodyPost,results,go_sem,y0,y1,y2]
   exact ⟨_,J,rfl,HF.out.g.below,HF.out,HJe.out⟩
end Go.Proofs.YtlgkfeeclgcgbaaGreatDoor.Ri
/- WINDOWS: what they tell, and what they hold on to. Own work of the verifier. -/
set_option maxHeartbeats 1000000
namespace Go.Proofs.YtlgkfeeclgcgbaaGreatDoor.Ri
open Go.RowKit Go.Shelf Me
noncomputable def wst (L:List Rs):Nat→Sn × Int
 | 0=>(zS,0)
 | 1=>((L.getD 0 dR).1,0)
 | j+2=>mgS (wst L (j+1)).1 (L.getD (j+1) dR).1
def OkTo (L:List Rs) (j:Nat):Prop:=∀ i,i≤j→(wst L i).2=0
abbrev zAgg:Value:=.agg #[.int .i64 0,.slice none 0 0,.int .u64 0]
def WnQ (w : World) (L : List Rs) (e : Ending) (w' : World) : Prop := Below w.heap.size w w' ∧
  ((L = [] ∧ e = .returned (.tuple #[zAgg, .int .i64 0, .int .i64 16])) ∨
   (L ≠ [] ∧ OkTo L L.length ∧ ∃ u, e = .returned (.tuple #[sx ((wst L L.length).1, u), .int .i64 (L.length : Int), .int .i64 0]) ∧ OS w.heap.size ((wst L L.length).1, u) w') ∨
   ∃ j, j < L.length ∧ OkTo L j ∧ (wst L (j + 1)).2 ≠ 0 ∧ e = .returned (.tuple #[zAgg, .int .i64 0, .int .i64 (wst L (j + 1)).2]))
theorem OS.tn {B B':Nat} {r:Rs} {W W1:World} (h:OS B r W) (hb:Tn B' W W1):OS B r W1:=by
 obtain ⟨J,h1,h2,h3,h4⟩:=h
 exact ⟨J,hb.row h1,fun x hx=>⟨hb.row (h2 x hx).1,hb.row (h2 x hx).2⟩,h3,h4⟩
theorem OS.set {B b i:Nat} {r:Rs} {W:World} (h:OS B r W) (hb:b < B) (u:Value):OS B r (W.setCell ⟨b,i,none⟩ u):=by
 obtain ⟨J,h1,h2,h3,h4⟩:=h
 exact ⟨J,own_set h1 (own_ne h1 hb) u,fun x hx=>⟨own_set (h2 x hx).1 (own_ne (h2 x hx).1 hb) u,own_set (h2 x hx).2 (own_ne (h2 x hx).2 hb) u⟩,h3,h4⟩
theorem OS.put3 {B b:Nat} {r:Rs} {W:World} (h:OS B r W) (hb:b < B) (x y z:Value):OS B r (put3 W b x y z):=((h.set (i:=0) hb x).set (i:=1) hb y).set (i:=2) hb z
theorem OS.zero (B:Nat) (W:World):OS B (zS,.slice none 0 0) W:=⟨[],World.ownsRow_nil _ _ _ _,(fun x hx=>by cases hx),Dj.nil,rfl⟩
theorem OS.form {B:Nat} {r:Rs} {W:World} (h:OS B r W):∃ a c,r.2=Value.slice a r.1.vs.length c:=by
 obtain ⟨J,h1,h2,h3,h4⟩:=h
 obtain ⟨a,g,c,e,-⟩:=own_slice h1
 refine ⟨a,c,?_⟩
 rw [e,← h4,List.length_map]
structure Ww (w:World) (s:Sn) (v:Value) (j:Nat) (W:World):Prop where
 g0:W.heap[w.heap.size]? =some (.cells #[.int .i64 0,.slice none 0 0,.int .u64 0] 50 (0,0))
 g1:W.heap[w.heap.size+1]? =some (.cells #[.int .i64 0] 3 (0,0))
 g2:W.heap[w.heap.size+2]? =some (.cells #[.int .i64 0] 25 (0,0))
 g3:W.heap[w.heap.size+3]? =some (.cells #[.int .i64 s.p,v,.int .u64 (s.r:Int)] 50 (0,0))
 g4:W.heap[w.heap.size+4]? =some (.cells #[.int .i64 (j:Int)] 3 (0,0))
 os:OS (w.heap.size+5) (s,v) W
 bl:Below w.heap.size w W
theorem Ww.size {w W:World} {s:Sn} {v:Value} {j:Nat} (h:Ww w s v j W):w.heap.size+5≤W.heap.size:=(Array.getElem?_eq_some_iff.1 h.g4).1
theorem Ww.tn {w W W1:World} {s:Sn} {v:Value} {j B:Nat} (h:Ww w s v j W) (hb:Tn B W W1) (hB:w.heap.size≤B):Ww w s v j W1 :=
 ⟨hb.cells h.g0,hb.cells h.g1,hb.cells h.g2,hb.cells h.g3,hb.cells h.g4,h.os.tn hb,h.bl.trans ((hb.mono hB).below (by have:=h.size;omega))⟩
theorem Ww.below {w W W1:World} {s:Sn} {v:Value} {j:Nat} (h:Ww w s v j W) (hb:Below W.heap.size W W1):Ww w s v j W1:=h.tn (B:=W.heap.size) (Tn.of hb) (by have:=h.size;omega)
theorem Ww.num {w W:World} {s:Sn} {v:Value} {j:Nat} (h:Ww w s v j W) (k:Nat):Ww w s v k (W.setCell ⟨w.heap.size+4,0,none⟩ (.int .i64 (k:Int))):=by
 refine ⟨?_,?_,?_,?_,?_,h.os.set (by omega) _,Below.setCell (p:=⟨w.heap.size+4,0,none⟩) h.bl (by show w.heap.size≤w.heap.size+4;omega) _⟩
 ·rw [heap_other _ _ _ _ (by show _≠w.heap.size+4;omega)];exact h.g0
 ·rw [heap_other _ _ _ _ (by show _≠w.heap.size+4;omega)];exact h.g1
 ·rw [heap_other _ _ _ _ (by show _≠w.heap.size+4;omega)];exact h.g2
 ·rw [heap_other _ _ _ _ (by show _≠w.heap.size+4;omega)];exact h.g3
 ·rw [heap_setCell_same _ _ 0 _ _ _ h.g4];rfl
theorem put3_other {W:World} {b k:Nat} (h:k≠b) (x y z:Value):(put3 W b x y z).heap[k]? =W.heap[k]?:=by
 unfold put3
 rw [heap_other _ _ _ _ h,heap_other _ _ _ _ h,heap_other _ _ _ _ h]
theorem Ww.put {w W W1:World} {s s':Sn} {v v':Value} {j:Nat} (h:Ww w s v j W) (hb:Below W.heap.size W W1) (ho:OS W.heap.size (s',v') W1):Ww w s' v' j (put3 W1 (w.heap.size+3) (.int .i64 s'.p) v' (.int .u64 (s'.r:Int))):=by
 have k:=h.below hb
 refine ⟨?_,?_,?_,?_,?_,(ho.le h.size).put3 (by omega) _ _ _,put3_bel k.bl (by omega) _ _ _⟩
 ·rw [put3_other (by omega)];exact k.g0
 ·rw [put3_other (by omega)];exact k.g1
 ·rw [put3_other (by omega)];exact k.g2
 ·exact set_three k.g3
 ·rw [put3_other (by omega)];exact k.g4
theorem mid_put3 {n0 B b:Nat} {a W:World} (h:Mid n0 B a W) (h1:n0≤b) (h2:b < B) (x y z:Value):Mid n0 B a (put3 W b x y z):=((h.setCell (p:=⟨b,0,none⟩) (.inl ⟨h1,h2⟩) x).setCell (p:=⟨b,1,none⟩) (.inl ⟨h1,h2⟩) y).setCell (p:=⟨b,2,none⟩) (.inl ⟨h1,h2⟩) z
theorem box1 {W:World} {b:Nat} {x:Value} {t:TypeId} (h:W.heap[b]? =some (.cells #[x] t (0,0))):W.cell? ⟨b,0,none⟩=some x∧W.frozen? ⟨b,0,none⟩=false:=⟨by simp [World.cell?,h],by simp [World.frozen?,h]⟩
structure Wx (w:World) (e:Int) (W:World):Prop where
 g0:W.heap[w.heap.size]? =some (.cells #[.int .i64 0,.slice none 0 0,.int .u64 0] 50 (0,0))
 g1:W.heap[w.heap.size+1]? =some (.cells #[.int .i64 0] 3 (0,0))
 g2:W.heap[w.heap.size+2]? =some (.cells #[.int .i64 e] 25 (0,0))
 bl:Below w.heap.size w W
theorem Wx.tn {w W W1:World} {e:Int} {B:Nat} (h:Wx w e W) (hb:Tn B W W1) (hB:w.heap.size≤B):Wx w e W1 :=
 ⟨hb.cells h.g0,hb.cells h.g1,hb.cells h.g2,h.bl.trans ((hb.mono hB).below (by have:=(Array.getElem?_eq_some_iff.1 h.g0).1;omega))⟩
theorem between_in (m b:Nat) (fr tO:Int) (w:World):CallsIn Fence.wide m Tryz.prog 287 #[.pointer (some ⟨b,0,none⟩),.int .i64 fr,.int .i64 tO] w fun e w'=>e=.returned (.func (.func 294) #[] #[.pointer (some ⟨w.heap.size,0,none⟩),.pointer (some ⟨w.heap.size+1,0,none⟩),.pointer (some ⟨w.heap.size+2,0,none⟩)])∧w'=((w.alloc (.cells #[.pointer (some ⟨b,0,none⟩)] 33)).alloc (.cells #[.int .i64 fr] 2)).alloc (.cells #[.int .i64 tO] 2):=by
 refine callsIn_of_wp Tryz.func287 rfl trivial ?_ rfl
 simp only [Tryz.ntmps287,List.size_toArray,List.length_cons,List.length_nil,Nat.reduceAdd,Nat.reduceSub,Array.replicate_succ,Array.replicate_zero,List.push_toArray,List.append_toArray,List.nil_append,List.cons_append]
 gi_wp2
 go_ret
 exact ⟨rfl,rfl⟩
end Go.Proofs.YtlgkfeeclgcgbaaGreatDoor.Ri
/- lay: the walk. Own work of the verifier. -/
namespace Go.Proofs.YtlgkfeeclgcgbaaGreatDoor.Ri
open Go.RowKit Me
theorem flS_one (r:Rs) (hr:∃ a n c,r.2=Value.slice a n c):∀ u ∈ flS [r],u.oneCell'=true:=by
 obtain ⟨a,n,c,e⟩:=hr
 intro u hu
 simp only [flS,List.append_nil,c3,e,List.mem_cons,List.not_mem_nil,or_false] at hu
 rcases hu with rfl | rfl | rfl <;> rfl
theorem step_sn {w:World} {ops:Array Oper} {o:Oper} {a:Act} {K:Act→World→Prop} {Q:Exit→Act→World→Prop} {E:Prop} (hgd:o.guard=none) (s x:Operand)
  (ho:o.op=.call { callee:=.builtin .append,args:=#[s,x],argTypes:=#[70,70] }) {B:Nat} {v:Value} {R:List Rs} (hs:a.eval s=v) (hG:w.ownsRow B 50 3 v R.length (flS R)) (hB:B≤w.heap.size) (hl:R.length≤1048576) (k:Nat) (hx:a.eval x=.slice (some ⟨k,0,none⟩) 1 1) (r:Rs) (hr:∃ a n c,r.2=Value.slice a n c)
  (hk:w.heap[k]? =some (.cells (c3 r).toArray 50 (0,0)))
  (hh:∀ g cap w',w'.ownsRow B 50 3 (.slice (some ⟨g,0,none⟩) (R.length+1) cap) (R.length+1) (flS R++flS [r])→w.grownBy w' v.ownBlock→K (a.put o.dst (.slice (some ⟨g,0,none⟩) (R.length+1) cap)) w') :
  if Region.wanted o (yielded ops a.tmps)=true then Oper.wp Tryz.prog o a w K Q else E:=by
 obtain ⟨i0,hi,hz0,hz1,hz2⟩:=info_parts infoS
 refine step_append_lies w hgd s x _ ho B 50 i0 (.agg #[.int .i64 0,.slice none 0 0,.int .u64 0]) 3 40 Tryz.underlying70 hi hz0 hz1 hz2 rfl (by decide) v R.length (flS R) hs hG ⟨k,0,none⟩ 1 1 (flS [r]) hx (by rw [flS_length];rfl) (World.news_of_block (by simpa [flS] using hk)) (flS_one _ hr) (by omega) (by unfold maxLen;omega) (by omega) hB _ rfl ?_
 intro g cap w' h1 h2 h3 h4
 exact hh g cap w' h1 h2
theorem Rh.drew {B b n k:Nat} {T:List Int} {R:List Rs} {tv sv:Value} {W:World} (h:Rh B b n T R k tv sv W):Rh B b n T R k tv sv W.drew:=h.below (drew_bel1 W)
end Go.Proofs.YtlgkfeeclgcgbaaGreatDoor.Ri
