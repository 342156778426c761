/- RULES: WHAT THE DOCUMENT'S Check TELLS IS WHAT THE CODE'S TELLS. Own work of the verifier. -/
import Derived.Test.YtifapjammoahgaaGreatDoorSBM
import Derived.Deep.RegionHeld3
import Derived.Test.YtifapjammoahgaaGreatDoorSBA
import Derived.Test.YtifapjammoahgaaGreatDoorSBB
namespace Go.Proofs.YtifapjammoahgaaGreatDoor.Ru
open Go.RowKit Me
theorem shp_val (k:Int) (h:1≤k∧k≤21):shp k=if k=1 then 1 else if k≤7 then 2 else if k=8 then 3 else if k≤12 then 4 else if k≤18 then 5 else if k≤20 then 6 else 7:=by
  have:k=1∨k=2∨k=3∨k=4∨k=5∨k=6∨k=7∨k=8∨k=9∨k=10∨k=11∨k=12∨k=13∨k=14∨k=15∨k=16∨k=17∨k=18∨k=19∨k=20∨k=21:=by omega
  rcases this with rfl | rfl | rfl | rfl | rfl | rfl | rfl | rfl | rfl | rfl | rfl | rfl | rfl | rfl | rfl | rfl | rfl | rfl | rfl | rfl | rfl
  all_goals decide
theorem shp_out (k:Int) (h:k < 1∨21 < k):shp k=0:=by
  unfold shp kwI
  split
  · have:k=0:=by omega
    subst this
    rfl
  · rfl
theorem ne_b (al m:Nat):((al:Int) != (m:Int))=!decide (al=m):=by
  unfold bne
  congr 1
  by_cases h:al=m
  · rw [decide_eq_true h,beq_iff_eq,h]
  · rw [decide_eq_false h,beq_eq_false_iff_ne];omega
theorem lt_b (ln:Nat):decide (0 < ln)=!decide (ln=0):=by
  by_cases h:ln=0
  · subst h;rfl
  · rw [decide_eq_true (Nat.pos_of_ne_zero h),decide_eq_false h];rfl
theorem lt1_b (w:Int):decide (w < 1)=!decide (1≤w):=by
  by_cases h:1≤w
  · rw [decide_eq_true h,decide_eq_false (by omega)];rfl
  · rw [decide_eq_false h,decide_eq_true (by omega)];rfl
theorem gtm_b (w:Int):decide (4611686018427387904 < w)=!decide (w≤4611686018427387904):=by
  by_cases h:w≤4611686018427387904
  · rw [decide_eq_true h,decide_eq_false (by omega)];rfl
  · rw [decide_eq_false h,decide_eq_true (by omega)];rfl
theorem sF_00:Re.sF 0 0=true:=by decide
theorem sg_b (x:Nat):(Re.sg (Re.rk x) (Re.rk 0) != 0)=!Re.sF x 0:=rfl
theorem fields_eq (k:Int) (h:1≤k∧k≤21) (x:Nat) (nm:List UInt8) (ln:Nat) (w n d:Int) (al:Nat):dFld k x nm ln w n d al=(smO (shp k) x nm ln w n d al && hldB (shp k) x w n d al):=by
  rw [shp_val k h]
  have n0:=ne_b al 0
  have n1:=ne_b al 1
  have n2:=ne_b al 2
  have key:∀ c:Prop,True:=fun _=>trivial
  clear key
  unfold dFld nmd
  rw [lt_b,lt1_b,gtm_b,sg_b]
  by_cases c1:k=1
  · subst c1
    rw [if_pos rfl,show dAr 1=((0:Nat):Int) from rfl,n0]
    unfold smO hldB s0B
    simp only [if_true,sF_00,show dSer 1=false from rfl,bne,show ((1:Int) == 8)=false from rfl,show ((1:Int) == 1)=true from rfl]
    generalize decide (al=0)=b0,(nm == [])=b1,decide (ln=0)=b2,(w == 0)=b3,(n == 0)=b4,(d == 0)=b5,Re.finF x=b6
    simp
    revert b0 b1 b2 b3 b4 b5 b6
    decide
  rw [if_neg c1]
  have e1:(k == 1)=false:=beq_eq_false_iff_ne.2 c1
  by_cases c2:k≤7
  · have e8:(k == 8)=false:=beq_eq_false_iff_ne.2 (by omega)
    have es:dSer k=true:=by unfold dSer;rw [decide_eq_true (by omega),decide_eq_true (by omega)];rfl
    have ea:dAr k=((0:Nat):Int):=by unfold dAr;rw [if_neg (by omega),if_neg (by omega)];rfl
    rw [if_pos c2,ea,n0]
    unfold smO hldB s0B winB
    simp only [es,bne,e1,e8]
    generalize decide (al=0)=b0,(n == 0)=b4,(d == 0)=b5,Re.sF x 0=b6,decide (1≤w)=b7,decide (w≤4611686018427387904)=b8
    simp
    revert b0 b4 b5 b6 b7 b8
    decide
  rw [if_neg c2]
  by_cases c3:k=8
  · subst c3
    rw [if_pos rfl,show dAr 8=((0:Nat):Int) from rfl,n0]
    unfold smO hldB s0B winB shrB
    simp only [show dSer 8=true from rfl,bne,show ((8:Int) == 8)=true from rfl,show ((8:Int) == 1)=false from rfl]
    generalize decide (al=0)=b0,Re.sF x 0=b6,decide (1≤w)=b7,decide (w≤4611686018427387904)=b8,decide (1≤d)=b9,decide (0≤n)=ba,decide (n≤d)=bb
    simp
    revert b0 b6 b7 b8 b9 ba bb
    decide
  rw [if_neg c3]
  have e8:(k == 8)=false:=beq_eq_false_iff_ne.2 c3
  have es:dSer k=false:=by unfold dSer;rw [decide_eq_false (by omega:¬ k≤8),Bool.and_false]
  by_cases c4:k≤20
  · have ea:dAr k=((2:Nat):Int):=by unfold dAr;rw [if_neg (by omega),if_pos (by omega)];rfl
    have sh:∃ s,(if k≤12 then 4 else if k≤18 then 5 else if k≤20 then 6 else 7)=s∧(s=4∨s=5∨s=6):=by
      refine ⟨_,rfl,?_⟩
      repeat' split
      all_goals omega
    obtain ⟨s,h1,h2⟩:=sh
    rw [h1,ea,n2]
    unfold smO hldB s0B
    rw [if_neg (by omega),if_neg (by omega),if_neg (by omega),if_neg (by omega),if_neg (by omega),if_neg (by omega),if_neg (by omega)]
    simp only [es,bne,e1,e8]
    generalize decide (al=2)=b0,(nm == [])=b1,decide (ln=0)=b2,(w == 0)=b3,(n == 0)=b4,(d == 0)=b5,Re.sF x 0=b6
    simp
    revert b0 b1 b2 b3 b4 b5 b6
    decide
  · have c5:k=21:=by omega
    subst c5
    rw [show dAr 21=((1:Nat):Int) from rfl,n1]
    unfold smO hldB s0B
    simp only [show dSer 21=false from rfl,bne,show ((21:Int) == 8)=false from rfl,show ((21:Int) == 1)=false from rfl]
    generalize decide (al=1)=b0,(nm == [])=b1,decide (ln=0)=b2,(w == 0)=b3,(n == 0)=b4,(d == 0)=b5,Re.sF x 0=b6
    simp
    revert b0 b1 b2 b3 b4 b5 b6
    decide
theorem ser_shp (k:Int) (h:1≤k∧k≤21):(shp k=2∨shp k=3) ↔ dSer k=true:=by
  rw [shp_val k h]
  unfold dSer
  rw [Bool.and_eq_true,decide_eq_true_eq,decide_eq_true_eq]
  repeat' split
  all_goals omega
theorem shp_pos (k:Int) (h:1≤k∧k≤21):shp k≠0:=by
  rw [shp_val k h]
  repeat' split
  all_goals omega
theorem okN_doc (k:Int) (x:Nat) (nm:List UInt8) (lb:List La.Lb) (w n d:Int) (ar:List RT) :
    okN (.mk k x nm lb w n d ar)=if k < 1∨21 < k then 7 else if dFld k x nm lb.length w n d ar.length=false then 1 else if dSer k=true∧La.chkD ⟨1,nm,[],lb⟩≠0 then La.chkD ⟨1,nm,[],lb⟩ else 0:=by
  show ndE (shp k) x nm lb w n d ar.length=_
  unfold ndE
  by_cases h:k < 1∨21 < k
  · rw [if_pos h,if_pos (shp_out k h)]
  · have hr:1≤k∧k≤21:=by omega
    rw [if_neg h,if_neg (shp_pos k hr),fields_eq k hr]
    have hs:=ser_shp k hr
    cases smO (shp k) x nm lb.length w n d ar.length
    · rfl
    · cases hldB (shp k) x w n d ar.length
      · rfl
      · simp only [Bool.and_self,Bool.true_eq_false,if_false]
        by_cases hd:dSer k=true
        · rw [if_pos (hs.2 hd)]
          by_cases hc:La.chkD ⟨1,nm,[],lb⟩=0
          · rw [hc,if_neg (fun q=>q.2 rfl)]
          · rw [if_pos ⟨hd,hc⟩]
        · rw [if_neg (fun q=>hd (hs.1 q)),if_neg (fun q=>hd q.1)]
theorem ok_range {t:RT} (h:okN t=0):1≤t.kd∧t.kd≤21:=by
  obtain ⟨k,x,nm,lb,w,n,d,ar⟩:=t
  rw [okN_doc] at h
  by_cases h1:k < 1∨21 < k
  · rw [if_pos h1] at h;exact absurd h (by decide)
  · show 1≤k∧k≤21
    omega
end Go.Proofs.YtifapjammoahgaaGreatDoor.Ru
/- RULES: WHAT PRINT WRITES; writeMeasure. Own work of the verifier. -/
set_option maxRecDepth 100000
set_option maxHeartbeats 4000000
namespace Go.Proofs.YtifapjammoahgaaGreatDoor.Ru
open Go.RowKit Go.Sort Me
def msT (q:Nat × List UInt8) (nm:List UInt8) (lb:List La.Lb) (w n d:Int):List UInt8 :=
  q.2++[40]++(if q.1=3 then Lib.itoa n++[47]++Lib.itoa d++[44,32] else [])++(La.printT nm lb++[44,32]++Lib.itoa w++[41])
theorem ibF_below {B b:Nat} {bs:List Value} {W W':World} (h:Lib.IsBuilderF 53 5 B b bs W) (hb:Below W.heap.size W W'):Lib.IsBuilderF 53 5 B b bs W':=by
  have key:∀ p,Lib.BuilderAtF 53 5 B b p bs W→Lib.BuilderAtF 53 5 B b p bs W':=fun p h=>by
    have hlt:=h.lt
    obtain ⟨hB,v,hv,hown,hne⟩:=h
    exact ⟨hB,v,(hb.block b hlt).trans hv,hown.kept (row:=none) ⟨hb.os,hb.tape,hb.output,hb.size,fun k hk _=>hb.block k hk⟩ (Classical.em _),hne⟩
  exact h.elim (fun x=>.inl (key _ x)) (fun x=>.inr (key _ x))
theorem bs_below {B k:Nat} {w0 W W1:World} {l:List UInt8} (h:La.BS B k w0 l W) (hb:Below W.heap.size W W1):La.BS B k w0 l W1 :=
  ⟨ibF_below h.ib hb,h.bl.trans (hb.mono h.sz),fun g o hg h1 h2=>(hb.block g (Array.getElem?_eq_some_iff.1 (h.ok g o hg h1 h2)).1).trans (h.ok g o hg h1 h2),by have:=h.sz;have:=hb.size;omega⟩
structure Wm (u w0:World) (kb gk gr:Nat) (q:Nat × List UInt8) (c:Array Value) (l:List UInt8) (W:World):Prop where
  bs:La.BS u.heap.size kb w0 l W
  st:Below u.heap.size u W
  kd:W.heap[gk]? =some (.cells #[.int .i64 (q.1:Int),.string ⟨q.2.toArray⟩] 76)
  rl:W.heap[gr]? =some (.cells c 27)
  n1:gk≠kb
  n2:gr≠kb
theorem Wm.below {u w0:World} {kb gk gr:Nat} {q:Nat × List UInt8} {c:Array Value} {l:List UInt8} {W W1:World} (h:Wm u w0 kb gk gr q c l W) (hb:Below W.heap.size W W1):Wm u w0 kb gk gr q c l W1 :=
  ⟨bs_below h.bs hb,bt h.st hb,(hb.block gk (Array.getElem?_eq_some_iff.1 h.kd).1).trans h.kd,(hb.block gr (Array.getElem?_eq_some_iff.1 h.rl).1).trans h.rl,h.n1,h.n2⟩
theorem Wm.then {u w0:World} {kb gk gr:Nat} {q:Nat × List UInt8} {c:Array Value} {l l1:List UInt8} {W W1:World} (h:Wm u w0 kb gk gr q c l W) (k:La.BS u.heap.size kb W l1 W1):Wm u w0 kb gk gr q c l1 W1 :=
  ⟨h.bs.then k,h.st.trans k.bl,k.cells h.kd h.n1 (by decide),k.cells h.rl h.n2 (by decide),h.n1,h.n2⟩
theorem Wm.ws {u w0:World} {kb gk gr:Nat} {q:Nat × List UInt8} {c:Array Value} {l:List UInt8} {W:World} (h:Wm u w0 kb gk gr q c l W) (s:List UInt8) (hl:l.length+s.length≤140737488355328) :
    Calls Tryz.prog 25 #[.pointer (some ⟨kb,0,none⟩),.string ⟨s.toArray⟩] W fun e w'=>e=.returned (.tuple #[.int .i64 (s.length:Int),.nilIface])∧Wm u w0 kb gk gr q c (l++s) w' :=
  (La.ws_any s h.bs.re hl).mono (by rintro e w' ⟨rfl,k⟩;exact ⟨rfl,h.then k⟩)
theorem kd_cells {W:World} {g a:Nat} {b:List UInt8} (h:W.heap[g]? =some (.cells #[.int .i64 (a:Int),.string ⟨b.toArray⟩] 76)):W.cell? ⟨g,0,none⟩=some (.int .i64 (a:Int))∧W.cell? ⟨g,1,none⟩=some (.string ⟨b.toArray⟩):=by
  constructor <;> simp [World.cell?,h]
theorem belN' {a w:World} (o:Obj) (h:Below a.heap.size a w):Below a.heap.size a (w.alloc o):=bt h (bel1 _ _)
theorem belD' {a w:World} (h:Below a.heap.size a w):Below a.heap.size a w.drew:=bel_drewB h
theorem measure_any (u w0:World) (he:Env u) (kb:Nat) (pre:List UInt8) (q:Nat × List UInt8) (k:Int) (x:Nat) (nm:List UInt8) (lb:List La.Lb) (wi n d:Int) (lv:Value) (aa:Option Addr) (an ac:Nat) (w:World)
    (hu:Below u.heap.size u w) (h:La.BS u.heap.size kb w0 pre w) (hl:LbV 0 u lv lb) (hz:∀ a ∈ lb,a.2.length≤9223372036854775807)
    (hw:-9223372036854775808≤wi∧wi≤9223372036854775807) (hn:-9223372036854775808≤n∧n≤9223372036854775807) (hd:-9223372036854775808≤d∧d≤9223372036854775807)
    (hT:pre.length+(msT q nm lb wi n d).length≤140737488355328) :
    Calls Tryz.prog 27 #[.pointer (some ⟨kb,0,none⟩),kx q,rx k x nm lv wi n d (.slice aa an ac)] w fun e w'=>e=.returned (.tuple #[])∧La.BS u.heap.size kb w0 (pre++msT q nm lb wi n d) w':=by
  obtain ⟨la,b,o,lc,rfl,h1,h2,h3,h4⟩:=hl
  obtain ⟨q1,q2⟩:=q
  unfold msT at hT ⊢
  dsimp only at hT ⊢
  obtain ⟨W0,hW0⟩:∃ W0,W0=(w.alloc (.cells #[.int .i64 (q1:Int),.string ⟨q2.toArray⟩] 76)).alloc (.cells (rc k x nm (.slice la lb.length lc) wi n d (.slice aa an ac)) 27):=⟨_,rfl⟩
  have hk:=h.lt
  have hM0:Wm u w0 kb w.heap.size (w.heap.size+1) (q1,q2) (rc k x nm (.slice la lb.length lc) wi n d (.slice aa an ac)) pre W0:=by
    rw [hW0]
    exact ⟨(h.alloc _).alloc _,bt hu (La.bel2 w _ _),((bel1 (w.alloc (.cells #[.int .i64 (q1:Int),.string ⟨q2.toArray⟩] 76)) (.cells (rc k x nm (.slice la lb.length lc) wi n d (.slice aa an ac)) 27)).block w.heap.size (by simp)).trans (new_1 w _),by have:=new_1 (w.alloc (.cells #[.int .i64 (q1:Int),.string ⟨q2.toArray⟩] 76)) (.cells (rc k x nm (.slice la lb.length lc) wi n d (.slice aa an ac)) 27);simpa using this,by omega,by omega⟩
  have HDg:Hid (∀ m:Int,-9223372036854775808≤m→m≤9223372036854775807→∀ W,Below u.heap.size u W→Calls Tryz.prog 40 #[.int .i64 m] W fun e w'=>e=.returned (.string ⟨(Lib.itoa m).toArray⟩)∧Below W.heap.size W w'):=fun m a b W hb=>dig_any m a b W (he.below hb)
  have hpl:(La.printT nm lb).length≤140737488355328:=by simp at hT;omega
  have HPr:Hid (∀ W,Below u.heap.size u W→Calls Tryz.prog 41 #[.string ⟨nm.toArray⟩,.slice la lb.length lc] W fun e w'=>e=.returned (.string ⟨(La.printT nm lb).toArray⟩)∧Below W.heap.size W w'):=fun W hb=>La.cprint_any nm la b o lc lb (fun e=>(h1 e).1) (by omega) hz hpl W (h4.below hb)
  have HD1:=hid_of (HDg.out n hn.1 hn.2)
  have HD2:=hid_of (HDg.out d hd.1 hd.2)
  have HD3:=hid_of (HDg.out wi hw.1 hw.2)
  have hfl:=fldK
  have HM0:=hid_of hM0
  have HW0:=hid_of hW0
  clear hu he h h1 h2 h3 h4 hz hw hn hd HDg hk hM0 hW0
  generalize La.printT nm lb=P at *
  generalize Lib.itoa n=I1 at *
  generalize Lib.itoa d=I2 at *
  generalize Lib.itoa wi=I3 at *
  obtain ⟨z0,hz0⟩:∃ z,z=q2++[40]:=⟨_,rfl⟩
  obtain ⟨z1,hz1⟩:∃ z,z=I1++[47]:=⟨_,rfl⟩
  obtain ⟨z2,hz2⟩:∃ z,z=z1++I2:=⟨_,rfl⟩
  obtain ⟨z3,hz3⟩:∃ z,z=z2++[44,32]:=⟨_,rfl⟩
  obtain ⟨y1,hy1⟩:∃ z,z=P++[44,32]:=⟨_,rfl⟩
  obtain ⟨y2,hy2⟩:∃ z,z=y1++I3:=⟨_,rfl⟩
  obtain ⟨y3,hy3⟩:∃ z,z=y2++[41]:=⟨_,rfl⟩
  have hTx:pre.length+z0.length+(if q1=3 then z3.length else 0)+y3.length≤140737488355328:=by
    rw [hy3,hy2,hy1,hz3,hz2,hz1,hz0]
    by_cases g:q1=3
    · rw [if_pos g] at hT ⊢;simp at hT ⊢;omega
    · rw [if_neg g] at hT ⊢;simp at hT ⊢;omega
  have HF:Hid (pre++(q2++[40]++(if q1=3 then I1++[47]++I2++[44,32] else [])++(P++[44,32]++I3++[41]))=pre++z0++(if q1=3 then z3 else [])++y3):=by
    show _=_
    rw [hy3,hy2,hy1,hz3,hz2,hz1,hz0]
    simp
  have ly:y3.length≤140737488355328:=by omega
  have s0:∀ W,(Op.stringOp .add ⟨q2.toArray⟩ ⟨#[40]⟩).run Tryz.prog W=.ok (.string ⟨z0.toArray⟩) W:=fun W=>by rw [hz0];exact La.sadd q2 [40] (by rw [hz0] at hTx;simp at hTx ⊢;omega) W
  have t1:∀ W,(Op.stringOp .add ⟨P.toArray⟩ ⟨#[44,32]⟩).run Tryz.prog W=.ok (.string ⟨y1.toArray⟩) W:=fun W=>by rw [hy1];exact La.sadd P [44,32] (by simp;omega) W
  have t2:∀ W,(Op.stringOp .add ⟨y1.toArray⟩ ⟨I3.toArray⟩).run Tryz.prog W=.ok (.string ⟨y2.toArray⟩) W:=fun W=>by rw [hy2];exact La.sadd y1 I3 (by rw [hy3,hy2] at ly;simp at ly;omega) W
  have t3:∀ W,(Op.stringOp .add ⟨y2.toArray⟩ ⟨#[41]⟩).run Tryz.prog W=.ok (.string ⟨y3.toArray⟩) W:=fun W=>by rw [hy3];exact La.sadd y2 [41] (by rw [hy3] at ly;simp at ly ⊢;omega) W
  rw [HF.out]
  obtain ⟨R,hR⟩:∃ R,R=pre++z0++(if q1=3 then z3 else [])++y3:=⟨_,rfl⟩
  rw [← hR]
  have HR3:Hid (q1=3→R=pre++z0++z3++y3):=fun g=>by rw [hR,if_pos g]
  have HR0:Hid (q1≠3→R=pre++z0++y3):=fun g=>by rw [hR,if_neg g,List.append_nil]
  clear hR
  obtain ⟨c,hc⟩:∃ c,c=rc k x nm (.slice la lb.length lc) wi n d (.slice aa an ac):=⟨_,rfl⟩
  have HWa:Hid (∀ W,Wm u w0 kb w.heap.size (w.heap.size+1) (q1,q2) (rc k x nm (.slice la lb.length lc) wi n d (.slice aa an ac)) pre W→Calls Tryz.prog 25 #[.pointer (some ⟨kb,0,none⟩),.string ⟨z0.toArray⟩] W fun e w'=>e=.returned (.tuple #[.int .i64 (z0.length:Int),.nilIface])∧Wm u w0 kb w.heap.size (w.heap.size+1) (q1,q2) (rc k x nm (.slice la lb.length lc) wi n d (.slice aa an ac)) (pre++z0) w'):=fun W h=>h.ws z0 (by omega)
  have HWc:Hid (∀ l W,l.length+y3.length≤140737488355328→Wm u w0 kb w.heap.size (w.heap.size+1) (q1,q2) (rc k x nm (.slice la lb.length lc) wi n d (.slice aa an ac)) l W→Calls Tryz.prog 25 #[.pointer (some ⟨kb,0,none⟩),.string ⟨y3.toArray⟩] W fun e w'=>e=.returned (.tuple #[.int .i64 (y3.length:Int),.nilIface])∧Wm u w0 kb w.heap.size (w.heap.size+1) (q1,q2) (rc k x nm (.slice la lb.length lc) wi n d (.slice aa an ac)) (l++y3) w'):=fun l W hl h=>h.ws y3 hl
  have HWb:Hid (∀ W,q1=3→Wm u w0 kb w.heap.size (w.heap.size+1) (q1,q2) (rc k x nm (.slice la lb.length lc) wi n d (.slice aa an ac)) (pre++z0) W→Calls Tryz.prog 25 #[.pointer (some ⟨kb,0,none⟩),.string ⟨z3.toArray⟩] W fun e w'=>e=.returned (.tuple #[.int .i64 (z3.length:Int),.nilIface])∧Wm u w0 kb w.heap.size (w.heap.size+1) (q1,q2) (rc k x nm (.slice la lb.length lc) wi n d (.slice aa an ac)) (pre++z0++z3) w'):=fun W g h=>h.ws z3 (by rw [if_pos g] at hTx;simp only [List.length_append];omega)
  have lz:q1=3→z3.length≤140737488355328:=fun g=>by rw [if_pos g] at hTx;omega
  clear HF hT hy1 hy2 hy3 hz0 ly hpl hc
  obtain ⟨c0,c1⟩:=kd_cells HM0.out.kd
  go_enter Tryz.func27,Tryz.ntmps27
  go_upto_region 1 with fail
  rw [← HW0.out]
  go_wp2_with fail
  refine Calls.mono (HWa.out _ HM0.out) ?_
  rintro e w1 ⟨rfl,hm1⟩
  have HM1:=hid_of hm1
  clear hm1 HWa c0 c1 s0
  obtain ⟨c0,c1⟩:=kd_cells HM1.out.kd
  by_cases g:q1=3
  · have hg:((q1:Int) == 3)=true:=by rw [beq_iff_eq];omega
    rw [if_pos g] at hTx
    have HE:=hid_of (HR3.out g)
    clear HR3 HR0
    have l3:=lz g
    have s1:∀ W,(Op.stringOp .add ⟨I1.toArray⟩ ⟨#[47]⟩).run Tryz.prog W=.ok (.string ⟨z1.toArray⟩) W:=fun W=>by rw [hz1];exact La.sadd I1 [47] (by rw [hz3,hz2,hz1] at l3;simp at l3 ⊢;omega) W
    have s2:∀ W,(Op.stringOp .add ⟨z1.toArray⟩ ⟨I2.toArray⟩).run Tryz.prog W=.ok (.string ⟨z2.toArray⟩) W:=fun W=>by rw [hz2];exact La.sadd z1 I2 (by rw [hz3,hz2] at l3;simp at l3;omega) W
    have s3:∀ W,(Op.stringOp .add ⟨z2.toArray⟩ ⟨#[44,32]⟩).run Tryz.prog W=.ok (.string ⟨z3.toArray⟩) W:=fun W=>by rw [hz3];exact La.sadd z2 [44,32] (by rw [hz3] at l3;simp at l3 ⊢;omega) W
    have HKq:Hid (∀ l W1,Wm u w0 kb w.heap.size (w.heap.size+1) (q1,q2) (rc k x nm (.slice la lb.length lc) wi n d (.slice aa an ac)) l W1→(fun W=>W.cell? ⟨w.heap.size+1,5,none⟩=some (.int .i64 n)∧W.cell? ⟨w.heap.size+1,6,none⟩=some (.int .i64 d)) W1):=fun l W1 k=>by obtain ⟨u0,u1,u2,u3,u4,u5,u6,u7⟩:=eight k.rl;exact ⟨u5,u6⟩
    have HKp:Hid (∀ W1,Below w1.heap.size w1 W1→(fun W=>W.cell? ⟨w.heap.size+1,5,none⟩=some (.int .i64 n)∧W.cell? ⟨w.heap.size+1,6,none⟩=some (.int .i64 d)) W1):=fun W1 hb=>HKq.out _ _ (HM1.out.below hb)
    have HX1:Hid (∀ W,Below w1.heap.size w1 W→Calls Tryz.prog 40 #[.int .i64 n] W fun e w'=>e=.returned (.string ⟨I1.toArray⟩)∧Below W.heap.size W w'):=fun W hb=>HD1.out W (bt HM1.out.st hb)
    have HX2:Hid (∀ W,Below w1.heap.size w1 W→Calls Tryz.prog 40 #[.int .i64 d] W fun e w'=>e=.returned (.string ⟨I2.toArray⟩)∧Below W.heap.size W w'):=fun W hb=>HD2.out W (bt HM1.out.st hb)
    have HXW:Hid (∀ W,Below w1.heap.size w1 W→Calls Tryz.prog 25 #[.pointer (some ⟨kb,0,none⟩),.string ⟨z3.toArray⟩] W fun e w'=>e=.returned (.tuple #[.int .i64 (z3.length:Int),.nilIface])∧Wm u w0 kb w.heap.size (w.heap.size+1) (q1,q2) (rc k x nm (.slice la lb.length lc) wi n d (.slice aa an ac)) (pre++z0++z3) w'):=fun W hb=>HWb.out W g (HM1.out.below hb)
    clear g lz hz1 hz2 hz3 l3
    go_upto_region 3 with fail
    go_region_held3 (fun W=>W.cell? ⟨w.heap.size+1,5,none⟩=some (.int .i64 n)∧W.cell? ⟨w.heap.size+1,6,none⟩=some (.int .i64 d))
        (first | (with_reducible exact HKq.out _ _ hPz) | ((with_reducible refine HKp.out _ ?_);repeat (first | with_reducible exact hB9 | with_reducible exact Below.refl _ _ | with_reducible refine belD' ?_ | with_reducible refine belN' _ ?_)))
        (first
          | (go_at_call 40;(first | (with_reducible refine Calls.mono (HX1.out _ (by repeat (first | with_reducible exact hB9 | with_reducible exact Below.refl _ _ | with_reducible refine belD' ?_ | with_reducible refine belN' _ ?_))) ?_) | (with_reducible refine Calls.mono (HX2.out _ (by repeat (first | with_reducible exact hB9 | with_reducible exact Below.refl _ _ | with_reducible refine belD' ?_ | with_reducible refine belN' _ ?_))) ?_));rintro e w9 ⟨rfl,hb9⟩;have hB9:Below w1.heap.size w1 w9:=bt (by repeat (first | with_reducible exact hB9 | with_reducible exact Below.refl _ _ | with_reducible refine belD' ?_ | with_reducible refine belN' _ ?_)) hb9)
          | (go_at_call 25;(with_reducible refine Calls.mono (HXW.out _ (by repeat (first | with_reducible exact hB9 | with_reducible exact Below.refl _ _ | with_reducible refine belD' ?_ | with_reducible refine belN' _ ?_))) ?_);rintro e wz ⟨rfl,hPz⟩))
    all_goals
      have HM2:=hid_of hPz
      clear hPz
      have HKq:Hid (∀ l W1,Wm u w0 kb w.heap.size (w.heap.size+1) (q1,q2) (rc k x nm (.slice la lb.length lc) wi n d (.slice aa an ac)) l W1→(fun W=>W.cell? ⟨w.heap.size+1,2,none⟩=some (.string ⟨nm.toArray⟩)∧W.cell? ⟨w.heap.size+1,3,none⟩=some (.slice la lb.length lc)∧W.cell? ⟨w.heap.size+1,4,none⟩=some (.int .i64 wi)) W1):=fun l W1 k=>by obtain ⟨u0,u1,u2,u3,u4,u5,u6,u7⟩:=eight k.rl;exact ⟨u2,u3,u4⟩
      have HKp:Hid (∀ W1,Below wz.heap.size wz W1→(fun W=>W.cell? ⟨w.heap.size+1,2,none⟩=some (.string ⟨nm.toArray⟩)∧W.cell? ⟨w.heap.size+1,3,none⟩=some (.slice la lb.length lc)∧W.cell? ⟨w.heap.size+1,4,none⟩=some (.int .i64 wi)) W1):=fun W1 hb=>HKq.out _ _ (HM2.out.below hb)
      have HX3:Hid (∀ W,Below wz.heap.size wz W→Calls Tryz.prog 40 #[.int .i64 wi] W fun e w'=>e=.returned (.string ⟨I3.toArray⟩)∧Below W.heap.size W w'):=fun W hb=>HD3.out W (bt HM2.out.st hb)
      have HXP:Hid (∀ W,Below wz.heap.size wz W→Calls Tryz.prog 41 #[.string ⟨nm.toArray⟩,.slice la lb.length lc] W fun e w'=>e=.returned (.string ⟨P.toArray⟩)∧Below W.heap.size W w'):=fun W hb=>HPr.out W (bt HM2.out.st hb)
      have HXW:Hid (∀ W,Below wz.heap.size wz W→Calls Tryz.prog 25 #[.pointer (some ⟨kb,0,none⟩),.string ⟨y3.toArray⟩] W fun e w'=>e=.returned (.tuple #[.int .i64 (y3.length:Int),.nilIface])∧Wm u w0 kb w.heap.size (w.heap.size+1) (q1,q2) (rc k x nm (.slice la lb.length lc) wi n d (.slice aa an ac)) ((pre++z0++z3)++y3) w'):=fun W hb=>HWc.out _ W (by simp only [List.length_append];omega) (HM2.out.below hb)
      clear HWc HWb HD1 HD2 HD3 HPr HM0 HW0
      go_upto_region 4 with fail
      go_region_held3 (fun W=>W.cell? ⟨w.heap.size+1,2,none⟩=some (.string ⟨nm.toArray⟩)∧W.cell? ⟨w.heap.size+1,3,none⟩=some (.slice la lb.length lc)∧W.cell? ⟨w.heap.size+1,4,none⟩=some (.int .i64 wi))
          (first | (with_reducible exact HKq.out _ _ hPz) | ((with_reducible refine HKp.out _ ?_);repeat (first | with_reducible exact hB9 | with_reducible exact Below.refl _ _ | with_reducible refine belD' ?_ | with_reducible refine belN' _ ?_)))
          (first
            | (go_at_call 40;(with_reducible refine Calls.mono (HX3.out _ (by repeat (first | with_reducible exact hB9 | with_reducible exact Below.refl _ _ | with_reducible refine belD' ?_ | with_reducible refine belN' _ ?_))) ?_);rintro e w9 ⟨rfl,hb9⟩;have hB9:Below wz.heap.size wz w9:=bt (by repeat (first | with_reducible exact hB9 | with_reducible exact Below.refl _ _ | with_reducible refine belD' ?_ | with_reducible refine belN' _ ?_)) hb9)
            | (go_at_call 41;(with_reducible refine Calls.mono (HXP.out _ (by repeat (first | with_reducible exact hB9 | with_reducible exact Below.refl _ _ | with_reducible refine belD' ?_ | with_reducible refine belN' _ ?_))) ?_);rintro e w9 ⟨rfl,hb9⟩;have hB9:Below wz.heap.size wz w9:=bt (by repeat (first | with_reducible exact hB9 | with_reducible exact Below.refl _ _ | with_reducible refine belD' ?_ | with_reducible refine belN' _ ?_)) hb9)
            | (go_at_call 25;(with_reducible refine Calls.mono (HXW.out _ (by repeat (first | with_reducible exact hB9 | with_reducible exact Below.refl _ _ | with_reducible refine belD' ?_ | with_reducible refine belN' _ ?_))) ?_);rintro e wz ⟨rfl,hPz⟩))
      all_goals
          go_wp2_with fail
          go_end0
          exact ⟨rfl,by rw [HE.out];exact hPz.bs⟩
  · have hg:((q1:Int) == 3)=false:=by rw [beq_eq_false_iff_ne];omega
    rw [if_neg g] at hTx
    have HE:=hid_of (HR0.out g)
    clear HR3 HR0
    clear g lz hz1 hz2 hz3
    have HKq:Hid (∀ l W1,Wm u w0 kb w.heap.size (w.heap.size+1) (q1,q2) (rc k x nm (.slice la lb.length lc) wi n d (.slice aa an ac)) l W1→(fun W=>W.cell? ⟨w.heap.size+1,2,none⟩=some (.string ⟨nm.toArray⟩)∧W.cell? ⟨w.heap.size+1,3,none⟩=some (.slice la lb.length lc)∧W.cell? ⟨w.heap.size+1,4,none⟩=some (.int .i64 wi)) W1):=fun l W1 k=>by obtain ⟨u0,u1,u2,u3,u4,u5,u6,u7⟩:=eight k.rl;exact ⟨u2,u3,u4⟩
    have HKp:Hid (∀ W1,Below w1.heap.size w1 W1→(fun W=>W.cell? ⟨w.heap.size+1,2,none⟩=some (.string ⟨nm.toArray⟩)∧W.cell? ⟨w.heap.size+1,3,none⟩=some (.slice la lb.length lc)∧W.cell? ⟨w.heap.size+1,4,none⟩=some (.int .i64 wi)) W1):=fun W1 hb=>HKq.out _ _ (HM1.out.below hb)
    have HX3:Hid (∀ W,Below w1.heap.size w1 W→Calls Tryz.prog 40 #[.int .i64 wi] W fun e w'=>e=.returned (.string ⟨I3.toArray⟩)∧Below W.heap.size W w'):=fun W hb=>HD3.out W (bt HM1.out.st hb)
    have HXP:Hid (∀ W,Below w1.heap.size w1 W→Calls Tryz.prog 41 #[.string ⟨nm.toArray⟩,.slice la lb.length lc] W fun e w'=>e=.returned (.string ⟨P.toArray⟩)∧Below W.heap.size W w'):=fun W hb=>HPr.out W (bt HM1.out.st hb)
    have HXW:Hid (∀ W,Below w1.heap.size w1 W→Calls Tryz.prog 25 #[.pointer (some ⟨kb,0,none⟩),.string ⟨y3.toArray⟩] W fun e w'=>e=.returned (.tuple #[.int .i64 (y3.length:Int),.nilIface])∧Wm u w0 kb w.heap.size (w.heap.size+1) (q1,q2) (rc k x nm (.slice la lb.length lc) wi n d (.slice aa an ac)) ((pre++z0)++y3) w'):=fun W hb=>HWc.out _ W (by simp only [List.length_append];omega) (HM1.out.below hb)
    clear HWc HWb HD1 HD2 HD3 HPr HM0 HW0
    go_upto_region 4 with fail
    go_region_held3 (fun W=>W.cell? ⟨w.heap.size+1,2,none⟩=some (.string ⟨nm.toArray⟩)∧W.cell? ⟨w.heap.size+1,3,none⟩=some (.slice la lb.length lc)∧W.cell? ⟨w.heap.size+1,4,none⟩=some (.int .i64 wi))
        (first | (with_reducible exact HKq.out _ _ hPz) | ((with_reducible refine HKp.out _ ?_);repeat (first | with_reducible exact hB9 | with_reducible exact Below.refl _ _ | with_reducible refine belD' ?_ | with_reducible refine belN' _ ?_)))
        (first
          | (go_at_call 40;(with_reducible refine Calls.mono (HX3.out _ (by repeat (first | with_reducible exact hB9 | with_reducible exact Below.refl _ _ | with_reducible refine belD' ?_ | with_reducible refine belN' _ ?_))) ?_);rintro e w9 ⟨rfl,hb9⟩;have hB9:Below w1.heap.size w1 w9:=bt (by repeat (first | with_reducible exact hB9 | with_reducible exact Below.refl _ _ | with_reducible refine belD' ?_ | with_reducible refine belN' _ ?_)) hb9)
          | (go_at_call 41;(with_reducible refine Calls.mono (HXP.out _ (by repeat (first | with_reducible exact hB9 | with_reducible exact Below.refl _ _ | with_reducible refine belD' ?_ | with_reducible refine belN' _ ?_))) ?_);rintro e w9 ⟨rfl,hb9⟩;have hB9:Below w1.heap.size w1 w9:=bt (by repeat (first | with_reducible exact hB9 | with_reducible exact Below.refl _ _ | with_reducible refine belD' ?_ | with_reducible refine belN' _ ?_)) hb9)
          | (go_at_call 25;(with_reducible refine Calls.mono (HXW.out _ (by repeat (first | with_reducible exact hB9 | with_reducible exact Below.refl _ _ | with_reducible refine belD' ?_ | with_reducible refine belN' _ ?_))) ?_);rintro e wz ⟨rfl,hPz⟩))
    all_goals
        go_wp2_with fail
        go_end0
        exact ⟨rfl,by rw [HE.out];exact hPz.bs⟩
end Go.Proofs.YtifapjammoahgaaGreatDoor.Ru
