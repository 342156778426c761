/- THE READER: a series, where it is a counter that is right. Own work of the verifier. -/
import Derived.Test.YtfkbjdgbpenflaaGreatDoorWBF
import Derived.LoopN
import Derived.Recover
import Derived.Defers
set_option maxRecDepth 100000
set_option maxHeartbeats 4000000
namespace Go.Proofs.YtfkbjdgbpenflaaGreatDoor.Sc
open Go.RowKit Me
abbrev cx (nm hp:List UInt8) (L:List La.Lb) (t:Int):Vl:=⟨⟨1,nm,hp,L⟩,t,[],0,0,0,0⟩
theorem three_cells {W:World} {b:Nat} {x0 x1 x2:Value} {t:TypeId} (h:W.heap[b]? =some (.cells #[x0,x1,x2] t)):W.cell? ⟨b,0,none⟩=some x0∧W.cell? ⟨b,1,none⟩=some x1∧W.cell? ⟨b,2,none⟩=some x2∧W.frozen? ⟨b,1,none⟩=false:=by
 refine ⟨?_,?_,?_,?_⟩ <;> simp [World.cell?,World.frozen?,h]
theorem Ss.at6 {u:World} {rb sb B:Nat} {p:Int} {r:Nat} {v:Value} {R:List Rv} {T:List UInt8} {n:Nat} {W W1 W':World} (h:Ss u rb sb B p r v R T n W) (hb:Below W.heap.size W W1) (hg:W1.grownBy W' v.ownBlock):W'.heap[sb]? =some (.cells #[.int .i64 p,v,.int .u64 (r:Int)] 25) :=
 (Chg.of_grown (S:=fun b=>v.ownBlock=some b) hg (fun _ e=>e)).at_ (hkN' h.sn hb) (own_neG h.own h.sB)
theorem Ss.last {u:World} {rb sb B:Nat} {p:Int} {r:Nat} {v:Value} {R:List Rv} {T:List UInt8} {n:Nat} {W:World} {q:Rv} (h:Ss u rb sb B p r v (R++[q]) T n W) (hl:R.length < 256) (hz:lstE ⟨p,R.map (·.1)++[q.1],r⟩=0):Calls Tryz.prog 97 #[.agg #[.int .i64 p,v,.int .u64 (r:Int)]] W fun e w'=>e=.returned (.int .i64 0)∧Below W.heap.size W w':=by
 have hv:=h.sv
 rw [List.map_append] at hv
 have:=last_any ⟨p,R.map (·.1)++[q.1],r⟩ v ⟨fun x hx=>by
  rcases List.mem_append.1 hx with k | k
  ·obtain ⟨y,hy,rfl⟩:=List.mem_map.1 k
   exact h.vw y (List.mem_append_left _ hy)
  ·rw [List.mem_singleton] at k
   subst k
   exact h.vw q (List.mem_append_right _ List.mem_cons_self),h.r64⟩ W hv (by simp) (by simp;omega)
 rw [hz] at this
 exact this
theorem own_monoG {W:World} {B b:Nat} {e:TypeId} {s n:Nat} {v:Value} {xs:List Value} (h:W.ownsRow B e s v n xs) (hb:b≤B):W.ownsRow b e s v n xs:=by
 refine ⟨h.1,?_⟩
 rcases h.2 with k | ⟨g,cap,cur,k1,k2,k3⟩
 ·exact Or.inl k
 ·exact Or.inr ⟨g,cap,cur,k1,by omega,k3⟩
structure HdL (T G:List UInt8) (k:Nat) (T1:List UInt8):Prop where
 ended:(cut10 T).2.2=true
 pre:Lib.hasPrefix (cut10 T).1 G=true
 num:whoR (Lib.trimPrefix (cut10 T).1 G)=some k
 rest:(cut10 T).2.1=T1
 len:T.length≤4194304
theorem HdL.next {T G:List UInt8} {k:Nat} {T1:List UInt8} (h:HdL T G k T1) {u:World} {rb n:Nat} {W:World} (hr:Rd u rb W T n W) (hm:Mx u) (hn:n≤1152921504606846976):Calls Tryz.prog 28 #[.pointer (some ⟨rb,0,none⟩)] W fun e w'=>e=.returned (.string ⟨(cut10 T).1.toArray⟩)∧Rd u rb W T1 (n+1) w':=by
 refine Calls.mono (next_any u rb T n W W hr hm h.len (by omega)) ?_
 rintro e w' (⟨-,q2,q3⟩ | ⟨q1,-⟩)
 ·rw [h.rest] at q3;exact ⟨q2,q3⟩
 ·rw [h.ended] at q1;cases q1
theorem HdL.behind {T G:List UInt8} {k:Nat} {T1:List UInt8} (h:HdL T G k T1) {u:World} {rb n:Nat} {S:List UInt8} {w0 W:World} (hr:Rd u rb w0 S n W):Calls Tryz.prog 27 #[.pointer (some ⟨rb,0,none⟩),.string ⟨(cut10 T).1.toArray⟩,.string ⟨G.toArray⟩] W fun e w'=>e=.returned (.string ⟨(Lib.trimPrefix (cut10 T).1 G).toArray⟩)∧w'=W:=by
 refine Calls.mono (behind_any u rb S _ G n w0 W hr) ?_
 rintro e w' ⟨rfl,⟨-,q⟩ | ⟨q,-⟩⟩
 ·exact ⟨q,rfl⟩
 ·rw [h.pre] at q;cases q
theorem HdL.whole {T G:List UInt8} {k:Nat} {T1:List UInt8} (h:HdL T G k T1) {u:World} {rb n:Nat} {S:List UInt8} {w0 W:World} (hr:Rd u rb w0 S n W) (ht:Wi.Tab u):Calls Tryz.prog 26 #[.pointer (some ⟨rb,0,none⟩),.string ⟨(Lib.trimPrefix (cut10 T).1 G).toArray⟩] W fun e w'=>e=.returned (.int .u64 (k:Int))∧Below W.heap.size W w'∧k < 18446744073709551616:=by
 refine Calls.mono (whole_any u rb S _ n w0 W hr ht) ?_
 rintro e w' ⟨hb,⟨k',q1,q2,q3⟩ | ⟨q,-⟩⟩
 ·rw [h.num] at q1;cases q1;exact ⟨q3,hb,q2⟩
 ·rw [h.num] at q;cases q
abbrev gnoT:List UInt8:=[35,32,103,110,111,109,111,110,32]
abbrev refT:List UInt8:=[35,32,114,101,102,117,115,101,100,32]
theorem snapshot_cut (u:World) (rb:Nat) (T:List UInt8) (n P:Nat) (w:World) (h:Rd u rb w T n w) (hm:Mx u) (ht:Wi.Tab u) (hn:n≤1152921504606846976) (a:HdL T gnoT P []) (hP1:1≤P) (hP2:P≤14) :
  Calls Tryz.prog 14 #[.pointer (some ⟨rb,0,none⟩)] w fun e w'=>e=gaveUp 5 (n+2)∧Below u.heap.size u w':=by
 obtain ⟨W0,hW0⟩:∃ W0,W0=w.alloc (.cells #[.int .i64 0,.slice none 0 0,.int .u64 0] 25):=⟨_,rfl⟩
 have hb0:Below w.heap.size w W0:=by rw [hW0];exact bel1 _ _
 have h0:=(h.below hb0).re
 have HN:La.HidC _ _ _ _ _:=a.next h0 hm hn
 have HBh:Hid (∀ W,Rd u rb W0 [] (n+1) W→Calls _ _ _ _ _):=fun W k=>a.behind k
 have HWh:Hid (∀ W,Rd u rb W0 [] (n+1) W→Calls _ _ _ _ _):=fun W k=>a.whole k ht
 have HYes:Hid (∀ W,Calls Tryz.prog 29 #[.pointer (some ⟨rb,0,none⟩),.bool true] W fun e w'=>e=.returned (.tuple #[])∧w'=W):=fun W=>must_yes rb W
 have HN2:Hid (∀ W,Rd u rb W0 [] (n+1) W→Calls Tryz.prog 28 #[.pointer (some ⟨rb,0,none⟩)] W fun e w'=>e=gaveUp 5 (n+2)∧Below u.heap.size u w'):=fun W k=>by
  refine Calls.mono (next_any u rb [] (n+1) W W k.re hm (by simp) (by omega)) ?_
  rintro e w' (⟨q1,-⟩ | ⟨-,q2,q3⟩)
  ·exact absurd q1 (by decide)
  ·exact ⟨q2,q3.st⟩
 have HW0:=hid_of hW0
 clear h hm ht hn a hW0 hb0 h0
 generalize (cut10 T).1=A at *
 generalize hS:Lib.trimPrefix A gnoT=S at *
 clear hS
 go_enter Tryz.func14,Tryz.ntmps14
 go_upto_region 1 with fail
 rw [← HW0.out]
 clear HW0
 go_wp2_with fail
 refine Calls.mono HN.out ?_
 rintro e w1 ⟨rfl,hr1⟩
 have D1:La.HidC _ _ _ _ _:=HBh.out _ hr1
 have D2:La.HidC _ _ _ _ _:=HWh.out _ hr1
 have HR1:=hid_of hr1
 clear HN HBh HWh hr1
 go_wp2_with fail
 refine Calls.mono D1.out ?_
 rintro e w2 ⟨rfl,rfl⟩
 go_wp2_with fail
 refine Calls.mono D2.out ?_
 rintro e w3 ⟨rfl,hb3,hk⟩
 have D3:La.HidC _ _ _ _ _:=HN2.out _ (HR1.out.below hb3)
 clear HN2 HR1 hb3 D1 D2
 go_wp2_with fail
 rw [show decide ((P:Int)≤14)=true from decide_eq_true (by omega)]
 refine Calls.mono (HYes.out _) ?_
 rintro e w4 ⟨rfl,rfl⟩
 clear HYes
 go_wp2_with fail
 refine Calls.mono D3.out ?_
 rintro e w5 ⟨rfl,hb5⟩
 have HB5:=hid_of hb5
 clear hb5 D3
 go_wp2_with fail
 exact ⟨rfl,rfl,HB5.out⟩
structure Rs (w:World) (b:Nat) (x0 x1 x2 x3 x4:Value):Prop where
 s:w.heap[b]? =some (.cells #[x0,x1,x2] 25)
 e:w.heap[b+1]? =some (.cells #[x3] 27)
 l:w.heap[b+2]? =some (.cells #[x4] 3)
theorem Rs.below {w W:World} {b:Nat} {x0 x1 x2 x3 x4:Value} (h:Rs w b x0 x1 x2 x3 x4) (hb:Below w.heap.size w W):Rs W b x0 x1 x2 x3 x4:=⟨hkN' h.s hb,hkN' h.e hb,hkN' h.l hb⟩
theorem Rs.put {w:World} {b:Nat} {x0 x1 x2 x3 x4:Value} (h:Rs w b x0 x1 x2 x3 x4) (y0 y1 y2 y3 y4:Value):Rs (((((w.setCell ⟨b,0,none⟩ y0).setCell ⟨b,1,none⟩ y1).setCell ⟨b,2,none⟩ y2).setCell ⟨b+1,0,none⟩ y3).setCell ⟨b+2,0,none⟩ y4) b y0 y1 y2 y3 y4:=by
 have i1:=Lib.heap_setCell_same (i:=0) h.s y0
 have i2:=Lib.heap_setCell_same (i:=1) i1 y1
 have i3:=Lib.heap_setCell_same (i:=2) i2 y2
 have e1:(((w.setCell ⟨b,0,none⟩ y0).setCell ⟨b,1,none⟩ y1).setCell ⟨b,2,none⟩ y2).heap[b+1]? =some (.cells #[x3] 27):=by
  rw [heap_other _ _ _ _ (by show b+1≠b;omega),heap_other _ _ _ _ (by show b+1≠b;omega),heap_other _ _ _ _ (by show b+1≠b;omega)]
  exact h.e
 have e2:=Lib.heap_setCell_same (i:=0) e1 y3
 have l1:((((w.setCell ⟨b,0,none⟩ y0).setCell ⟨b,1,none⟩ y1).setCell ⟨b,2,none⟩ y2).setCell ⟨b+1,0,none⟩ y3).heap[b+2]? =some (.cells #[x4] 3):=by
  rw [heap_other _ _ _ _ (by show b+2≠b+1;omega),heap_other _ _ _ _ (by show b+2≠b;omega),heap_other _ _ _ _ (by show b+2≠b;omega),heap_other _ _ _ _ (by show b+2≠b;omega)]
  exact h.l
 have l2:=Lib.heap_setCell_same (i:=0) l1 y4
 refine ⟨?_,?_,by simpa using l2⟩
 ·rw [heap_other _ _ _ _ (by show b≠b+2;omega),heap_other _ _ _ _ (by show b≠b+1;omega)]
  simpa using i3
 ·rw [heap_other _ _ _ _ (by show b+1≠b+2;omega)]
  simpa using e2
abbrev cap3 (b:Nat):Array Value:=#[.pointer (some ⟨b,0,none⟩),.pointer (some ⟨b+1,0,none⟩),.pointer (some ⟨b+2,0,none⟩)]
theorem assert_nil (ty:TypeId) (w:World):(Instr.typeAssert Value.nilIface ty 52 true).run Tryz.prog w=.ok (.tuple #[.agg #[.int .i64 0,.int .i64 0],.bool false]) w:=by
 kernel_rfl
theorem assert_is (ty:TypeId) (e n:Int) (w:World):(Instr.typeAssert (.iface 52 (.agg #[.int .i64 e,.int .i64 n])) ty 52 true).run Tryz.prog w=.ok (.tuple #[.agg #[.int .i64 e,.int .i64 n],.bool true]) w:=by
 kernel_rfl
theorem catch_idle (b:Nat) (w:World) :
  CallsD Tryz.prog 13 (cap3 b) .returning w fun e u' w'=>e=.returned (.tuple #[])∧u'=.returning∧Below w.heap.size w w':=by
 refine callsD_of_wpS Tryz.func13 rfl fun c₀ cs hu=>?_
 apply wpS_seq
 apply wpS_region
 rw [Tryz.ntmps13]
 rw [show cap3 b++Array.replicate (16 - (cap3 b).size) undef=#[.pointer (some ⟨b,0,none⟩),.pointer (some ⟨b+1,0,none⟩),.pointer (some ⟨b+2,0,none⟩),undef,undef,undef,undef,undef,undef,undef,undef,undef,undef,undef,undef,undef] from rfl]
 simp [wpOpsS,go_sem,recoverD,hu,Exit.thenS,assert_nil]
 have HB:Hid (Below w.heap.size w (w.alloc (.cells #[.int .i64 0,.int .i64 0] 52))):=bel1 _ _
 refine wpS_of_wp ?_
 go_wp2_with fail
 cases c₀
 simp_all [bodyPostS,results,Tryz.results13,Hid]
theorem catch_pan (b:Nat) (ec:Int) (n:Nat) (older:List PanicEntry) (x0 x1 x2 x3 x4:Value) (w:World) (h:Rs w b x0 x1 x2 x3 x4) :
  CallsD Tryz.prog 13 (cap3 b) (.panicking ({ v:=flt ec n,recovered:=false }::older)) w fun e u' w'=>e=.returned (.tuple #[])∧u'=.panicking ({ v:=flt ec n,recovered:=true }::older)∧Rs w' b (.int .i64 0) (.slice none 0 0) (.int .u64 0) (.int .i64 ec) (.int .i64 n)∧Below b w w':=by
 have hsz:b+2 < w.heap.size:=(Array.getElem?_eq_some_iff.1 h.l).1
 obtain ⟨W0,hW0⟩:∃ W0,W0=w.alloc (.cells #[.int .i64 ec,.int .i64 (n:Int)] 52):=⟨_,rfl⟩
 have hb0:Below w.heap.size w W0:=by rw [hW0];exact bel1 _ _
 have hN:W0.heap[w.heap.size]? =some (.cells #[.int .i64 ec,.int .i64 (n:Int)] 52):=by rw [hW0];exact new_1 w _
 have h0:=h.below hb0
 have HQ:Hid (Rs (((((W0.setCell ⟨b,0,none⟩ (.int .i64 0)).setCell ⟨b,1,none⟩ (.slice none 0 0)).setCell ⟨b,2,none⟩ (.int .u64 0)).setCell ⟨b+1,0,none⟩ (.int .i64 ec)).setCell ⟨b+2,0,none⟩ (.int .i64 (n:Int))) b (.int .i64 0) (.slice none 0 0) (.int .u64 0) (.int .i64 ec) (.int .i64 n)∧Below b w (((((W0.setCell ⟨b,0,none⟩ (.int .i64 0)).setCell ⟨b,1,none⟩ (.slice none 0 0)).setCell ⟨b,2,none⟩ (.int .u64 0)).setCell ⟨b+1,0,none⟩ (.int .i64 ec)).setCell ⟨b+2,0,none⟩ (.int .i64 (n:Int)))):=⟨h0.put _ _ _ _ _,(((((hb0.mono (show b≤w.heap.size by omega)).setCell (p:=⟨b,0,none⟩) (Nat.le_refl _) _).setCell (p:=⟨b,1,none⟩) (Nat.le_refl _) _).setCell (p:=⟨b,2,none⟩) (Nat.le_refl _) _).setCell (p:=⟨b+1,0,none⟩) (by show b≤b+1;omega) _).setCell (p:=⟨b+2,0,none⟩) (by show b≤b+2;omega) _⟩
 obtain ⟨s0,s1,s2,f1⟩:=three_cells h0.s
 have f0:W0.frozen? ⟨b,0,none⟩=false:=by simp [World.frozen?,h0.s]
 have f2:W0.frozen? ⟨b,2,none⟩=false:=by simp [World.frozen?,h0.s]
 have e0:W0.cell? ⟨b+1,0,none⟩=some x3:=by simp [World.cell?,h0.e]
 have fe:W0.frozen? ⟨b+1,0,none⟩=false:=by simp [World.frozen?,h0.e]
 have l0:W0.cell? ⟨b+2,0,none⟩=some x4:=by simp [World.cell?,h0.l]
 have fl0:W0.frozen? ⟨b+2,0,none⟩=false:=by simp [World.frozen?,h0.l]
 have n0:W0.cell? ⟨w.heap.size,0,none⟩=some (.int .i64 ec):=by simp [World.cell?,hN]
 have n1:W0.cell? ⟨w.heap.size,1,none⟩=some (.int .i64 (n:Int)):=by simp [World.cell?,hN]
 have HW0:=hid_of hW0
 clear hW0 hN h0 hb0 h
 refine callsD_of_wpS Tryz.func13 rfl fun c₀ cs hu=>?_
 apply wpS_seq
 apply wpS_region
 rw [Tryz.ntmps13]
 rw [show cap3 b++Array.replicate (16 - (cap3 b).size) undef=#[.pointer (some ⟨b,0,none⟩),.pointer (some ⟨b+1,0,none⟩),.pointer (some ⟨b+2,0,none⟩),undef,undef,undef,undef,undef,undef,undef,undef,undef,undef,undef,undef,undef] from rfl]
 simp [wpOpsS,go_sem,recoverD,hu,Exit.thenS,assert_is]
 rw [← HW0.out]
 clear HW0
 refine wpS_of_wp ?_
 go_upto_region 2 with fail
 go_region
 have hR:Rs (((((W0.setCell ⟨b,0,none⟩ (.int .i64 0)).setCell ⟨b,1,none⟩ (.slice none 0 0)).setCell ⟨b,2,none⟩ (.int .u64 0)).setCell ⟨b+1,0,none⟩ (.int .i64 ec)).setCell ⟨b+2,0,none⟩ (.int .i64 (n:Int))).drew b (.int .i64 0) (.slice none 0 0) (.int .u64 0) (.int .i64 ec) (.int .i64 n):=⟨HQ.out.1.s,HQ.out.1.e,HQ.out.1.l⟩
 have hB:Below b w (((((W0.setCell ⟨b,0,none⟩ (.int .i64 0)).setCell ⟨b,1,none⟩ (.slice none 0 0)).setCell ⟨b,2,none⟩ (.int .u64 0)).setCell ⟨b+1,0,none⟩ (.int .i64 ec)).setCell ⟨b+2,0,none⟩ (.int .i64 (n:Int))).drew:=HQ.out.2.drew
 clear HQ s0 s1 s2 f0 f1 f2 e0 fe l0 fl0 n0 n1 hsz
 generalize (((((W0.setCell ⟨b,0,none⟩ (.int .i64 0)).setCell ⟨b,1,none⟩ (.slice none 0 0)).setCell ⟨b,2,none⟩ (.int .u64 0)).setCell ⟨b+1,0,none⟩ (.int .i64 ec)).setCell ⟨b+2,0,none⟩ (.int .i64 (n:Int))).drew=W5 at *
 show bodyPostS Tryz.prog _ _ _ _ _ _ _ _
 clear hu
 simp [bodyPostS,results,Tryz.results13,hR,hB]
theorem rs_new (w:World):Rs (((w.alloc (.cells #[.int .i64 0,.slice none 0 0,.int .u64 0] 25)).alloc (.cells #[.int .i64 0] 27)).alloc (.cells #[.int .i64 0] 3)) w.heap.size (.int .i64 0) (.slice none 0 0) (.int .u64 0) (.int .i64 0) (.int .i64 0):=by
 refine ⟨?_,?_,?_⟩
 ·exact hkN' (hkN' (new_1 w _) (bel1 _ _)) (bel1 _ _)
 ·have:=new_1 (w.alloc (.cells #[.int .i64 0,.slice none 0 0,.int .u64 0] 25)) (.cells #[.int .i64 0] 27)
  rw [show (w.alloc (.cells #[.int .i64 0,.slice none 0 0,.int .u64 0] 25)).heap.size=w.heap.size+1 by simp] at this
  exact hkN' this (bel1 _ _)
 ·have:=new_1 ((w.alloc (.cells #[.int .i64 0,.slice none 0 0,.int .u64 0] 25)).alloc (.cells #[.int .i64 0] 27)) (.cells #[.int .i64 0] 3)
  rwa [show ((w.alloc (.cells #[.int .i64 0,.slice none 0 0,.int .u64 0] 25)).alloc (.cells #[.int .i64 0] 27)).heap.size=w.heap.size+2 by simp] at this
theorem parse_cut (T:List UInt8) (g cap P:Nat) (w:World) (hm:Mx w) (ht:Wi.Tab w) (a:HdL T gnoT P []) (hP1:1≤P) (hP2:P≤14) (hcv:∀ W,Below w.heap.size w W→(convert 30 9 (.slice (some ⟨g,0,none⟩) T.length cap)).run Tryz.prog W=.ok (.string ⟨T.toArray⟩) W) :
  Calls Tryz.prog 7 #[.slice (some ⟨g,0,none⟩) T.length cap] w fun e w'=>e=.returned (.tuple #[.agg #[.int .i64 0,.slice none 0 0,.int .u64 0],.int .i64 5,.int .i64 2])∧Below w.heap.size w w':=by
 have hmf:∀ (fn:Fn) (first cap:Array Value) (w:World),(Instr.makeFunc fn first cap).run Tryz.prog w=.ok (.func fn first cap) w:=fun _ _ _ _=>rfl
 obtain ⟨W1,hW1⟩:∃ W1,W1=((w.alloc (.cells #[.int .i64 0,.slice none 0 0,.int .u64 0] 25)).alloc (.cells #[.int .i64 0] 27)).alloc (.cells #[.int .i64 0] 3):=⟨_,rfl⟩
 have hR1:Rs W1 w.heap.size (.int .i64 0) (.slice none 0 0) (.int .u64 0) (.int .i64 0) (.int .i64 0):=by rw [hW1];exact rs_new w
 have hb1:Below w.heap.size w W1:=by rw [hW1];exact bt (bt (bel1 _ _) (bel1 _ _)) (bel1 _ _)
 have hcv1:=hcv W1 hb1
 obtain ⟨W2,hW2⟩:∃ W2,W2=W1.alloc (.cells #[.string ⟨T.toArray⟩,.int .i64 0] 56):=⟨_,rfl⟩
 have hb2:Below W1.heap.size W1 W2:=by rw [hW2];exact bel1 _ _
 have hN2:W2.heap[W1.heap.size]? =some (.cells #[.string ⟨T.toArray⟩,.int .i64 0] 56):=by rw [hW2];exact new_1 W1 _
 have hr2:Rd W1 W1.heap.size W2 T 0 W2:=⟨hN2,Chg.refl _ _,Nat.le_refl _,hb2⟩
 have hsz:W1.heap.size=w.heap.size+3:=by rw [hW1];simp
 have HS:La.HidC Tryz.prog 14 #[.pointer (some ⟨w.heap.size+3,0,none⟩)] W2 (fun e w'=>e=gaveUp 5 2∧Below W1.heap.size W1 w'):=by
  rw [← hsz]
  exact snapshot_cut W1 W1.heap.size T 0 P W2 hr2 (hm.below hb1) (ht.below hb1) (by omega) a hP1 hP2
 have hlen:(T.length:Int)≤4194304:=by have:=a.len;omega
 have HW1:=hid_of hW1
 have HW2:=hid_of hW2
 have HR1:=hid_of hR1
 have HB1:=hid_of hb1
 clear hcv hm ht a hW1 hW2 hR1 hb1 hb2 hN2 hr2
 go_enter_defers Tryz.func7,Tryz.ntmps7
 go_upto_region 1 with fail
 rw [← HW1.out]
 go_upto_region 5 with fail
 rw [← HW2.out]
 clear hcv1 HW1 HW2 hsz
 go_wp2_with fail
 refine Calls.mono HS.out ?_
 rintro e w3 ⟨rfl,hb3⟩
 have HB3:=hid_of hb3
 clear HS hb3
 go_wp2_with fail
 refine leaves_cons (f:=13) (args:=cap3 w.heap.size) (by simp) (by simp [go_sem]) ?_
 refine (catch_pan w.heap.size 5 2 [] _ _ _ _ _ w3 (HR1.out.below HB3.out)).mono ?_
 rintro e u' w4 ⟨rfl,rfl,hR4,hB4⟩
 obtain ⟨s0,s1,s2,-⟩:=three_cells hR4.s
 have e0:w4.cell? ⟨w.heap.size+1,0,none⟩=some (.int .i64 5):=by simp [World.cell?,hR4.e]
 have l0:w4.cell? ⟨w.heap.size+1+1,0,none⟩=some (.int .i64 2):=by simp [World.cell?,hR4.l]
 have hB5:Below w.heap.size w w4:=((HB1.out.trans (HB3.out.mono HB1.out.size))).trans hB4
 show ∃ v,(results Tryz.f7 _).run Tryz.prog w4=.ok v w4∧_
 refine ⟨.tuple #[.agg #[.int .i64 0,.slice none 0 0,.int .u64 0],.int .i64 5,.int .i64 2],?_,rfl,hB5⟩
 clear hR4 hB4 hB5 HB1 HB3 HR1
 simp [results,Tryz.results7,go_sem,s0,s1,s2,e0,l0]
theorem own_put5 {w:World} {b B:Nat} {e:TypeId} {s n:Nat} {v:Value} {xs:List Value} (h:w.ownsRow B e s v n xs) (hb:b+2 < B) (y0 y1 y2 y3 y4:Value):(((((w.setCell ⟨b,0,none⟩ y0).setCell ⟨b,1,none⟩ y1).setCell ⟨b,2,none⟩ y2).setCell ⟨b+1,0,none⟩ y3).setCell ⟨b+2,0,none⟩ y4).ownsRow B e s v n xs:=by
 have key:∀ (W:World) (a:Addr) (y:Value),a.block < B→W.ownsRow B e s v n xs→(W.setCell a y).ownsRow B e s v n xs:=fun W a y ha hW=>(chg_set W a y).row hW (fun x hx e=>own_neG hW ha (by rw [hx,e]))
 exact key _ _ _ hb (key _ _ _ (by show b+1 < B;omega) (key _ _ _ (by show b < B;omega) (key _ _ _ (by show b < B;omega) (key _ _ _ (by show b < B;omega) h))))
theorem bel_put5 {w u:World} {b:Nat} (h:Below b u w) (y0 y1 y2 y3 y4:Value):Below b u (((((w.setCell ⟨b,0,none⟩ y0).setCell ⟨b,1,none⟩ y1).setCell ⟨b,2,none⟩ y2).setCell ⟨b+1,0,none⟩ y3).setCell ⟨b+2,0,none⟩ y4) :=
 ((((h.setCell (p:=⟨b,0,none⟩) (Nat.le_refl _) _).setCell (p:=⟨b,1,none⟩) (Nat.le_refl _) _).setCell (p:=⟨b,2,none⟩) (Nat.le_refl _) _).setCell (p:=⟨b+1,0,none⟩) (by show b≤b+1;omega) _).setCell (p:=⟨b+2,0,none⟩) (by show b≤b+2;omega) _
end Go.Proofs.YtfkbjdgbpenflaaGreatDoor.Sc
