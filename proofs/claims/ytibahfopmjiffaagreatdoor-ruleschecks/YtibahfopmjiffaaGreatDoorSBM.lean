/- RULES: A ROW OF BYTES THAT GROWS; the document's text of a number, of 'not'. Own work of the verifier. -/
import Derived.Test.YtibahfopmjiffaaGreatDoorSBK
import Derived.Test.YtibahfopmjiffaaGreatDoorSBL
import Derived.Lib.AppendStr
import Derived.Lib.BufferKept
import Derived.Deep.RegionHeld3
set_option maxRecDepth 100000
set_option maxHeartbeats 2000000
namespace Go.Proofs.YtibahfopmjiffaaGreatDoor.Ru
open Go.RowKit Me
structure Gr (u w0:World) (bv:Value) (T:List UInt8) (W:World):Prop where
  own:W.ownsRow u.heap.size 5 1 bv T.length (Lib.byteCells T)
  st:Below u.heap.size u W
  ok:Lib.OthersKept 5 none w0 W
theorem gr_slice8 {W:World} {B:Nat} {e:TypeId} {v:Value} {n:Nat} {xs:List Value} (h:W.ownsRow B e 1 v n xs):∃ ao cap,v=.slice ao n cap:=by
  rcases h.2 with ⟨k,k2⟩ | ⟨g,cap,cur,k,_⟩
  · exact ⟨none,0,by rw [k,k2]⟩
  · exact ⟨_,cap,k⟩
theorem gr_kind8 {W:World} {B:Nat} {e:TypeId} {v:Value} {n:Nat} {xs:List Value} (h:W.ownsRow B e 1 v n xs):∀ g,v.ownBlock=some g→∃ c fz,W.heap[g]? =some (.cells c e fz):=by
  intro g hg
  rcases h.2 with ⟨rfl,_⟩ | ⟨g',cap,cur,rfl,_,hgg,_⟩
  · simp [Value.ownBlock] at hg
  · simp [Value.ownBlock] at hg
    subst hg
    exact ⟨cur,_,hgg⟩
theorem Gr.re {u w0 W:World} {bv:Value} {T:List UInt8} (h:Gr u w0 bv T W):Gr u W bv T W:=⟨h.own,h.st,Lib.OthersKept.refl _ _ _⟩
theorem Gr.then {u w0 W W1:World} {bv bv1:Value} {T T1:List UInt8} (h:Gr u w0 bv T W) (k:Gr u W bv1 T1 W1):Gr u w0 bv1 T1 W1:=⟨k.own,k.st,h.ok.trans k.ok⟩
theorem Gr.below {u w0 W W1:World} {bv:Value} {T:List UInt8} (h:Gr u w0 bv T W) (hb:Below W.heap.size W W1):Gr u w0 bv T W1:=⟨own_belG h.own hb,bt h.st hb,h.ok.below hb⟩
theorem Gr.cells {u W W1:World} {g:Nat} {bv:Value} {T:List UInt8} {cs:Array Value} {t:TypeId} (h:Gr u W bv T W1) (hg:W.heap[g]? =some (.cells cs t)) (ht:t≠5):W1.heap[g]? =some (.cells cs t) :=
  h.ok g _ hg (fun e=>by cases e) (fun c fz e=>ht (by injection e))
theorem Gr.form {u w0 W:World} {bv:Value} {T:List UInt8} (h:Gr u w0 bv T W):∃ ao cap,bv=.slice ao T.length cap:=gr_slice8 h.own
theorem Gr.grow {u w0 W W1:World} {bv v:Value} {T S:List UInt8} (h:Gr u w0 bv T W) (hown:W1.ownsRow u.heap.size 5 1 v (T++S).length (Lib.byteCells (T++S))) (hg:W.grownBy W1 bv.ownBlock):Gr u w0 v (T++S) W1:=by
  refine ⟨hown,?_,h.ok.grown hg (gr_kind8 h.own)⟩
  exact ⟨hg.os.trans h.st.os,hg.tape.trans h.st.tape,hg.output.trans h.st.output,Nat.le_trans h.st.size hg.size,fun k hk=>by
    rw [hg.block k (by have:=h.st.size;omega) ?_]
    · exact h.st.block k hk
    · intro e
      rcases own_atG h.own with q | ⟨g,q1,q2,_⟩
      · rw [q] at e;cases e
      · rw [q1] at e;cases e;omega⟩
structure Tx (u w:World) (xb:Nat) (cs:Array Value) (bv:Value) (T:List UInt8) (W:World):Prop where
  gr:Gr u w bv T W
  bx:W.heap[xb]? =some (.cells cs 26)
theorem Tx.below {u w W W1:World} {xb:Nat} {cs:Array Value} {bv:Value} {T:List UInt8} (h:Tx u w xb cs bv T W) (hb:Below W.heap.size W W1):Tx u w xb cs bv T W1:=⟨h.gr.below hb,(hb.block _ (Array.getElem?_eq_some_iff.1 h.bx).1).trans h.bx⟩
theorem Tx.then {u w W W1:World} {xb:Nat} {cs:Array Value} {bv bv1:Value} {T T1:List UInt8} (h:Tx u w xb cs bv T W) (k:Gr u W bv1 T1 W1):Tx u w xb cs bv1 T1 W1:=⟨h.gr.then k,k.cells h.bx (by decide)⟩
theorem Tx.push {u w W W1:World} {xb:Nat} {cs:Array Value} {bv v:Value} {T S:List UInt8} (h:Tx u w xb cs bv T W) (hown:W1.ownsRow u.heap.size 5 1 v (T.length+S.length) (Lib.byteCells T++Lib.byteCells S)) (hg:W.grownBy W1 bv.ownBlock):Tx u w xb cs v (T++S) W1 :=
  h.then (h.gr.re.grow (by rw [List.length_append,Lib.byteCells_append];exact hown) hg)
def RPr:Prop:=∀ f,f < 18446744073709551616→∀ W,Calls Tryz.prog 37 #[.float .f64 f] W fun e w'=>e=.returned (.string ⟨(Rl.pText f).toArray⟩)∧Below W.heap.size W w'
theorem gr_info8:(Tryz.prog.info? 5).map (fun i=>(i.zero,i.size,i.bytes))=some (some (.int .u8 0),1,1):=by kernel_rfl
theorem text_num (u:World) (hPr:RPr) (x:Nat) (hx:x < 18446744073709551616) (nm:List UInt8) (la:Option Addr) (ln lc:Nat) (wi n d:Int) (aa:Option Addr) (an ac:Nat) (bv:Value) (T:List UInt8) (w:World) (h:Gr u w bv T w) (hT:T.length+(Rl.pText x).length≤140737488355327) :
    Calls Tryz.prog 24 #[bv,rx 1 x nm (.slice la ln lc) wi n d (.slice aa an ac)] w fun e w'=>∃ bv',e=.returned bv'∧Gr u w bv' (T++Rl.pText x) w':=by
  obtain ⟨i8,hi8,hy0,hy1,hy2⟩:=info_parts gr_info8
  obtain ⟨bo,bcap,rfl⟩:=h.form
  obtain ⟨W0,hW0⟩:∃ W0,W0=w.alloc (.cells (rc 1 x nm (.slice la ln lc) wi n d (.slice aa an ac)) 26):=⟨_,rfl⟩
  have hb0:Below w.heap.size w W0:=by rw [hW0];exact bel1 w _
  have hn0:W0.heap[w.heap.size]? =some (.cells (rc 1 x nm (.slice la ln lc) wi n d (.slice aa an ac)) 26):=by rw [hW0];exact new_1 w _
  have HX0:Hid (Tx u w w.heap.size (rc 1 x nm (.slice la ln lc) wi n d (.slice aa an ac)) (.slice bo T.length bcap) T W0):=⟨h.below hb0,hn0⟩
  have HP:Hid (∀ W,Calls Tryz.prog 37 #[.float .f64 x] W fun e w'=>e=.returned (.string ⟨(Rl.pText x).toArray⟩)∧Below W.heap.size W w'):=fun W=>hPr x hx W
  have HW0:=hid_of hW0
  have sF:=store_f
  clear h hx hPr hb0 hn0 hW0
  generalize Rl.pText x=y at *
  have hsz:(ByteArray.mk y.toArray).size=y.length:=by show y.toArray.size=_;simp
  go_enter Tryz.func24,Tryz.ntmps24
  go_upto_region 1 with fail
  rw [← HW0.out]
  clear HW0
  obtain ⟨y0,y1,y2,y3,y4,y5,y6,y7⟩:=eight HX0.out.bx
  go_wp2_with fail
  refine Calls.mono (HP.out _) ?_
  rintro e w1 ⟨rfl,hb1⟩
  have HX1:=hid_of (HX0.out.below hb1)
  have HO:=hid_of HX1.out.gr.own
  have hst:=HX1.out.gr.st.size
  clear HP HX0 hb1 y0 y1 y2 y3 y4 y5 y6 y7
  go_wp2_with (at_builtin;refine Lib.wpList_append_own_string _ rfl _ _ 54 9 rfl u.heap.size 5 i8 Tryz.underlying54 Tryz.underlying9 hi8 hy0 hy1 hy2 _ _ _ rfl HO.out ⟨y.toArray⟩ rfl ?c1 ?c2 ?c3 ?_)
  case c1=>rw [hsz];unfold maxLen;omega
  case c2=>rw [hsz];omega
  case c3=>exact hst
  intro v4 w4 o4 g4 n4
  have HX2:=hid_of (HX1.out.push o4 g4)
  clear o4 g4 n4 HX1 HO
  go_wp2_with fail
  go_ret
  exact ⟨_,rfl,HX2.out.gr⟩
end Go.Proofs.YtibahfopmjiffaaGreatDoor.Ru
/- RULES: THE DOCUMENT'S TEXT OF 'not' AND OF TWO (printed by gen_zi.py). Own work of the verifier. -/
set_option maxRecDepth 100000
set_option maxHeartbeats 4000000
namespace Go.Proofs.YtibahfopmjiffaaGreatDoor.Ru
open Go.RowKit Me
theorem gr_one (w:World) (x:Value) (t:TypeId):∀ j u,[x][j]? =some u→(w.alloc (.cells #[x] t)).cell? ((⟨w.heap.size,0,none⟩:Addr).add j)=some u:=by
  intro j u hu
  rw [Addr.add_lit]
  unfold World.cell?
  have hh:(w.alloc (.cells #[x] t)).heap[w.heap.size]? =some (.cells #[x] t):=by
    exact new_1 w _
  simp only [hh]
  cases j with
  | zero=>simpa using hu
  | succ j=>simp at hu
def ChQ (u:World) (c:Array Value) (L:List UInt8):Prop:=∀ bv T w,Gr u w bv T w→T.length+1000*L.length≤140737488355000→Calls Tryz.prog 24 #[bv,.agg c] w fun e w'=>∃ bv',e=.returned bv'∧Gr u w bv' (T++L) w'
theorem text_not (u:World) (x:Nat) (nm:List UInt8) (la:Option Addr) (ln lc:Nat) (wi n d:Int) (ab ao ac:Nat) (c0:Array Value) (hc0:IsRc c0) (hcs0:∀ W,Below u.heap.size u W→∀ j (hj:j < c0.size),W.cell? ⟨ab,ao+0*8+j,none⟩=some c0[j]) (L0:List UInt8) (hC0:ChQ u c0 L0) (bv:Value) (T:List UInt8) (w:World) (h:Gr u w bv T w) (hT:T.length+1000*L0.length+10≤140737488355000) :
    Calls Tryz.prog 24 #[bv,rx 21 x nm (.slice la ln lc) wi n d (.slice (some ⟨ab,ao,none⟩) 1 ac)] w fun e w'=>∃ bv',e=.returned bv'∧Gr u w bv' (T++[110,111,116,40]++L0++[41]) w':=by
  have hix:=index_rl ab ao 1 ac 0 0 rfl (by decide)
  obtain ⟨p0,hp0⟩:∃ p,p=ao+0*8:=⟨_,rfl⟩
  rw [← hp0] at hix hcs0
  clear hp0
  obtain ⟨k',x',nm',la',ln',lc',w',n',d',aa',an',ac',rfl⟩:=hc0
  have HC0:=hid_of hC0
  have HS0:=hid_of hcs0
  clear hC0 hcs0
  obtain ⟨i8,hi8,hy0,hy1,hy2⟩:=info_parts gr_info8
  obtain ⟨bo,bcap,rfl⟩:=h.form
  obtain ⟨W0,hW0⟩:∃ W0,W0=w.alloc (.cells (rc 21 x nm (.slice la ln lc) wi n d (.slice (some ⟨ab,ao,none⟩) 1 ac)) 26):=⟨_,rfl⟩
  have hb0:Below w.heap.size w W0:=by rw [hW0];exact bel1 w _
  have hn0:W0.heap[w.heap.size]? =some (.cells (rc 21 x nm (.slice la ln lc) wi n d (.slice (some ⟨ab,ao,none⟩) 1 ac)) 26):=by rw [hW0];exact new_1 w _
  have HX0:Hid (Tx u w w.heap.size (rc 21 x nm (.slice la ln lc) wi n d (.slice (some ⟨ab,ao,none⟩) 1 ac)) (.slice bo T.length bcap) T W0):=⟨h.below hb0,hn0⟩
  have HW0:=hid_of hW0
  have sF:=store_f
  clear h hb0 hn0 hW0
  go_enter Tryz.func24,Tryz.ntmps24
  go_upto_region 1 with fail
  rw [← HW0.out]
  clear HW0
  obtain ⟨y0,y1,y2,y3,y4,y5,y6,y7⟩:=eight HX0.out.bx
  have HO:=hid_of HX0.out.gr.own
  have hst:=HX0.out.gr.st.size
  go_wp2_with (at_builtin;refine Lib.wpList_append_own_string _ rfl _ _ 54 9 rfl u.heap.size 5 i8 Tryz.underlying54 Tryz.underlying9 hi8 hy0 hy1 hy2 _ _ _ rfl HO.out ⟨#[110,111,116,40]⟩ rfl ?c1 ?c2 ?c3 ?_)
  case c1=>show _+4≤_;unfold maxLen;omega
  case c2=>show _+4≤_;omega
  case c3=>exact hst
  intro v0 w0 o4 g4 n4
  obtain ⟨T1,t1⟩:∃ T',T'=T++[110,111,116,40]:=⟨_,rfl⟩
  have hx:=HX0.out.push (S:=[110,111,116,40]) o4 g4
  rw [← t1] at hx
  have HX1:=hid_of hx
  have l1:T1.length=T.length+4:=by rw [t1];simp
  have HL1:=hid_of l1
  clear l1
  obtain ⟨b0,q0,rfl⟩:=HX1.out.gr.form
  have HT1:=hid_of t1
  clear o4 g4 n4 HO hst HX0 hx t1
  clear y0 y1 y2 y3 y4 y5 y6 y7
  have cs:=HS0.out _ HX1.out.gr.st
  obtain ⟨y0,y1,y2,y3,y4,y5,y6,y7⟩:=eight HX1.out.bx
  have x0:=cs 0 (by show 0 < 8;decide)
  have x1:=cs 1 (by show 1 < 8;decide)
  have x2:=cs 2 (by show 2 < 8;decide)
  have x3:=cs 3 (by show 3 < 8;decide)
  have x4:=cs 4 (by show 4 < 8;decide)
  have x5:=cs 5 (by show 5 < 8;decide)
  have x6:=cs 6 (by show 6 < 8;decide)
  have x7:=cs 7 (by show 7 < 8;decide)
  try simp only [Nat.add_zero] at x0
  clear cs
  go_wp2_with fail
  refine Calls.mono (HC0.out _ _ _ HX1.out.gr.re (by have:=HL1.out;omega)) ?_
  rintro e w1 ⟨v1,rfl,hg5⟩
  obtain ⟨T2,t2⟩:∃ T',T'=T1++L0:=⟨_,rfl⟩
  have hx:=HX1.out.then hg5
  rw [← t2] at hx
  have HX2:=hid_of hx
  have l2:T2.length=T1.length+L0.length:=by rw [t2,List.length_append]
  have HL2:=hid_of l2
  clear l2
  obtain ⟨b1,q1,rfl⟩:=HX2.out.gr.form
  have HT2:=hid_of t2
  clear hg5 hx t2 HX1 x0 x1 x2 x3 x4 x5 x6 x7 y0 y1 y2 y3 y4 y5 y6 y7
  have HO:=hid_of HX2.out.gr.own
  have hst:=HX2.out.gr.st.size
  have HXa:=hid_of (HX2.out.below (bel1 _ (.cells #[.int .u8 41] 5)))
  go_wp2_with (at_builtin;refine wpList_append_own _ rfl _ _ 54 rfl u.heap.size 5 i8 (.int .u8 0) 1 1 Tryz.underlying54 hi8 hy0 hy1 hy2 rfl (by decide) _ _ _ rfl (HO.out.alloc _) ⟨_,0,none⟩ 1 1 [_] rfl rfl (gr_one _ _ _) (by intro u hu;simp at hu;subst hu;rfl) ?c1 ?c2 ?c3 ?_)
  case c1=>unfold maxLen;have:=HL1.out;have:=HL2.out;omega
  case c2=>have:=HL1.out;have:=HL2.out;omega
  case c3=>simp;omega
  intro v2 w2 o4 g4 n4
  obtain ⟨T3,t3⟩:∃ T',T'=T2++[41]:=⟨_,rfl⟩
  have hx:=HXa.out.push (S:=[41]) o4 g4
  rw [← t3] at hx
  have HX3:=hid_of hx
  have l3:T3.length=T2.length+1:=by rw [t3];simp
  have HL3:=hid_of l3
  clear l3
  obtain ⟨b2,q2,rfl⟩:=HX3.out.gr.form
  have HT3:=hid_of t3
  clear o4 g4 n4 HO hst HXa HX2 hx t3
  go_wp2_with fail
  go_ret
  refine ⟨_,rfl,?_⟩
  rw [show T++[110,111,116,40]++L0++[41]=T3 by rw [HT3.out,HT2.out,HT1.out]]
  exact HX3.out.gr
theorem gr_sadd (a b:List UInt8) (h:a.length+b.length≤9223372036854775807) (W:World):(Op.stringOp .add ⟨a.toArray⟩ ⟨b.toArray⟩).run Tryz.prog W=.ok (.string ⟨(a++b).toArray⟩) W:=by
  rw [run_string_add_sum W _ _ (by simp [ByteArray.size];omega),ByteArray.mk_append_mk]
theorem text_two (u:World) (k:Int) (hk1:(k == 1)=false) (hk21:(k == 21)=false) (sg:List UInt8) (hsg:sg.length≤100) (hSe:∀ W,Calls Tryz.prog 38 #[.int .i64 k] W fun e w'=>e=.returned (.bool false)∧w'=W) (hSg:∀ W,Calls Tryz.prog 42 #[.int .i64 k] W fun e w'=>e=.returned (.string ⟨sg.toArray⟩)∧Below W.heap.size W w')
    (x:Nat) (nm:List UInt8) (la:Option Addr) (ln lc:Nat) (wi n d:Int) (ab ao ac:Nat) (c0:Array Value) (hc0:IsRc c0) (hcs0:∀ W,Below u.heap.size u W→∀ j (hj:j < c0.size),W.cell? ⟨ab,ao+0*8+j,none⟩=some c0[j]) (L0:List UInt8) (hC0:ChQ u c0 L0) (c1:Array Value) (hc1:IsRc c1) (hcs1:∀ W,Below u.heap.size u W→∀ j (hj:j < c1.size),W.cell? ⟨ab,ao+1*8+j,none⟩=some c1[j]) (L1:List UInt8) (hC1:ChQ u c1 L1) (bv:Value) (T:List UInt8) (w:World) (h:Gr u w bv T w) (hT:T.length+1000*L0.length+1000*L1.length+200≤140737488355000) :
    Calls Tryz.prog 24 #[bv,rx k x nm (.slice la ln lc) wi n d (.slice (some ⟨ab,ao,none⟩) 2 ac)] w fun e w'=>∃ bv',e=.returned bv'∧Gr u w bv' (T++[40]++L0++([32]++sg++[32])++L1++[41]) w':=by
  have hix:=index_rl ab ao 2 ac 0 0 rfl (by decide)
  have hiy:=index_rl ab ao 2 ac 1 1 rfl (by decide)
  obtain ⟨p0,hp0⟩:∃ p,p=ao+0*8:=⟨_,rfl⟩
  obtain ⟨p1,hp1⟩:∃ p,p=ao+1*8:=⟨_,rfl⟩
  rw [← hp0] at hix hcs0
  rw [← hp1] at hiy hcs1
  clear hp0 hp1
  obtain ⟨k',x',nm',la',ln',lc',w',n',d',aa',an',ac',rfl⟩:=hc0
  obtain ⟨k'',x'',nm'',la'',ln'',lc'',w'',n'',d'',aa'',an'',ac'',rfl⟩:=hc1
  have HC0:=hid_of hC0
  have HS0:=hid_of hcs0
  have HC1:=hid_of hC1
  have HS1:=hid_of hcs1
  have HSe:=hid_of hSe
  have HSg:=hid_of hSg
  have a1:∀ W,(Op.stringOp .add ⟨#[32]⟩ ⟨sg.toArray⟩).run Tryz.prog W=.ok (.string ⟨([32]++sg).toArray⟩) W:=fun W=>gr_sadd [32] sg (by simp;omega) W
  obtain ⟨z1,hz1⟩:∃ z,z=[32]++sg:=⟨_,rfl⟩
  rw [← hz1] at a1
  have lz:z1.length=sg.length+1:=by rw [hz1];simp
  have a2:∀ W,(Op.stringOp .add ⟨z1.toArray⟩ ⟨#[32]⟩).run Tryz.prog W=.ok (.string ⟨(z1++[32]).toArray⟩) W:=fun W=>gr_sadd z1 [32] (by simp;omega) W
  obtain ⟨z2,hz2⟩:∃ z,z=z1++[32]:=⟨_,rfl⟩
  rw [← hz2] at a2
  have HLz:Hid (z2.length≤102):=by show _≤_;rw [hz2,List.length_append,List.length_singleton];omega
  have HZ:Hid (z2=[32]++sg++[32]):=by show _=_;rw [hz2,hz1]
  obtain ⟨RR,hRR⟩:∃ R,R=T++[40]++L0++([32]++sg++[32])++L1++[41]:=⟨_,rfl⟩
  rw [← hRR]
  have HR:=hid_of hRR
  clear hRR
  clear hC0 hcs0 hC1 hcs1 hSe hSg hz1 hz2 lz hsg
  obtain ⟨i8,hi8,hy0,hy1,hy2⟩:=info_parts gr_info8
  obtain ⟨bo,bcap,rfl⟩:=h.form
  obtain ⟨W0,hW0⟩:∃ W0,W0=w.alloc (.cells (rc k x nm (.slice la ln lc) wi n d (.slice (some ⟨ab,ao,none⟩) 2 ac)) 26):=⟨_,rfl⟩
  have hb0:Below w.heap.size w W0:=by rw [hW0];exact bel1 w _
  have hn0:W0.heap[w.heap.size]? =some (.cells (rc k x nm (.slice la ln lc) wi n d (.slice (some ⟨ab,ao,none⟩) 2 ac)) 26):=by rw [hW0];exact new_1 w _
  have HX0:Hid (Tx u w w.heap.size (rc k x nm (.slice la ln lc) wi n d (.slice (some ⟨ab,ao,none⟩) 2 ac)) (.slice bo T.length bcap) T W0):=⟨h.below hb0,hn0⟩
  have HW0:=hid_of hW0
  have sF:=store_f
  clear h hb0 hn0 hW0
  go_enter Tryz.func24,Tryz.ntmps24
  go_upto_region 1 with fail
  rw [← HW0.out]
  clear HW0
  obtain ⟨y0,y1,y2,y3,y4,y5,y6,y7⟩:=eight HX0.out.bx
  go_wp2_with fail
  refine Calls.mono (HSe.out _) ?_
  rintro e w1 ⟨rfl,rfl⟩
  clear HSe
  have HO:=hid_of HX0.out.gr.own
  have hst:=HX0.out.gr.st.size
  have HXa:=hid_of (HX0.out.below (bel1 _ (.cells #[.int .u8 40] 5)))
  go_wp2_with (at_builtin;refine wpList_append_own _ rfl _ _ 54 rfl u.heap.size 5 i8 (.int .u8 0) 1 1 Tryz.underlying54 hi8 hy0 hy1 hy2 rfl (by decide) _ _ _ rfl (HO.out.alloc _) ⟨_,0,none⟩ 1 1 [_] rfl rfl (gr_one _ _ _) (by intro u hu;simp at hu;subst hu;rfl) ?c1 ?c2 ?c3 ?_)
  case c1=>unfold maxLen;omega
  case c2=>omega
  case c3=>simp;omega
  intro v0 w0 o4 g4 n4
  obtain ⟨T1,t1⟩:∃ T',T'=T++[40]:=⟨_,rfl⟩
  have hx:=HXa.out.push (S:=[40]) o4 g4
  rw [← t1] at hx
  have HX1:=hid_of hx
  have l1:T1.length=T.length+1:=by rw [t1];simp
  have HL1:=hid_of l1
  clear l1
  obtain ⟨b0,q0,rfl⟩:=HX1.out.gr.form
  have HT1:=hid_of t1
  clear o4 g4 n4 HO hst HXa HX0 hx t1
  clear y0 y1 y2 y3 y4 y5 y6 y7
  have cs:=HS0.out _ HX1.out.gr.st
  obtain ⟨y0,y1,y2,y3,y4,y5,y6,y7⟩:=eight HX1.out.bx
  have x0:=cs 0 (by show 0 < 8;decide)
  have x1:=cs 1 (by show 1 < 8;decide)
  have x2:=cs 2 (by show 2 < 8;decide)
  have x3:=cs 3 (by show 3 < 8;decide)
  have x4:=cs 4 (by show 4 < 8;decide)
  have x5:=cs 5 (by show 5 < 8;decide)
  have x6:=cs 6 (by show 6 < 8;decide)
  have x7:=cs 7 (by show 7 < 8;decide)
  try simp only [Nat.add_zero] at x0
  clear cs
  go_wp2_with fail
  refine Calls.mono (HC0.out _ _ _ HX1.out.gr.re (by have:=HL1.out;omega)) ?_
  rintro e w1 ⟨v1,rfl,hg5⟩
  obtain ⟨T2,t2⟩:∃ T',T'=T1++L0:=⟨_,rfl⟩
  have hx:=HX1.out.then hg5
  rw [← t2] at hx
  have HX2:=hid_of hx
  have l2:T2.length=T1.length+L0.length:=by rw [t2,List.length_append]
  have HL2:=hid_of l2
  clear l2
  obtain ⟨b1,q1,rfl⟩:=HX2.out.gr.form
  have HT2:=hid_of t2
  clear hg5 hx t2 HX1 x0 x1 x2 x3 x4 x5 x6 x7 y0 y1 y2 y3 y4 y5 y6 y7
  obtain ⟨y0,y1,y2,y3,y4,y5,y6,y7⟩:=eight HX2.out.bx
  go_wp2_with fail
  refine Calls.mono (HSg.out _) ?_
  rintro e wS ⟨rfl,hbS⟩
  replace HX2:=hid_of (HX2.out.below hbS)
  have hlz:=HLz.out
  clear hbS HSg y0 y1 y2 y3 y4 y5 y6 y7
  have HO:=hid_of HX2.out.gr.own
  have hst:=HX2.out.gr.st.size
  go_wp2_with (at_builtin;refine Lib.wpList_append_own_string _ rfl _ _ 54 9 rfl u.heap.size 5 i8 Tryz.underlying54 Tryz.underlying9 hi8 hy0 hy1 hy2 _ _ _ rfl HO.out ⟨z2.toArray⟩ rfl ?c1 ?c2 ?c3 ?_)
  case c1=>show _+z2.length≤_;unfold maxLen;have:=HL1.out;have:=HL2.out;omega
  case c2=>show _+z2.length≤_;have:=HL1.out;have:=HL2.out;omega
  case c3=>exact hst
  intro v2 w2 o4 g4 n4
  obtain ⟨T3,t3⟩:∃ T',T'=T2++z2:=⟨_,rfl⟩
  have hx:=HX2.out.push (S:=z2) o4 g4
  rw [← t3] at hx
  have HX3:=hid_of hx
  have l3:T3.length=T2.length+z2.length:=by rw [t3];simp
  have HL3:=hid_of l3
  clear l3
  obtain ⟨b2,q2,rfl⟩:=HX3.out.gr.form
  have HT3:=hid_of t3
  clear o4 g4 n4 HO hst HX2 hx t3
  have cs:=HS1.out _ HX3.out.gr.st
  obtain ⟨y0,y1,y2,y3,y4,y5,y6,y7⟩:=eight HX3.out.bx
  have x0:=cs 0 (by show 0 < 8;decide)
  have x1:=cs 1 (by show 1 < 8;decide)
  have x2:=cs 2 (by show 2 < 8;decide)
  have x3:=cs 3 (by show 3 < 8;decide)
  have x4:=cs 4 (by show 4 < 8;decide)
  have x5:=cs 5 (by show 5 < 8;decide)
  have x6:=cs 6 (by show 6 < 8;decide)
  have x7:=cs 7 (by show 7 < 8;decide)
  try simp only [Nat.add_zero] at x0
  clear cs
  go_wp2_with fail
  refine Calls.mono (HC1.out _ _ _ HX3.out.gr.re (by have:=HL1.out;have:=HL2.out;have:=HL3.out;omega)) ?_
  rintro e w3 ⟨v3,rfl,hg5⟩
  obtain ⟨T4,t4⟩:∃ T',T'=T3++L1:=⟨_,rfl⟩
  have hx:=HX3.out.then hg5
  rw [← t4] at hx
  have HX4:=hid_of hx
  have l4:T4.length=T3.length+L1.length:=by rw [t4,List.length_append]
  have HL4:=hid_of l4
  clear l4
  obtain ⟨b3,q3,rfl⟩:=HX4.out.gr.form
  have HT4:=hid_of t4
  clear hg5 hx t4 HX3 x0 x1 x2 x3 x4 x5 x6 x7 y0 y1 y2 y3 y4 y5 y6 y7
  have HO:=hid_of HX4.out.gr.own
  have hst:=HX4.out.gr.st.size
  have HXa:=hid_of (HX4.out.below (bel1 _ (.cells #[.int .u8 41] 5)))
  go_wp2_with (at_builtin;refine wpList_append_own _ rfl _ _ 54 rfl u.heap.size 5 i8 (.int .u8 0) 1 1 Tryz.underlying54 hi8 hy0 hy1 hy2 rfl (by decide) _ _ _ rfl (HO.out.alloc _) ⟨_,0,none⟩ 1 1 [_] rfl rfl (gr_one _ _ _) (by intro u hu;simp at hu;subst hu;rfl) ?c1 ?c2 ?c3 ?_)
  case c1=>unfold maxLen;have:=HL1.out;have:=HL2.out;have:=HL3.out;have:=HL4.out;omega
  case c2=>have:=HL1.out;have:=HL2.out;have:=HL3.out;have:=HL4.out;omega
  case c3=>simp;omega
  intro v4 w4 o4 g4 n4
  obtain ⟨T5,t5⟩:∃ T',T'=T4++[41]:=⟨_,rfl⟩
  have hx:=HXa.out.push (S:=[41]) o4 g4
  rw [← t5] at hx
  have HX5:=hid_of hx
  have l5:T5.length=T4.length+1:=by rw [t5];simp
  have HL5:=hid_of l5
  clear l5
  obtain ⟨b4,q4,rfl⟩:=HX5.out.gr.form
  have HT5:=hid_of t5
  clear o4 g4 n4 HO hst HXa HX4 hx t5
  go_wp2_with fail
  go_ret
  refine ⟨_,rfl,?_⟩
  rw [show RR=T5 by rw [HR.out,HT5.out,HT4.out,HT3.out,HT2.out,HT1.out,HZ.out]]
  exact HX5.out.gr
end Go.Proofs.YtibahfopmjiffaaGreatDoor.Ru
/- RULES: THE DOCUMENT'S TEXT OF A SERIES (printed by gen_zk.py). Own work of the verifier. -/
set_option maxRecDepth 100000
set_option maxHeartbeats 4000000
namespace Go.Proofs.YtibahfopmjiffaaGreatDoor.Ru
open Go.RowKit Me
open Go in
theorem step_append_str {P:Program} {ops:Array Oper} {o:Oper} {a:Act} {w:World} {K:Act→World→Prop} {Q:Exit→Act→World→Prop} {E:Prop} (hg:o.guard=none) (sl x:Operand) (t u:TypeId)
    (hop:o.op=.call { callee:=.builtin .append,args:=#[sl,x],argTypes:=#[t,u] })
    (base:Nat) (e:TypeId) (i:TypeInfo) (ht:P.underlying t=some (.slice e)) (hu:P.underlying u=some .string) (hi:P.info? e=some i) (hz:i.zero=some (.int .u8 0))
    (hsize:i.size=1) (hby:i.bytes=1)
    (v:Value) (n:Nat) (xs:List Value) (hs:a.eval sl=v) (hown:w.ownsRow base e 1 v n xs) (s:ByteArray) (hx:a.eval x=.string s)
    (h63:n+s.size≤maxLen) (hbytes:n+s.size≤140737488355328) (hbase:base≤w.heap.size)
    (hK:∀ v' w',w'.ownsRow base e 1 v' (n+s.size) (xs++Lib.strCells s)→w.grownBy w' v.ownBlock→K (a.put o.dst v') w') :
    if Region.wanted o (yielded ops a.tmps)=true then Oper.wp P o a w K Q else E:=by
  have hw:Region.wanted o (yielded ops a.tmps)=true:=by simp [Region.wanted,hg]
  rw [if_pos hw]
  obtain ⟨v',w',hr,h2,h3,-⟩:=Lib.run_append_own_string (P:=P) w base t u o.type e i ht hu hi hz hsize hby v n xs hown s h63 hbytes hbase
  unfold Oper.wp execOp
  simp only [hop,resolve,invoke,builtin,Sem.run_bind,Sem.run_pure,Result.andThen_ok,List.map_toArray,List.map_cons,List.map_nil,hs,hx,hr]
  exact hK _ _ h2 h3
theorem text_ser (u:World) (k:Int) (hk8:(k == 8)=false) (hk1:(k == 1)=false) (hk21:(k == 21)=false) (wd:List UInt8) (hwd:wd.length≤100) (hSe:∀ W,Calls Tryz.prog 38 #[.int .i64 k] W fun e w'=>e=.returned (.bool true)∧w'=W) (hWd:∀ W,Calls Tryz.prog 39 #[.int .i64 k] W fun e w'=>e=.returned (.string ⟨wd.toArray⟩)∧w'=W)
    (x:Nat) (nm:List UInt8) (la:Option Addr) (ln lc:Nat) (wi n d:Int) (aa:Option Addr) (an ac:Nat) (pt:List UInt8) (hPn:∀ W,Below u.heap.size u W→Calls Tryz.prog 41 #[.string ⟨nm.toArray⟩,.slice la ln lc] W fun e w'=>e=.returned (.string ⟨pt.toArray⟩)∧Below W.heap.size W w') (dg:List UInt8) (hdg:dg.length≤100) (hWh:∀ W,Calls Tryz.prog 40 #[.int .i64 wi] W fun e w'=>e=.returned (.string ⟨dg.toArray⟩)∧Below W.heap.size W w') (bv:Value) (T:List UInt8) (w:World) (h:Gr u w bv T w) (hT:T.length+pt.length+400≤140737488355000) :
    Calls Tryz.prog 24 #[bv,rx k x nm (.slice la ln lc) wi n d (.slice aa an ac)] w fun e w'=>∃ bv',e=.returned bv'∧Gr u w bv' (T++(wd++[40])++pt++([44,32]++dg++[41])) w':=by
  have HSe:=hid_of hSe
  have HWd:=hid_of hWd
  have HPn:=hid_of hPn
  have HWh:=hid_of hWh
  have a0:∀ W,(Op.stringOp .add ⟨wd.toArray⟩ ⟨#[40]⟩).run Tryz.prog W=.ok (.string ⟨(wd++[40]).toArray⟩) W:=fun W=>gr_sadd wd [40] (by simp;omega) W
  have a1:∀ W,(Op.stringOp .add ⟨#[44,32]⟩ ⟨dg.toArray⟩).run Tryz.prog W=.ok (.string ⟨([44,32]++dg).toArray⟩) W:=fun W=>gr_sadd [44,32] dg (by simp;omega) W
  obtain ⟨z1,hz1⟩:∃ z,z=[44,32]++dg:=⟨_,rfl⟩
  rw [← hz1] at a1
  have lz:z1.length=dg.length+2:=by rw [hz1,List.length_append,List.length_cons,List.length_singleton];omega
  have a2:∀ W,(Op.stringOp .add ⟨z1.toArray⟩ ⟨#[41]⟩).run Tryz.prog W=.ok (.string ⟨(z1++[41]).toArray⟩) W:=fun W=>gr_sadd z1 [41] (by simp;omega) W
  obtain ⟨z2,hz2⟩:∃ z,z=z1++[41]:=⟨_,rfl⟩
  rw [← hz2] at a2
  have lz2:z2.length≤103:=by rw [hz2,List.length_append,List.length_singleton];omega
  obtain ⟨z0,hz0⟩:∃ z,z=wd++[40]:=⟨_,rfl⟩
  rw [← hz0] at a0
  have lz0:z0.length≤101:=by rw [hz0,List.length_append,List.length_singleton];omega
  obtain ⟨RR,hRR⟩:∃ R,R=T++(wd++[40])++pt++([44,32]++dg++[41]):=⟨_,rfl⟩
  rw [← hRR]
  have HR:Hid (RR=T++z0++pt++z2):=by show _=_;rw [hRR,hz0,hz2,hz1]
  have HLz:=hid_of (⟨lz0,lz2⟩:z0.length≤101∧z2.length≤103)
  clear hSe hWd hPn hWh hz0 hz1 hz2 hRR lz lz0 lz2 hwd hdg
  obtain ⟨i8,hi8,hy0,hy1,hy2⟩:=info_parts gr_info8
  obtain ⟨bo,bcap,rfl⟩:=h.form
  obtain ⟨W0,hW0⟩:∃ W0,W0=w.alloc (.cells (rc k x nm (.slice la ln lc) wi n d (.slice aa an ac)) 26):=⟨_,rfl⟩
  have hb0:Below w.heap.size w W0:=by rw [hW0];exact bel1 w _
  have hn0:W0.heap[w.heap.size]? =some (.cells (rc k x nm (.slice la ln lc) wi n d (.slice aa an ac)) 26):=by rw [hW0];exact new_1 w _
  have HX0:Hid (Tx u w w.heap.size (rc k x nm (.slice la ln lc) wi n d (.slice aa an ac)) (.slice bo T.length bcap) T W0):=⟨h.below hb0,hn0⟩
  have HW0:=hid_of hW0
  have sF:=store_f
  clear h hb0 hn0 hW0
  go_enter Tryz.func24,Tryz.ntmps24
  go_upto_region 1 with fail
  rw [← HW0.out]
  clear HW0
  obtain ⟨y0,y1,y2,y3,y4,y5,y6,y7⟩:=eight HX0.out.bx
  go_wp2_with fail
  refine Calls.mono (HSe.out _) ?_
  rintro e w1 ⟨rfl,rfl⟩
  clear HSe
  go_wp2_with fail
  refine Calls.mono (HWd.out _) ?_
  rintro e w2 ⟨rfl,rfl⟩
  clear HWd
  obtain ⟨g1,g2⟩:=HLz.out
  have HO:=hid_of HX0.out.gr.own
  have hst:=HX0.out.gr.st.size
  go_wp2_with (at_builtin;refine Lib.wpList_append_own_string _ rfl _ _ 54 9 rfl u.heap.size 5 i8 Tryz.underlying54 Tryz.underlying9 hi8 hy0 hy1 hy2 _ _ _ rfl HO.out ⟨z0.toArray⟩ rfl ?c1 ?c2 ?c3 ?_)
  case c1=>show _+z0.length≤_;unfold maxLen;omega
  case c2=>show _+z0.length≤_;omega
  case c3=>exact hst
  intro v0 w0 o4 g4 n4
  obtain ⟨T1,t1⟩:∃ T',T'=T++z0:=⟨_,rfl⟩
  have hx:=HX0.out.push (S:=z0) o4 g4
  rw [← t1] at hx
  have HX1:=hid_of hx
  have l1:T1.length=T.length+z0.length:=by rw [t1];simp
  have HL1:=hid_of l1
  clear l1
  obtain ⟨b0,q0,rfl⟩:=HX1.out.gr.form
  have HT1:=hid_of t1
  clear o4 g4 n4 HO hst HX0 hx t1
  clear y0 y1 y2 y3 y4 y5 y6 y7 a0
  obtain ⟨y0,y1,y2,y3,y4,y5,y6,y7⟩:=eight HX1.out.bx
  go_wp2_with fail
  refine Calls.mono (HPn.out _ HX1.out.gr.st) ?_
  rintro e wP ⟨rfl,hbP⟩
  replace HX1:=hid_of (HX1.out.below hbP)
  clear hbP HPn y0 y1 y2 y3 y4 y5 y6 y7
  have HO:=hid_of HX1.out.gr.own
  have hst:=HX1.out.gr.st.size
  go_wp2_with (at_builtin;refine Lib.wpList_append_own_string _ rfl _ _ 54 9 rfl u.heap.size 5 i8 Tryz.underlying54 Tryz.underlying9 hi8 hy0 hy1 hy2 _ _ _ rfl HO.out ⟨pt.toArray⟩ rfl ?c1 ?c2 ?c3 ?_)
  case c1=>show _+pt.length≤_;unfold maxLen;have:=HL1.out;omega
  case c2=>show _+pt.length≤_;have:=HL1.out;omega
  case c3=>exact hst
  intro v1 w1 o4 g4 n4
  obtain ⟨T2,t2⟩:∃ T',T'=T1++pt:=⟨_,rfl⟩
  have hx:=HX1.out.push (S:=pt) o4 g4
  rw [← t2] at hx
  have HX2:=hid_of hx
  have l2:T2.length=T1.length+pt.length:=by rw [t2];simp
  have HL2:=hid_of l2
  clear l2
  obtain ⟨b1,q1,rfl⟩:=HX2.out.gr.form
  have HT2:=hid_of t2
  clear o4 g4 n4 HO hst HX1 hx t2
  obtain ⟨y0,y1,y2,y3,y4,y5,y6,y7⟩:=eight HX2.out.bx
  go_wp2_with fail
  refine Calls.mono (HWh.out _) ?_
  rintro e wH ⟨rfl,hbH⟩
  replace HX2:=hid_of (HX2.out.below hbH)
  clear hbH HWh y0 y1 y2 y3 y4 y5 y6 y7
  have HO:=hid_of HX2.out.gr.own
  have hst:=HX2.out.gr.st.size
  go_wp2_with (at_builtin;refine Lib.wpList_append_own_string _ rfl _ _ 54 9 rfl u.heap.size 5 i8 Tryz.underlying54 Tryz.underlying9 hi8 hy0 hy1 hy2 _ _ _ rfl HO.out ⟨z2.toArray⟩ rfl ?c1 ?c2 ?c3 ?_)
  case c1=>show _+z2.length≤_;unfold maxLen;have:=HL1.out;have:=HL2.out;omega
  case c2=>show _+z2.length≤_;have:=HL1.out;have:=HL2.out;omega
  case c3=>exact hst
  intro v2 w2 o4 g4 n4
  obtain ⟨T3,t3⟩:∃ T',T'=T2++z2:=⟨_,rfl⟩
  have hx:=HX2.out.push (S:=z2) o4 g4
  rw [← t3] at hx
  have HX3:=hid_of hx
  have l3:T3.length=T2.length+z2.length:=by rw [t3];simp
  have HL3:=hid_of l3
  clear l3
  obtain ⟨b2,q2,rfl⟩:=HX3.out.gr.form
  have HT3:=hid_of t3
  clear o4 g4 n4 HO hst HX2 hx t3
  go_wp2_with fail
  go_ret
  refine ⟨_,rfl,?_⟩
  rw [show RR=T3 by rw [HR.out,HT3.out,HT2.out,HT1.out]]
  exact HX3.out.gr
theorem text_qua (u:World) (n d:Int) (wd:List UInt8) (hwd:wd.length≤100) (hSe:∀ W,Calls Tryz.prog 38 #[.int .i64 8] W fun e w'=>e=.returned (.bool true)∧w'=W) (hWd:∀ W,Calls Tryz.prog 39 #[.int .i64 8] W fun e w'=>e=.returned (.string ⟨wd.toArray⟩)∧w'=W) (d1:List UInt8) (hd1:d1.length≤100) (hWn:∀ W,Calls Tryz.prog 40 #[.int .i64 n] W fun e w'=>e=.returned (.string ⟨d1.toArray⟩)∧Below W.heap.size W w') (d2:List UInt8) (hd2:d2.length≤100) (hWe:∀ W,Calls Tryz.prog 40 #[.int .i64 d] W fun e w'=>e=.returned (.string ⟨d2.toArray⟩)∧Below W.heap.size W w')
    (x:Nat) (nm:List UInt8) (la:Option Addr) (ln lc:Nat) (wi:Int) (aa:Option Addr) (an ac:Nat) (pt:List UInt8) (hPn:∀ W,Below u.heap.size u W→Calls Tryz.prog 41 #[.string ⟨nm.toArray⟩,.slice la ln lc] W fun e w'=>e=.returned (.string ⟨pt.toArray⟩)∧Below W.heap.size W w') (dg:List UInt8) (hdg:dg.length≤100) (hWh:∀ W,Calls Tryz.prog 40 #[.int .i64 wi] W fun e w'=>e=.returned (.string ⟨dg.toArray⟩)∧Below W.heap.size W w') (bv:Value) (T:List UInt8) (w:World) (h:Gr u w bv T w) (hT:T.length+pt.length+800≤140737488355000) :
    Calls Tryz.prog 24 #[bv,rx 8 x nm (.slice la ln lc) wi n d (.slice aa an ac)] w fun e w'=>∃ bv',e=.returned bv'∧Gr u w bv' (T++(wd++[40])++(d1++[47]++d2++[44,32])++pt++([44,32]++dg++[41])) w':=by
  have HSe:=hid_of hSe
  have HWd:=hid_of hWd
  have HPn:=hid_of hPn
  have HWh:=hid_of hWh
  have a0:∀ W,(Op.stringOp .add ⟨wd.toArray⟩ ⟨#[40]⟩).run Tryz.prog W=.ok (.string ⟨(wd++[40]).toArray⟩) W:=fun W=>gr_sadd wd [40] (by simp;omega) W
  have a1:∀ W,(Op.stringOp .add ⟨#[44,32]⟩ ⟨dg.toArray⟩).run Tryz.prog W=.ok (.string ⟨([44,32]++dg).toArray⟩) W:=fun W=>gr_sadd [44,32] dg (by simp;omega) W
  obtain ⟨z1,hz1⟩:∃ z,z=[44,32]++dg:=⟨_,rfl⟩
  rw [← hz1] at a1
  have lz:z1.length=dg.length+2:=by rw [hz1,List.length_append,List.length_cons,List.length_singleton];omega
  have a2:∀ W,(Op.stringOp .add ⟨z1.toArray⟩ ⟨#[41]⟩).run Tryz.prog W=.ok (.string ⟨(z1++[41]).toArray⟩) W:=fun W=>gr_sadd z1 [41] (by simp;omega) W
  obtain ⟨z2,hz2⟩:∃ z,z=z1++[41]:=⟨_,rfl⟩
  rw [← hz2] at a2
  have lz2:z2.length≤103:=by rw [hz2,List.length_append,List.length_singleton];omega
  obtain ⟨z0,hz0⟩:∃ z,z=wd++[40]:=⟨_,rfl⟩
  rw [← hz0] at a0
  have lz0:z0.length≤101:=by rw [hz0,List.length_append,List.length_singleton];omega
  have b0:∀ W,(Op.stringOp .add ⟨d1.toArray⟩ ⟨#[47]⟩).run Tryz.prog W=.ok (.string ⟨(d1++[47]).toArray⟩) W:=fun W=>gr_sadd d1 [47] (by simp;omega) W
  obtain ⟨y8,hy8⟩:∃ z,z=d1++[47]:=⟨_,rfl⟩
  rw [← hy8] at b0
  have ly8:y8.length=d1.length+1:=by rw [hy8,List.length_append,List.length_singleton]
  have b1:∀ W,(Op.stringOp .add ⟨y8.toArray⟩ ⟨d2.toArray⟩).run Tryz.prog W=.ok (.string ⟨(y8++d2).toArray⟩) W:=fun W=>gr_sadd y8 d2 (by omega) W
  obtain ⟨y9,hy9⟩:∃ z,z=y8++d2:=⟨_,rfl⟩
  rw [← hy9] at b1
  have ly9:y9.length=y8.length+d2.length:=by rw [hy9,List.length_append]
  have b2:∀ W,(Op.stringOp .add ⟨y9.toArray⟩ ⟨#[44,32]⟩).run Tryz.prog W=.ok (.string ⟨(y9++[44,32]).toArray⟩) W:=fun W=>gr_sadd y9 [44,32] (by simp;omega) W
  obtain ⟨zq,hzq⟩:∃ z,z=y9++[44,32]:=⟨_,rfl⟩
  rw [← hzq] at b2
  have lzq:zq.length≤203:=by rw [hzq,List.length_append,List.length_cons,List.length_singleton];omega
  have HWn:=hid_of hWn
  have HWe:=hid_of hWe
  have HLq:=hid_of lzq
  obtain ⟨RR,hRR⟩:∃ R,R=T++(wd++[40])++(d1++[47]++d2++[44,32])++pt++([44,32]++dg++[41]):=⟨_,rfl⟩
  rw [← hRR]
  have HR:Hid (RR=T++z0++zq++pt++z2):=by show _=_;rw [hRR,hz0,hz2,hz1,hzq,hy9,hy8]
  have HLz:=hid_of (⟨lz0,lz2⟩:z0.length≤101∧z2.length≤103)
  clear hWn hWe lzq ly8 ly9 hy8 hy9 hzq hd1 hd2 hSe hWd hPn hWh hz0 hz1 hz2 hRR lz lz0 lz2 hwd hdg
  obtain ⟨i8,hi8,hy0,hy1,hy2⟩:=info_parts gr_info8
  obtain ⟨bo,bcap,rfl⟩:=h.form
  obtain ⟨W0,hW0⟩:∃ W0,W0=w.alloc (.cells (rc 8 x nm (.slice la ln lc) wi n d (.slice aa an ac)) 26):=⟨_,rfl⟩
  have hb0:Below w.heap.size w W0:=by rw [hW0];exact bel1 w _
  have hn0:W0.heap[w.heap.size]? =some (.cells (rc 8 x nm (.slice la ln lc) wi n d (.slice aa an ac)) 26):=by rw [hW0];exact new_1 w _
  have HX0:Hid (Tx u w w.heap.size (rc 8 x nm (.slice la ln lc) wi n d (.slice aa an ac)) (.slice bo T.length bcap) T W0):=⟨h.below hb0,hn0⟩
  have HW0:=hid_of hW0
  have sF:=store_f
  clear h hb0 hn0 hW0
  go_enter Tryz.func24,Tryz.ntmps24
  go_upto_region 1 with fail
  rw [← HW0.out]
  clear HW0
  obtain ⟨y0,y1,y2,y3,y4,y5,y6,y7⟩:=eight HX0.out.bx
  go_wp2_with fail
  refine Calls.mono (HSe.out _) ?_
  rintro e w1 ⟨rfl,rfl⟩
  clear HSe
  go_wp2_with fail
  refine Calls.mono (HWd.out _) ?_
  rintro e w2 ⟨rfl,rfl⟩
  clear HWd
  obtain ⟨g1,g2⟩:=HLz.out
  have HO:=hid_of HX0.out.gr.own
  have hst:=HX0.out.gr.st.size
  go_wp2_with (at_builtin;refine Lib.wpList_append_own_string _ rfl _ _ 54 9 rfl u.heap.size 5 i8 Tryz.underlying54 Tryz.underlying9 hi8 hy0 hy1 hy2 _ _ _ rfl HO.out ⟨z0.toArray⟩ rfl ?c1 ?c2 ?c3 ?_)
  case c1=>show _+z0.length≤_;unfold maxLen;omega
  case c2=>show _+z0.length≤_;omega
  case c3=>exact hst
  intro v0 w0 o4 g4 n4
  obtain ⟨T1,t1⟩:∃ T',T'=T++z0:=⟨_,rfl⟩
  have hx:=HX0.out.push (S:=z0) o4 g4
  rw [← t1] at hx
  have HX1:=hid_of hx
  have l1:T1.length=T.length+z0.length:=by rw [t1];simp
  have HL1:=hid_of l1
  clear l1
  obtain ⟨b0,q0,rfl⟩:=HX1.out.gr.form
  have HT1:=hid_of t1
  clear o4 g4 n4 HO hst HX0 hx t1
  clear y0 y1 y2 y3 y4 y5 y6 y7 a0
  have HKp:Hid (∀ W,Below w0.heap.size w0 W→W.cell? ⟨w.heap.size,5,none⟩=some (.int .i64 n)∧W.cell? ⟨w.heap.size,6,none⟩=some (.int .i64 d)):=fun W hb=>by
    obtain ⟨u0,u1,u2,u3,u4,u5,u6,u7⟩:=eight (HX1.out.below hb).bx
    exact ⟨u5,u6⟩
  have HKq:Hid (∀ v T W1,Tx u w w.heap.size (rc 8 x nm (.slice la ln lc) wi n d (.slice aa an ac)) v T W1→W1.cell? ⟨w.heap.size,5,none⟩=some (.int .i64 n)∧W1.cell? ⟨w.heap.size,6,none⟩=some (.int .i64 d)):=fun v T W1 k=>by
    obtain ⟨u0,u1,u2,u3,u4,u5,u6,u7⟩:=eight k.bx
    exact ⟨u5,u6⟩
  have HTx:Hid (∀ W,Below w0.heap.size w0 W→Tx u w w.heap.size (rc 8 x nm (.slice la ln lc) wi n d (.slice aa an ac)) (.slice b0 T1.length q0) T1 W):=fun W hb=>HX1.out.below hb
  have HSt:Hid (∀ W,Below w0.heap.size w0 W→u.heap.size≤W.heap.size):=fun W hb=>(HX1.out.below hb).gr.st.size
  have g3:=HLq.out
  obtain ⟨y0,y1,y2,y3,y4,y5,y6,y7⟩:=eight HX1.out.bx
  have hszq:(ByteArray.mk zq.toArray).size=zq.length:=by show zq.toArray.size=_;simp
  go_upto_region 10 with fail
  go_region_held3 (fun W=>W.cell? ⟨w.heap.size,5,none⟩=some (.int .i64 n)∧W.cell? ⟨w.heap.size,6,none⟩=some (.int .i64 d))
      (first | (with_reducible exact HKq.out _ _ _ hPz) | ((with_reducible refine HKp.out _ ?_);repeat (first | with_reducible exact hB9 | with_reducible exact Below.refl _ _ | with_reducible refine bD' ?_)))
      (first
        | (go_at_call 40;(first | (with_reducible refine Calls.mono (HWn.out _) ?_) | (with_reducible refine Calls.mono (HWe.out _) ?_));rintro e w9 ⟨rfl,hb9⟩;have hB9:Below w0.heap.size w0 w9:=bt (by repeat (first | with_reducible exact hB9 | with_reducible exact Below.refl _ _ | with_reducible refine bD' ?_)) hb9)
        | (refine step_append_str rfl (.tmp 42) (.tmp 51) 54 9 rfl u.heap.size 5 i8 Tryz.underlying54 Tryz.underlying9 hi8 hy0 hy1 hy2 (.slice b0 T1.length q0) T1.length _ (by simp [Act.eval]) (HTx.out _ (by repeat (first | with_reducible exact hB9 | with_reducible exact Below.refl _ _ | with_reducible refine bD' ?_))).gr.own ⟨zq.toArray⟩ (by simp [Act.eval]) (by rw [hszq];have:=HL1.out;have:=HLq.out;unfold maxLen;omega) (by rw [hszq];have:=HL1.out;have:=HLq.out;omega) (HSt.out _ (by repeat (first | with_reducible exact hB9 | with_reducible exact Below.refl _ _ | with_reducible refine bD' ?_))) ?_;intro v9 wz o9 g9;have hPz:Tx u w w.heap.size (rc 8 x nm (.slice la ln lc) wi n d (.slice aa an ac)) v9 (T1++zq) wz:=(HTx.out _ (by repeat (first | with_reducible exact hB9 | with_reducible exact Below.refl _ _ | with_reducible refine bD' ?_))).push (S:=zq) o9 g9))
  obtain ⟨T2,t2⟩:∃ T',T'=T1++zq:=⟨_,rfl⟩
  rw [← t2] at hPz
  have HX2:=hid_of hPz
  have l2:T2.length=T1.length+zq.length:=by rw [t2,List.length_append]
  have HL2:=hid_of l2
  have HT2:=hid_of t2
  clear l2 t2 hPz
  obtain ⟨b1,q1,rfl⟩:=HX2.out.gr.form
  clear HKp HKq HTx HSt HX1 HWn HWe y0 y1 y2 y3 y4 y5 y6 y7
  obtain ⟨y0,y1,y2,y3,y4,y5,y6,y7⟩:=eight HX2.out.bx
  go_wp2_with fail
  refine Calls.mono (HPn.out _ HX2.out.gr.st) ?_
  rintro e wP ⟨rfl,hbP⟩
  replace HX2:=hid_of (HX2.out.below hbP)
  clear hbP HPn y0 y1 y2 y3 y4 y5 y6 y7
  have HO:=hid_of HX2.out.gr.own
  have hst:=HX2.out.gr.st.size
  go_wp2_with (at_builtin;refine Lib.wpList_append_own_string _ rfl _ _ 54 9 rfl u.heap.size 5 i8 Tryz.underlying54 Tryz.underlying9 hi8 hy0 hy1 hy2 _ _ _ rfl HO.out ⟨pt.toArray⟩ rfl ?c1 ?c2 ?c3 ?_)
  case c1=>show _+pt.length≤_;unfold maxLen;have:=HL1.out;have:=HL2.out;omega
  case c2=>show _+pt.length≤_;have:=HL1.out;have:=HL2.out;omega
  case c3=>exact hst
  intro v2 w2 o4 g4 n4
  obtain ⟨T3,t3⟩:∃ T',T'=T2++pt:=⟨_,rfl⟩
  have hx:=HX2.out.push (S:=pt) o4 g4
  rw [← t3] at hx
  have HX3:=hid_of hx
  have l3:T3.length=T2.length+pt.length:=by rw [t3];simp
  have HL3:=hid_of l3
  clear l3
  obtain ⟨b2,q2,rfl⟩:=HX3.out.gr.form
  have HT3:=hid_of t3
  clear o4 g4 n4 HO hst HX2 hx t3
  obtain ⟨y0,y1,y2,y3,y4,y5,y6,y7⟩:=eight HX3.out.bx
  go_wp2_with fail
  refine Calls.mono (HWh.out _) ?_
  rintro e wH ⟨rfl,hbH⟩
  replace HX3:=hid_of (HX3.out.below hbH)
  clear hbH HWh y0 y1 y2 y3 y4 y5 y6 y7
  have HO:=hid_of HX3.out.gr.own
  have hst:=HX3.out.gr.st.size
  go_wp2_with (at_builtin;refine Lib.wpList_append_own_string _ rfl _ _ 54 9 rfl u.heap.size 5 i8 Tryz.underlying54 Tryz.underlying9 hi8 hy0 hy1 hy2 _ _ _ rfl HO.out ⟨z2.toArray⟩ rfl ?c1 ?c2 ?c3 ?_)
  case c1=>show _+z2.length≤_;unfold maxLen;have:=HL1.out;have:=HL2.out;have:=HL3.out;omega
  case c2=>show _+z2.length≤_;have:=HL1.out;have:=HL2.out;have:=HL3.out;omega
  case c3=>exact hst
  intro v3 w3 o4 g4 n4
  obtain ⟨T4,t4⟩:∃ T',T'=T3++z2:=⟨_,rfl⟩
  have hx:=HX3.out.push (S:=z2) o4 g4
  rw [← t4] at hx
  have HX4:=hid_of hx
  have l4:T4.length=T3.length+z2.length:=by rw [t4];simp
  have HL4:=hid_of l4
  clear l4
  obtain ⟨b3,q3,rfl⟩:=HX4.out.gr.form
  have HT4:=hid_of t4
  clear o4 g4 n4 HO hst HX3 hx t4
  go_wp2_with fail
  go_ret
  refine ⟨_,rfl,?_⟩
  rw [show RR=T4 by rw [HR.out,HT4.out,HT3.out,HT2.out,HT1.out]]
  exact HX4.out.gr
end Go.Proofs.YtibahfopmjiffaaGreatDoor.Ru
