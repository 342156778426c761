/- ALARM: a board's step over one alarm. Own work of the verifier. -/
import Derived.Test.YtlgkfeeclgcgbaaGreatDoorZBO
import Derived.Deep.AppendLies
set_option maxRecDepth 100000
set_option maxHeartbeats 4000000
namespace Go.Proofs.YtlgkfeeclgcgbaaGreatDoor.Al
open Go.RowKit Go.Sort Me
theorem infoC:(Tryz.prog.info? 53).map (fun i=>(i.zero,i.size,i.bytes))=some (some (.agg #[.string ⟨#[]⟩,.int .i64 0,.int .i64 0]),3,32):=by kernel_rfl
theorem grown_none' {w w':World} (h:w.grownBy w' none):Below w.heap.size w w':=⟨h.os,h.tape,h.output,h.size,fun k hk=>h.block k hk (by simp)⟩
theorem step_ch {w:World} {ops:Array Oper} {o:Oper} {a:Act} {K:Act→World→Prop} {Q:Exit→Act→World→Prop} {E:Prop} (hgd:o.guard=none) (s x:Operand)
  (ho:o.op=.call { callee:=.builtin .append,args:=#[s,x],argTypes:=#[36,36] }) (hs:a.eval s=.slice none 0 0) (b:Nat) (hx:a.eval x=.slice (some ⟨b,0,none⟩) 1 1)
  (nm:List UInt8) (f t:Int)
  (hk:w.heap[b]? =some (.cells #[.string ⟨nm.toArray⟩,.int .i64 f,.int .i64 t] 53 (0,0)))
  (hh:∀ g cap w',w'.ownsRow w.heap.size 53 3 (.slice (some ⟨g,0,none⟩) 1 cap) 1 [.string ⟨nm.toArray⟩,.int .i64 f,.int .i64 t]→w.grownBy w' none→K (a.put o.dst (.slice (some ⟨g,0,none⟩) 1 cap)) w') :
  if Region.wanted o (yielded ops a.tmps)=true then Oper.wp Tryz.prog o a w K Q else E:=by
 obtain ⟨i0,hi,hz0,hz1,hz2⟩:=info_parts infoC
 refine step_append_lies w hgd s x _ ho w.heap.size 53 i0 (.agg #[.string ⟨#[]⟩,.int .i64 0,.int .i64 0]) 3 32 Tryz.underlying36 hi hz0 hz1 hz2 rfl (by decide) (.slice none 0 0) 0 [] hs ⟨rfl,.inl ⟨rfl,rfl⟩⟩ ⟨b,0,none⟩ 1 1 [.string ⟨nm.toArray⟩,.int .i64 f,.int .i64 t] hx (by rfl) (World.news_of_block (by simpa using hk)) (fun u hu=>by simp at hu;rcases hu with rfl | rfl | rfl <;> rfl) (by omega) (by unfold maxLen;omega) (by omega) (Nat.le_refl _) _ rfl ?_
 intro g cap w' h1 h2 h3 h4
 exact hh g cap w' h1 h2
theorem bd2 {W:World} {g:Nat} {x y:Value} {t:TypeId} (h:W.heap[g]? =some (.cells #[x,y] t)):(W.cell? ⟨g,0,none⟩=some x∧W.cell? ⟨g,1,none⟩=some y)∧∀ i,W.frozen? ⟨g,i,none⟩=false:=by refine ⟨⟨?_,?_⟩,fun i=>?_⟩ <;> simp [World.cell?,World.frozen?,h]
theorem Ex_at' {r g:Nat} {a w:World} {o:Obj} (h:La.Ex r a w) (hg:g≠r) (ho:a.heap[g]? =some o):w.heap[g]? =some o:=(h.block g (Array.getElem?_eq_some_iff.1 ho).1 hg).trans ho
theorem row_rest3 {cur:Array Value} {a0 a1 a2:Value} (h:cur.toList.take (1*3)=[a0,a1,a2]):∃ rest,cur=#[a0,a1,a2]++rest:=⟨(cur.toList.drop (1*3)).toArray,by
 apply Array.toList_inj.1
 rw [Array.toList_append,← List.take_append_drop (1*3) cur.toList,h]
 simp⟩
def StQ (b g cap:Nat) (k:Int) (x:Nat) (rn:List UInt8) (la:Option Addr) (ln lc:Nat) (wi n d:Int) (aa:Option Addr) (an ac:Nat) (wait keep st z s9 now:Int) (rest:Array Value) (w:World) (e:Ending) (w':World):Prop :=
 (∃ c q rs,e=.returned (.tuple #[.slice (some ⟨c,0,none⟩) 1 q,.int .i64 0])∧w.heap.size≤c∧w'.heap[c]? =some (.cells (#[.string ⟨#[120]⟩,.int .i64 st,.int .i64 z]++rs) 53)) ∧
 w'.heap[b]? =some (.cells #[.slice (some ⟨g,0,none⟩) 1 cap,.int .i64 now] 56) ∧
 w'.heap[g]? =some (.cells (alC [120] k x rn (.slice la ln lc) wi n d (.slice aa an ac) wait keep z s9 0++rest) 63) ∧
 w'.os=w.os∧w'.tape=w.tape∧w'.output=w.output∧w.heap.size≤w'.heap.size∧∀ j,j < w.heap.size→j≠b→j≠g→w'.heap[j]? =w.heap[j]?
theorem bstep (b g cap:Nat) (hbg:b≠g) (rp:Option Addr) (k:Int) (x:Nat) (rn:List UInt8) (la:Option Addr) (ln lc:Nat) (wi n d:Int) (aa:Option Addr) (an ac:Nat) (wait keep st si e0 z s9 last now:Int) (rest:Array Value) (h0:-4611686018427387904≤now) (h1:now≤4611686018427387904) (hl:last < now) (hz:z≠st) (w:World)
  (hb:w.heap[b]? =some (.cells #[.slice (some ⟨g,0,none⟩) 1 cap,.int .i64 last] 56))
  (hg:w.heap[g]? =some (.cells (alC [120] k x rn (.slice la ln lc) wi n d (.slice aa an ac) wait keep st si e0++rest) 63))
  (hS:∀ W,La.Ex b w W→Calls Tryz.prog 14 #[.pointer (some ⟨g,0,none⟩),.pointer rp,.int .i64 now] W fun e w'=>e=.returned (.tuple #[])∧La.Ex g W w'∧w'.heap[g]? =some (.cells (alC [120] k x rn (.slice la ln lc) wi n d (.slice aa an ac) wait keep z s9 0++rest) 63)) :
  Calls Tryz.prog 7 #[.pointer (some ⟨b,0,none⟩),.pointer rp,.int .i64 now] w fun e w'=>StQ b g cap k x rn la ln lc wi n d aa an ac wait keep st z s9 now rest w e w':=by
 have d1:decide (now < -4611686018427387904)=false:=decide_eq_false (by omega)
 have d2:decide (now > 4611686018427387904)=false:=decide_eq_false (by omega)
 have d3:decide (now≤last)=false:=decide_eq_false (by omega)
 have HSt:Hid (∀ W,La.Ex b w W→Calls Tryz.prog 14 #[.pointer (some ⟨g,0,none⟩),.pointer rp,.int .i64 now] W fun e w'=>e=.returned (.tuple #[])∧La.Ex g W w'∧w'.heap[g]? =some (.cells (alC [120] k x rn (.slice la ln lc) wi n d (.slice aa an ac) wait keep z s9 0++rest) 63)):=hS
 have HB:=hid_of hb
 have HG:=hid_of hg
 obtain ⟨⟨q0,q1⟩,qf⟩:=bd2 hb
 obtain ⟨c0,c1,c2,c3,c4,c5,c6,c7,c8,c9,c10,c11,c12,c13⟩:=fourteen' hg
 have sF:=Ru.store_f
 clear hb hg hS h0 h1 hl
 go_enter Tryz.func7,Tryz.ntmps7
 go_wp2_with fail
 have hb1:(w.setCell ⟨b,1,none⟩ (.int .i64 now)).heap[b]? =some (.cells #[.slice (some ⟨g,0,none⟩) 1 cap,.int .i64 now] 56):=Lib.heap_setCell_same (i:=1) HB.out (.int .i64 now)
 have hg1:(w.setCell ⟨b,1,none⟩ (.int .i64 now)).heap[g]? =some (.cells (alC [120] k x rn (.slice la ln lc) wi n d (.slice aa an ac) wait keep st si e0++rest) 63):=by
  rw [heap_other _ _ _ _ (by show g≠b;omega)]
  exact HG.out
 have hx1:La.Ex b w (w.setCell ⟨b,1,none⟩ (.int .i64 now)):=(La.Ex.refl b w).set 1 _
 generalize w.setCell ⟨b,1,none⟩ (.int .i64 now)=W1 at *
 clear q0 q1 qf c0 c1 c2 c3 c4 c5 c6 c7 c8 c9 c10 c11 c12 c13 HB HG
 obtain ⟨⟨q0,q1⟩,-⟩:=bd2 hb1
 have c11:=(fourteen' hg1).2.2.2.2.2.2.2.2.2.2.2.1
 have HB1:=hid_of hb1
 have HX1:=hid_of hx1
 clear hb1 hg1 hx1
 refine wp_loop_rounds 2 (show Code.wp Tryz.prog _ _ _ _ from ?_)
 go_wp2_with fail
 refine Calls.mono (HSt.out W1 HX1.out) ?_
 rintro e w2 ⟨rfl,hx2,hg2⟩
 have hb2:w2.heap[b]? =some (.cells #[.slice (some ⟨g,0,none⟩) 1 cap,.int .i64 now] 56):=Ex_at' hx2 hbg HB1.out
 have HX2:=hid_of hx2
 have HB2:=hid_of hb2
 have HG2:=hid_of hg2
 clear q0 q1 c11
 obtain ⟨⟨q0,q1⟩,-⟩:=bd2 hb2
 obtain ⟨c0,c1,c2,c3,c4,c5,c6,c7,c8,c9,c10,c11,c12,c13⟩:=fourteen' hg2
 have hzb:(z != st)=true:=by rw [bne_iff_ne];exact hz
 clear hx2 hb2 hg2 HB1 HSt hz
 go_wp2_with fail
 have HNv:=hid_of (new_1 w2 (.cells #[.string ⟨#[120]⟩,.int .i64 st,.int .i64 z] 53))
 go_region_law (refine step_ch (by rfl) _ _ (by rfl) (by rfl) w2.heap.size (by rfl) [120] st z (by first | exact HNv.out) ?_;intro g6 k6 w6 hown hgr)
 all_goals
  have hB9:Below w2.heap.size w2 w6:=bt (by first | exact bel1 w2 _ | exact bel_drewB (bel1 w2 _) | exact bt (bel_drewB (Below.refl _ w2)) (bel1 _ _)) (grown_none' hgr)
  rcases hown.2 with ⟨h,-⟩ | ⟨g',cap',cur,hv',hbg6,hgc,-,-,-,htk⟩
  ·cases h
  cases hv'
  have hbg':w2.heap.size < g6:=Nat.lt_of_lt_of_le (by simp [World.drew]) hbg6
  obtain ⟨rs,hr⟩:=row_rest3 htk
  have HF:Hid (StQ b g cap k x rn la ln lc wi n d aa an ac wait keep st z s9 now rest w (.returned (.tuple #[.slice (some ⟨g6,0,none⟩) 1 k6,.int .i64 0])) w6):=by
   have y1:=HX1.out
   have y2:=HX2.out
   refine ⟨⟨g6,k6,rs,rfl,by have:=y1.size;have:=y2.size;omega,by rw [← hr];exact hgc⟩,Ru.h_at HB2.out hB9,Ru.h_at HG2.out hB9,by rw [hB9.os,y2.os,y1.os],by rw [hB9.tape,y2.tape,y1.tape],by rw [hB9.output,y2.output,y1.output],by have:=y1.size;have:=y2.size;have:=hB9.size;omega,fun j hj h1 h2=>?_⟩
   have z1:=y1.size
   have z2:=y2.size
   rw [hB9.block j (by omega),y2.block j (by omega) h2,y1.block j hj h1]
  clear HNv hown hgr hgc htk hbg6 hbg' hr hB9 c0 c1 c2 c3 c4 c5 c6 c7 c8 c9 c10 c11 c12 c13 q0 q1 HB2 HG2 HX1 HX2
  go_wp2_with fail
  refine (show Code.wp Tryz.prog _ _ _ _ from ?_)
  go_wp2_with fail
  go_ret2
  exact HF.out
end Go.Proofs.YtlgkfeeclgcgbaaGreatDoor.Al
/- ALARM: a board's step where the state stays; steps that are refused. Own work of the verifier. -/
set_option maxRecDepth 100000
set_option maxHeartbeats 4000000
namespace Go.Proofs.YtlgkfeeclgcgbaaGreatDoor.Al
open Go.RowKit Go.Sort Me
def StY (b g cap:Nat) (k:Int) (x:Nat) (rn:List UInt8) (la:Option Addr) (ln lc:Nat) (wi n d:Int) (aa:Option Addr) (an ac:Nat) (wait keep z s9 now:Int) (rest:Array Value) (w:World) (e:Ending) (w':World):Prop :=
 (∃ ca cn cc,e=.returned (.tuple #[.slice ca cn cc,.int .i64 0])) ∧
 w'.heap[b]? =some (.cells #[.slice (some ⟨g,0,none⟩) 1 cap,.int .i64 now] 56) ∧
 w'.heap[g]? =some (.cells (alC [120] k x rn (.slice la ln lc) wi n d (.slice aa an ac) wait keep z s9 0++rest) 63) ∧
 w'.os=w.os∧w'.tape=w.tape∧w'.output=w.output∧w.heap.size≤w'.heap.size∧∀ j,j < w.heap.size→j≠b→j≠g→w'.heap[j]? =w.heap[j]?
theorem StQ.sty {b g cap:Nat} {k:Int} {x:Nat} {rn:List UInt8} {la:Option Addr} {ln lc:Nat} {wi n d:Int} {aa:Option Addr} {an ac:Nat} {wait keep st z s9 now:Int} {rest:Array Value} {w:World} {e:Ending} {w':World} (h:StQ b g cap k x rn la ln lc wi n d aa an ac wait keep st z s9 now rest w e w'):StY b g cap k x rn la ln lc wi n d aa an ac wait keep z s9 now rest w e w':=by
 obtain ⟨⟨c,q,rs,h1,-,-⟩,h2⟩:=h
 exact ⟨⟨_,_,_,h1⟩,h2⟩
theorem bstep_same (b g cap:Nat) (hbg:b≠g) (rp:Option Addr) (k:Int) (x:Nat) (rn:List UInt8) (la:Option Addr) (ln lc:Nat) (wi n d:Int) (aa:Option Addr) (an ac:Nat) (wait keep st si e0 z s9 last now:Int) (rest:Array Value) (h0:-4611686018427387904≤now) (h1:now≤4611686018427387904) (hl:last < now) (hz:z=st) (w:World)
  (hb:w.heap[b]? =some (.cells #[.slice (some ⟨g,0,none⟩) 1 cap,.int .i64 last] 56))
  (hg:w.heap[g]? =some (.cells (alC [120] k x rn (.slice la ln lc) wi n d (.slice aa an ac) wait keep st si e0++rest) 63))
  (hS:∀ W,La.Ex b w W→Calls Tryz.prog 14 #[.pointer (some ⟨g,0,none⟩),.pointer rp,.int .i64 now] W fun e w'=>e=.returned (.tuple #[])∧La.Ex g W w'∧w'.heap[g]? =some (.cells (alC [120] k x rn (.slice la ln lc) wi n d (.slice aa an ac) wait keep z s9 0++rest) 63)) :
  Calls Tryz.prog 7 #[.pointer (some ⟨b,0,none⟩),.pointer rp,.int .i64 now] w fun e w'=>StY b g cap k x rn la ln lc wi n d aa an ac wait keep z s9 now rest w e w':=by
 have d1:decide (now < -4611686018427387904)=false:=decide_eq_false (by omega)
 have d2:decide (now > 4611686018427387904)=false:=decide_eq_false (by omega)
 have d3:decide (now≤last)=false:=decide_eq_false (by omega)
 have HSt:Hid (∀ W,La.Ex b w W→Calls Tryz.prog 14 #[.pointer (some ⟨g,0,none⟩),.pointer rp,.int .i64 now] W fun e w'=>e=.returned (.tuple #[])∧La.Ex g W w'∧w'.heap[g]? =some (.cells (alC [120] k x rn (.slice la ln lc) wi n d (.slice aa an ac) wait keep z s9 0++rest) 63)):=hS
 have HB:=hid_of hb
 have HG:=hid_of hg
 obtain ⟨⟨q0,q1⟩,qf⟩:=bd2 hb
 obtain ⟨c0,c1,c2,c3,c4,c5,c6,c7,c8,c9,c10,c11,c12,c13⟩:=fourteen' hg
 have sF:=Ru.store_f
 clear hb hg hS h0 h1 hl
 go_enter Tryz.func7,Tryz.ntmps7
 go_wp2_with fail
 have hb1:(w.setCell ⟨b,1,none⟩ (.int .i64 now)).heap[b]? =some (.cells #[.slice (some ⟨g,0,none⟩) 1 cap,.int .i64 now] 56):=Lib.heap_setCell_same (i:=1) HB.out (.int .i64 now)
 have hg1:(w.setCell ⟨b,1,none⟩ (.int .i64 now)).heap[g]? =some (.cells (alC [120] k x rn (.slice la ln lc) wi n d (.slice aa an ac) wait keep st si e0++rest) 63):=by
  rw [heap_other _ _ _ _ (by show g≠b;omega)]
  exact HG.out
 have hx1:La.Ex b w (w.setCell ⟨b,1,none⟩ (.int .i64 now)):=(La.Ex.refl b w).set 1 _
 generalize w.setCell ⟨b,1,none⟩ (.int .i64 now)=W1 at *
 clear q0 q1 qf c0 c1 c2 c3 c4 c5 c6 c7 c8 c9 c10 c11 c12 c13 HB HG
 obtain ⟨⟨q0,q1⟩,-⟩:=bd2 hb1
 have c11:=(fourteen' hg1).2.2.2.2.2.2.2.2.2.2.2.1
 have HB1:=hid_of hb1
 have HX1:=hid_of hx1
 clear hb1 hg1 hx1
 refine wp_loop_rounds 2 (show Code.wp Tryz.prog _ _ _ _ from ?_)
 go_wp2_with fail
 refine Calls.mono (HSt.out W1 HX1.out) ?_
 rintro e w2 ⟨rfl,hx2,hg2⟩
 have hb2:w2.heap[b]? =some (.cells #[.slice (some ⟨g,0,none⟩) 1 cap,.int .i64 now] 56):=Ex_at' hx2 hbg HB1.out
 have HX2:=hid_of hx2
 have HB2:=hid_of hb2
 have HG2:=hid_of hg2
 clear q0 q1 c11
 obtain ⟨⟨q0,q1⟩,-⟩:=bd2 hb2
 obtain ⟨c0,c1,c2,c3,c4,c5,c6,c7,c8,c9,c10,c11,c12,c13⟩:=fourteen' hg2
 have hzb:(z != st)=false:=by rw [hz];exact bne_self_eq_false st
 have HF:Hid (∀ e,(∃ ca cn cc,e=.returned (.tuple #[.slice ca cn cc,.int .i64 0]))→StY b g cap k x rn la ln lc wi n d aa an ac wait keep z s9 now rest w e w2):=fun e he=>by
  have y1:=HX1.out
  have y2:=HX2.out
  refine ⟨he,HB2.out,HG2.out,by rw [y2.os,y1.os],by rw [y2.tape,y1.tape],by rw [y2.output,y1.output],by have:=y1.size;have:=y2.size;omega,fun j hj h1 h2=>?_⟩
  have z1:=y1.size
  have z2:=y2.size
  rw [y2.block j (by omega) h2,y1.block j hj h1]
 clear hx2 hb2 hg2 HB1 HSt hz HX1 HX2 HB2 HG2
 go_wp2_with fail
 refine (show Code.wp Tryz.prog _ _ _ _ from ?_)
 go_wp2_with fail
 go_ret2
 exact HF.out _ ⟨_,_,_,rfl⟩
theorem bd2' {W:World} {g:Nat} {x y:Value} {t:TypeId} (h:W.heap[g]? =some (.cells #[x,y] t)):W.cell? ⟨g,0,none⟩=some x∧W.cell? ⟨g,1,none⟩=some y:=(bd2 h).1
theorem step_range (b:Nat) (rp:Option Addr) (now:Int) (h:now < -4611686018427387904∨4611686018427387904 < now) (w:World):Calls Tryz.prog 7 #[.pointer (some ⟨b,0,none⟩),.pointer rp,.int .i64 now] w fun e w'=>e=.returned (.tuple #[.slice none 0 0,.int .i64 2])∧w'=w:=by
 by_cases d1:now < -4611686018427387904
 ·have e1:decide (now < -4611686018427387904)=true:=decide_eq_true d1
  clear d1 h
  go_enter Tryz.func7,Tryz.ntmps7
  go_wp2_with fail
  go_ret2
  exact ⟨rfl,rfl⟩
 ·have e1:decide (now < -4611686018427387904)=false:=decide_eq_false d1
  have e2:decide (now > 4611686018427387904)=true:=decide_eq_true (by omega)
  clear d1 h
  go_enter Tryz.func7,Tryz.ntmps7
  go_wp2_with fail
  go_ret2
  exact ⟨rfl,rfl⟩
theorem step_order (b:Nat) (v:Value) (rp:Option Addr) (last now:Int) (h0:-4611686018427387904≤now) (h1:now≤4611686018427387904) (hl:now≤last) (w:World) (hb:w.heap[b]? =some (.cells #[v,.int .i64 last] 56)):Calls Tryz.prog 7 #[.pointer (some ⟨b,0,none⟩),.pointer rp,.int .i64 now] w fun e w'=>e=.returned (.tuple #[.slice none 0 0,.int .i64 15])∧w'=w:=by
 have d1:decide (now < -4611686018427387904)=false:=decide_eq_false (by omega)
 have d2:decide (now > 4611686018427387904)=false:=decide_eq_false (by omega)
 have d3:decide (now≤last)=true:=decide_eq_true hl
 obtain ⟨q0,q1⟩:=bd2' hb
 clear h0 h1 hl hb
 go_enter Tryz.func7,Tryz.ntmps7
 go_wp2_with fail
 go_ret2
 exact ⟨rfl,rfl⟩
end Go.Proofs.YtlgkfeeclgcgbaaGreatDoor.Al
/- ALARM: Status of one alarm. Own work of the verifier. -/
set_option maxRecDepth 100000
set_option maxHeartbeats 4000000
namespace Go.Proofs.YtlgkfeeclgcgbaaGreatDoor.Al
open Go.RowKit Go.Sort Me
theorem infoS:(Tryz.prog.info? 42).map (fun i=>(i.zero,i.size,i.bytes))=some (some (.agg #[.string ⟨#[]⟩,.int .i64 0,.int .i64 0,.int .i64 0]),4,40):=by kernel_rfl
theorem row_rest4 {cur:Array Value} {a0 a1 a2 a3:Value} (h:cur.toList.take (1*4)=[a0,a1,a2,a3]):∃ rest,cur=#[a0,a1,a2,a3]++rest:=⟨(cur.toList.drop (1*4)).toArray,by
 apply Array.toList_inj.1
 rw [Array.toList_append,← List.take_append_drop (1*4) cur.toList,h]
 simp⟩
theorem own_four {W:World} {B:Nat} {t:TypeId} {v a0 a1 a2 a3:Value} (h:W.ownsRow B t 4 v (0+1) ([]++[a0,a1,a2,a3])):∃ g q rs,v=.slice (some ⟨g,0,none⟩) 1 q∧W.heap[g]? =some (.cells (#[a0,a1,a2,a3]++rs) t (0,0)):=by
 rcases h.2 with ⟨-,h0⟩ | ⟨g6,cap6,cur,rfl,hb6,hg6,-,-,-,htk⟩
 ·cases h0
 ·obtain ⟨rs,hr⟩:=row_rest4 htk
  exact ⟨g6,cap6,rs,rfl,by rw [← hr];exact hg6⟩
def SsQ (st si e0:Int) (w:World) (e:Ending) (w':World):Prop:=(∃ c q rs,e=.returned (.slice (some ⟨c,0,none⟩) 1 q)∧w'.heap[c]? =some (.cells (#[.string ⟨#[120]⟩,.int .i64 st,.int .i64 si,.int .i64 e0]++rs) 42))∧Below w.heap.size w w'
theorem status_al (b g cap:Nat) (k:Int) (x:Nat) (rn:List UInt8) (la:Option Addr) (ln lc:Nat) (wi n d:Int) (aa:Option Addr) (an ac:Nat) (wait keep st si e0 last:Int) (rest:Array Value) (w:World)
  (hb:w.heap[b]? =some (.cells #[.slice (some ⟨g,0,none⟩) 1 cap,.int .i64 last] 56))
  (hg:w.heap[g]? =some (.cells (alC [120] k x rn (.slice la ln lc) wi n d (.slice aa an ac) wait keep st si e0++rest) 63)) :
  Calls Tryz.prog 8 #[.pointer (some ⟨b,0,none⟩)] w fun e w'=>SsQ st si e0 w e w':=by
 obtain ⟨i0,hi,hz0,hz1,hz2⟩:=info_parts infoS
 obtain ⟨W0,hW0⟩:∃ W0,W0=w.alloc (.cells (alC [120] k x rn (.slice la ln lc) wi n d (.slice aa an ac) wait keep st si e0) 63):=⟨_,rfl⟩
 have hb0:Below w.heap.size w W0:=by rw [hW0];exact bel1 w _
 have hn0:W0.heap[w.heap.size]? =some (.cells (alC [120] k x rn (.slice la ln lc) wi n d (.slice aa an ac) wait keep st si e0) 63):=by rw [hW0];exact new_1 w _
 obtain ⟨q0,q1⟩:=bd2' hb
 obtain ⟨c0,c1,c2,c3,c4,c5,c6,c7,c8,c9,c10,c11,c12,c13⟩:=fourteen' hg
 obtain ⟨d0,d1,d2,d3,d4,d5,d6,d7,d8,d9,d10,d11,d12,d13⟩:=fourteen hn0
 have HNv:=hid_of (new_1 W0 (.cells #[.string ⟨#[120]⟩,.int .i64 st,.int .i64 si,.int .i64 e0] 42))
 have HBv:=hid_of (bt hb0 (bel1 W0 (.cells #[.string ⟨#[120]⟩,.int .i64 st,.int .i64 si,.int .i64 e0] 42)))
 have HW0:=hid_of hW0
 have sF:=Ru.store_f
 clear hW0 hb0 hn0 hb hg
 go_enter Tryz.func8,Tryz.ntmps8
 go_wp2_with fail
 refine wp_loop_rounds 2 (show Code.wp Tryz.prog _ _ _ _ from ?_)
 go_upto_region 5 with fail
 rw [← HW0.out]
 clear HW0
 go_wp2_with (at_builtin;refine wpList_append_own _ rfl _ _ 39 rfl w.heap.size 42 i0 _ 4 40 Tryz.underlying39 hi hz0 hz1 hz2 rfl (by decide) _ 0 [] rfl (World.ownsRow_nil _ _ _ _) ⟨W0.heap.size,0,none⟩ 1 1 [.string ⟨#[120]⟩,.int .i64 st,.int .i64 si,.int .i64 e0] rfl rfl (World.news_of_block HNv.out) (fun u hu=>by simp at hu;rcases hu with rfl | rfl | rfl | rfl <;> rfl) (by unfold maxLen;omega) (by omega) HBv.out.size ?_;intro v5 w5 hown5 hg5 hq5;clear hq5;have HB5:=hid_of (bt HBv.out (grown_none' hg5));obtain ⟨g6,q6,rs,rfl,hh6⟩:=own_four hown5;have HF:=hid_of hh6;clear hown5 hg5 hh6)
 clear c0 c1 c2 c3 c4 c5 c6 c7 c8 c9 c10 c11 c12 c13 d0 d1 d2 d3 d4 d5 d6 d7 d8 d9 d10 d11 d12 d13 q0 q1 HNv HBv
 refine (show Code.wp Tryz.prog _ _ _ _ from ?_)
 go_wp2_with fail
 go_ret
 exact ⟨⟨_,_,_,rfl,HF.out⟩,HB5.out⟩
end Go.Proofs.YtlgkfeeclgcgbaaGreatDoor.Al
/- ALARM: the machine of states, as mathematics. Own work of the verifier. -/
namespace Go.Proofs.YtlgkfeeclgcgbaaGreatDoor.Al
abbrev Mo:Type:=Int × Bool
def mAt (L:List Mo) (i:Nat):Int:=(L.getD i (0,false)).1
def mHo (L:List Mo) (i:Nat):Bool:=(L.getD i (0,false)).2
def heldP (L:List Mo) (long:Int) (j:Nat):Prop:=∃ i,i≤j∧(∀ k,i≤k→k≤j→mHo L k=true)∧long≤mAt L j - mAt L i
def endedP (L:List Mo) (keep:Int) (j:Nat):Prop:=∃ a b,j < a∧a≤b∧b < L.length∧(∀ k,a≤k→k≤b→mHo L k=false)∧keep≤mAt L b - mAt L a
def ringP (L:List Mo) (long keep:Int):Prop:=∃ j,j < L.length∧heldP L long j∧¬ endedP L keep j
def RiseM (L:List Mo):Prop:=∀ i j,i < j→j < L.length→mAt L i < mAt L j
theorem mAt_old (L:List Mo) (m:Mo) {i:Nat} (h:i < L.length):mAt (L++[m]) i=mAt L i:=by
 unfold mAt
 rw [List.getD_eq_getElem?_getD,List.getD_eq_getElem?_getD,List.getElem?_append_left h]
theorem mHo_old (L:List Mo) (m:Mo) {i:Nat} (h:i < L.length):mHo (L++[m]) i=mHo L i:=by
 unfold mHo
 rw [List.getD_eq_getElem?_getD,List.getD_eq_getElem?_getD,List.getElem?_append_left h]
theorem mAt_new (L:List Mo) (m:Mo):mAt (L++[m]) L.length=m.1:=by
 unfold mAt
 rw [List.getD_eq_getElem?_getD,List.getElem?_append_right (Nat.le_refl _)]
 simp
theorem mHo_new (L:List Mo) (m:Mo):mHo (L++[m]) L.length=m.2:=by
 unfold mHo
 rw [List.getD_eq_getElem?_getD,List.getElem?_append_right (Nat.le_refl _)]
 simp
theorem len1 (L:List Mo) (m:Mo):(L++[m]).length=L.length+1:=by simp
theorem held_old {L:List Mo} {m:Mo} {long:Int} {j:Nat} (h:j < L.length):heldP (L++[m]) long j ↔ heldP L long j:=by
 constructor
 ·rintro ⟨i,h1,h2,h3⟩
  refine ⟨i,h1,fun k a b=>?_,?_⟩
  ·rw [← mHo_old L m (Nat.lt_of_le_of_lt b h)];exact h2 k a b
  ·rw [mAt_old L m h,mAt_old L m (Nat.lt_of_le_of_lt h1 h)] at h3;exact h3
 ·rintro ⟨i,h1,h2,h3⟩
  refine ⟨i,h1,fun k a b=>?_,?_⟩
  ·rw [mHo_old L m (Nat.lt_of_le_of_lt b h)];exact h2 k a b
  ·rw [mAt_old L m h,mAt_old L m (Nat.lt_of_le_of_lt h1 h)];exact h3
theorem ended_old {L:List Mo} {m:Mo} {keep:Int} {j:Nat} (h:endedP L keep j):endedP (L++[m]) keep j:=by
 obtain ⟨a,b,h1,h2,h3,h4,h5⟩:=h
 refine ⟨a,b,h1,h2,by rw [len1];omega,fun k x y=>?_,?_⟩
 ·rw [mHo_old L m (by omega)];exact h4 k x y
 ·rw [mAt_old L m h3,mAt_old L m (by omega)];exact h5
theorem ended_new {L:List Mo} {m:Mo} {keep:Int} {j:Nat} (h:endedP (L++[m]) keep j):endedP L keep j∨∃ a,j < a∧a≤L.length∧(∀ k,a≤k→k < L.length→mHo L k=false)∧m.2=false∧keep≤m.1 - mAt (L++[m]) a:=by
 obtain ⟨a,b,h1,h2,h3,h4,h5⟩:=h
 rw [len1] at h3
 by_cases hb:b < L.length
 ·refine Or.inl ⟨a,b,h1,h2,hb,fun k x y=>?_,?_⟩
  ·rw [← mHo_old L m (by omega)];exact h4 k x y
  ·rw [mAt_old L m hb,mAt_old L m (by omega)] at h5;exact h5
 ·obtain rfl:b=L.length:=by omega
  refine Or.inr ⟨a,h1,h2,fun k x y=>?_,?_,?_⟩
  ·rw [← mHo_old L m y];exact h4 k x (by omega)
  ·rw [← mHo_new L m];exact h4 _ h2 (Nat.le_refl _)
  ·rw [mAt_new] at h5;exact h5
theorem ended_by {L:List Mo} {m:Mo} {keep:Int} {j a:Nat} (h1:j < a) (h2:a≤L.length) (h3:∀ k,a≤k→k < L.length→mHo L k=false) (h4:m.2=false) (h5:keep≤m.1 - mAt (L++[m]) a):endedP (L++[m]) keep j:=by
 refine ⟨a,L.length,h1,h2,by rw [len1];omega,fun k x y=>?_,by rw [mAt_new];exact h5⟩
 by_cases hk:k < L.length
 ·rw [mHo_old L m hk];exact h3 k x hk
 ·obtain rfl:k=L.length:=by omega
  rw [mHo_new];exact h4
theorem ring_holds {L:List Mo} {m:Mo} {long keep:Int} (hm:m.2=true):ringP (L++[m]) long keep ↔ ringP L long keep∨heldP (L++[m]) long L.length:=by
 constructor
 ·rintro ⟨j,h1,h2,h3⟩
  rw [len1] at h1
  by_cases hj:j < L.length
  ·exact Or.inl ⟨j,hj,(held_old hj).1 h2,fun h=>h3 (ended_old h)⟩
  ·obtain rfl:j=L.length:=by omega
   exact Or.inr h2
 ·rintro (⟨j,h1,h2,h3⟩ | h)
  ·refine ⟨j,by rw [len1];omega,(held_old h1).2 h2,fun h=>?_⟩
   rcases ended_new h with h | ⟨_,_,_,_,h,_⟩
   ·exact h3 h
   ·rw [hm] at h;cases h
  ·refine ⟨L.length,by rw [len1];omega,h,fun h=>?_⟩
   obtain ⟨a,b,x,y,z,_⟩:=h
   rw [len1] at z
   omega
theorem ring_not {L:List Mo} {m:Mo} {long keep:Int} (hm:m.2=false) (h:ringP (L++[m]) long keep):∃ j,j < L.length∧heldP L long j∧¬ endedP L keep j∧¬ endedP (L++[m]) keep j:=by
 obtain ⟨j,h1,h2,h3⟩:=h
 rw [len1] at h1
 by_cases hj:j < L.length
 ·exact ⟨j,hj,(held_old hj).1 h2,fun h=>h3 (ended_old h),h3⟩
 ·obtain rfl:j=L.length:=by omega
  obtain ⟨i,a,b,_⟩:=h2
  have:=b L.length a (Nat.le_refl _)
  rw [mHo_new,hm] at this
  cases this
theorem ring_still {L:List Mo} {m:Mo} {long keep:Int} {j:Nat} (hj:j < L.length) (h1:heldP L long j) (h2:¬ endedP (L++[m]) keep j):ringP (L++[m]) long keep:=⟨j,by rw [len1];omega,(held_old hj).2 h1,h2⟩
theorem held_lt {L:List Mo} {long:Int} {j:Nat} (h:heldP L long j):mHo L j=true:=let ⟨_,a,b,_⟩:=h;b j a (Nat.le_refl _)
def Mch (L:List Mo) (long keep st si:Int):Prop :=
 (st=1∧¬ ringP L long keep∧∀ k,k+1=L.length→mHo L k=false) ∨
 (st=2∧¬ ringP L long keep∧∃ p,p < L.length∧mAt L p=si∧(∀ k,p≤k→k < L.length→mHo L k=true)∧∀ q,q+1=p→mHo L q=false) ∨
 (st=3∧ringP L long keep∧∀ k,k+1=L.length→mHo L k=true) ∨
 (st=4∧ringP L long keep∧∃ p,p < L.length∧mAt L p=si∧(∀ k,p≤k→k < L.length→mHo L k=false)∧∀ q,q+1=p→mHo L q=true)
def nxF (st:Int) (h:Bool) (long keep si now:Int):Int:=if st=1 then idF h long else if st=2 then waF h long si now else if st=3 then riF h keep else faF h keep si now
theorem last_new {L:List Mo} {m:Mo} {b:Bool} (hm:m.2=b):∀ k,k+1=(L++[m]).length→mHo (L++[m]) k=b:=by
 intro k hk
 rw [len1] at hk
 obtain rfl:k=L.length:=by omega
 rw [mHo_new,hm]
theorem one_run {L:List Mo} {m:Mo} {b:Bool} (hm:m.2=b) (hq:∀ k,k+1=L.length→mHo L k=!b):∃ p,p < (L++[m]).length∧mAt (L++[m]) p=m.1∧(∀ k,p≤k→k < (L++[m]).length→mHo (L++[m]) k=b)∧∀ q,q+1=p→mHo (L++[m]) q=!b:=by
 refine ⟨L.length,by rw [len1];omega,mAt_new _ _,fun k x y=>?_,fun q h=>?_⟩
 ·rw [len1] at y
  obtain rfl:k=L.length:=by omega
  rw [mHo_new,hm]
 ·rw [mHo_old L m (by omega)]
  exact hq q h
theorem more_run {L:List Mo} {m:Mo} {b c:Bool} {si:Int} (hm:m.2=b) (hq:∃ p,p < L.length∧mAt L p=si∧(∀ k,p≤k→k < L.length→mHo L k=b)∧∀ q,q+1=p→mHo L q=c):∃ p,p < (L++[m]).length∧mAt (L++[m]) p=si∧(∀ k,p≤k→k < (L++[m]).length→mHo (L++[m]) k=b)∧∀ q,q+1=p→mHo (L++[m]) q=c:=by
 obtain ⟨p,h1,h2,h3,h4⟩:=hq
 refine ⟨p,by rw [len1];omega,by rw [mAt_old L m h1];exact h2,fun k x y=>?_,fun q h=>?_⟩
 ·rw [len1] at y
  by_cases hk:k < L.length
  ·rw [mHo_old L m hk];exact h3 k x hk
  ·obtain rfl:k=L.length:=by omega
   rw [mHo_new,hm]
 ·rw [mHo_old L m (by omega)]
  exact h4 q h
theorem held_run {L:List Mo} {m:Mo} {long si:Int} (hr:RiseM (L++[m])) (hm:m.2=true) (hq:∃ p,p < L.length∧mAt L p=si∧(∀ k,p≤k→k < L.length→mHo L k=true)∧∀ q,q+1=p→mHo L q=false):heldP (L++[m]) long L.length ↔ si≤m.1 - long:=by
 obtain ⟨p,h1,h2,h3,h4⟩:=hq
 constructor
 ·rintro ⟨i,a,b,c⟩
  rw [mAt_new] at c
  have hpi:p≤i:=by
   rcases Nat.lt_or_ge i p with h | h
   ·exfalso
    have:=b (p - 1) (by omega) (by omega)
    rw [mHo_old L m (by omega),h4 (p - 1) (by omega)] at this
    cases this
   ·exact h
  have e:mAt (L++[m]) p=si:=by rw [mAt_old L m h1];exact h2
  rcases Nat.lt_or_ge p i with h | h
  ·have:=hr p i h (by rw [len1];omega)
   omega
  ·obtain rfl:p=i:=by omega
   omega
 ·intro h
  refine ⟨p,by omega,fun k x y=>?_,?_⟩
  ·by_cases hk:k < L.length
   ·rw [mHo_old L m hk];exact h3 k x hk
   ·obtain rfl:k=L.length:=by omega
    rw [mHo_new,hm]
  ·rw [mAt_new,mAt_old L m h1,h2]
   omega
theorem held_one {L:List Mo} {m:Mo} {long:Int} (h0:0≤long) (hm:m.2=true) (hq:∀ k,k+1=L.length→mHo L k=false):heldP (L++[m]) long L.length ↔ long=0:=by
 constructor
 ·rintro ⟨i,a,b,c⟩
  have hi:i=L.length:=by
   rcases Nat.lt_or_ge i L.length with h | h
   ·exfalso
    have:=b (L.length - 1) (by omega) (by omega)
    rw [mHo_old L m (by omega),hq (L.length - 1) (by omega)] at this
    cases this
   ·omega
  subst hi
  omega
 ·rintro rfl
  refine ⟨L.length,Nat.le_refl _,fun k x y=>?_,by omega⟩
  obtain rfl:k=L.length:=by omega
  rw [mHo_new,hm]
theorem mch_step {L:List Mo} {now:Int} {h:Bool} {long keep st si z s9:Int} (hM:Mch L long keep st si) (hr:RiseM (L++[(now,h)])) (h0:0≤long) (h1:0≤keep) (hz:z=nxF st h long keep si now) (hs:s9=if z=st then si else now):Mch (L++[(now,h)]) long keep z s9:=by
 have eR:=@ring_holds L (now,true) long keep rfl
 have eN:=@ring_not L (now,false) long keep rfl
 unfold nxF at hz
 cases h
 ·-- it doesn't hold
  have hl:=@last_new L (now,false) false rfl
  rcases hM with ⟨rfl,a,b⟩ | ⟨rfl,a,b⟩ | ⟨rfl,a,b⟩ | ⟨rfl,a,b⟩
  ·have:z=1:=by rw [hz];rfl
   subst this
   exact Or.inl ⟨rfl,fun h=>by obtain ⟨j,x,y,u,v⟩:=eN h;exact a ⟨j,x,y,u⟩,hl⟩
  ·have:z=1:=by rw [hz];rfl
   subst this
   exact Or.inl ⟨rfl,fun h=>by obtain ⟨j,x,y,u,v⟩:=eN h;exact a ⟨j,x,y,u⟩,hl⟩
  ·have e:z=if keep=0 then 1 else 4:=by rw [hz];rfl
   by_cases hk:keep=0
   ·rw [if_pos hk] at e
    refine Or.inl ⟨e,fun h=>?_,hl⟩
    obtain ⟨j,x,y,u,v⟩:=eN h
    refine v (ended_by x (Nat.le_refl _) (fun k p q=>by omega) rfl ?_)
    rw [mAt_new,hk]
    show (0:Int)≤now - now
    omega
   ·rw [if_neg hk] at e
    obtain ⟨j,x,y,u⟩:=a
    refine Or.inr (Or.inr (Or.inr ⟨e,ring_still x y (fun h=>?_),?_⟩))
    ·rcases ended_new h with h | ⟨c,d1,d2,d3,-,d5⟩
     ·exact u h
     ·have hc:c=L.length:=by
       rcases Nat.lt_or_ge c L.length with g | g
       ·have q1:=d3 (L.length - 1) (by omega) (by omega)
        rw [b (L.length - 1) (by omega)] at q1
        cases q1
       ·omega
      subst hc
      rw [mAt_new] at d5
      have d6:keep≤now - now:=d5
      omega
    ·rw [hs,if_neg (by rw [e];decide)]
     exact @one_run L (now,false) false rfl b
  ·have e:z=if si≤now - keep then 1 else 4:=by rw [hz];rfl
   obtain ⟨p,p1,p2,p3,p4⟩:=b
   by_cases hk:si≤now - keep
   ·rw [if_pos hk] at e
    refine Or.inl ⟨e,fun h=>?_,hl⟩
    obtain ⟨j,x,y,u,v⟩:=eN h
    have hj:j < p:=by
     rcases Nat.lt_or_ge j p with g | g
     ·exact g
     ·have q1:=held_lt y
      rw [p3 j g x] at q1
      cases q1
    refine v (ended_by hj (Nat.le_of_lt p1) p3 rfl ?_)
    rw [mAt_old _ _ p1,p2]
    show keep≤now - si
    omega
   ·rw [if_neg hk] at e
    obtain ⟨j,x,y,u⟩:=a
    refine Or.inr (Or.inr (Or.inr ⟨e,ring_still x y (fun h=>?_),?_⟩))
    ·rcases ended_new h with h | ⟨c,d1,d2,d3,-,d5⟩
     ·exact u h
     ·have hc:p≤c:=by
       rcases Nat.lt_or_ge c p with g | g
       ·have q1:=d3 (p - 1) (by omega) (by omega)
        rw [p4 (p - 1) (by omega)] at q1
        cases q1
       ·exact g
      have hle:si≤mAt (L++[(now,false)]) c:=by
       have e2:mAt (L++[(now,false)]) p=si:=by rw [mAt_old _ _ p1];exact p2
       rcases Nat.lt_or_ge p c with g | g
       ·have:=hr p c g (by rw [len1];omega)
        omega
       ·obtain rfl:p=c:=by omega
        omega
      have d6:keep≤now - mAt (L++[(now,false)]) c:=d5
      omega
    ·rw [hs,if_pos e]
     exact @more_run L (now,false) false true si rfl ⟨p,p1,p2,p3,p4⟩
 ·-- it holds
  have hl:=@last_new L (now,true) true rfl
  rcases hM with ⟨rfl,a,b⟩ | ⟨rfl,a,b⟩ | ⟨rfl,a,b⟩ | ⟨rfl,a,b⟩
  ·have e:z=if long=0 then 3 else 2:=by rw [hz];rfl
   have eH:=@held_one L (now,true) long h0 rfl b
   by_cases hk:long=0
   ·rw [if_pos hk] at e
    exact Or.inr (Or.inr (Or.inl ⟨e,eR.2 (Or.inr (eH.2 hk)),hl⟩))
   ·rw [if_neg hk] at e
    refine Or.inr (Or.inl ⟨e,fun h=>?_,?_⟩)
    ·rcases eR.1 h with h | h
     ·exact a h
     ·exact hk (eH.1 h)
    ·rw [hs,if_neg (by rw [e];decide)]
     exact @one_run L (now,true) true rfl b
  ·have e:z=if si≤now - long then 3 else 2:=by rw [hz];rfl
   have eH:=@held_run L (now,true) long si hr rfl b
   by_cases hk:si≤now - long
   ·rw [if_pos hk] at e
    exact Or.inr (Or.inr (Or.inl ⟨e,eR.2 (Or.inr (eH.2 hk)),hl⟩))
   ·rw [if_neg hk] at e
    refine Or.inr (Or.inl ⟨e,fun h=>?_,?_⟩)
    ·rcases eR.1 h with h | h
     ·exact a h
     ·exact hk (eH.1 h)
    ·rw [hs,if_pos e]
     exact @more_run L (now,true) true false si rfl b
  ·have e:z=3:=by rw [hz];rfl
   exact Or.inr (Or.inr (Or.inl ⟨e,eR.2 (Or.inl a),hl⟩))
  ·have e:z=3:=by rw [hz];rfl
   exact Or.inr (Or.inr (Or.inl ⟨e,eR.2 (Or.inl a),hl⟩))
end Go.Proofs.YtlgkfeeclgcgbaaGreatDoor.Al
