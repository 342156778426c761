/- ALARM: New of one spec. Own work of the verifier. -/
import Derived.Test.YtbgdlbndammgnaaGreatDoorZBP
import Derived.Deep.AppendLies
import Derived.Test.YtbgdlbndammgnaaGreatDoorZBO
set_option maxRecDepth 100000
set_option maxHeartbeats 4000000
namespace Go.Proofs.YtbgdlbndammgnaaGreatDoor.Al
open Go.RowKit Go.Sort Me
abbrev zA:Array Value:=#[.string ⟨#[]⟩,.int .i64 0,.float .f64 0,.string ⟨#[]⟩,.slice none 0 0,.int .i64 0,.int .i64 0,.int .i64 0,.slice none 0 0,.int .i64 0,.int .i64 0,.int .i64 0,.int .i64 0,.int .i64 0]
theorem infoA:(Tryz.prog.info? 57).map (fun i=>(i.zero,i.size,i.bytes))=some (some (.agg zA),14,160):=by kernel_rfl
theorem step_al {w:World} {ops:Array Oper} {o:Oper} {a:Act} {K:Act→World→Prop} {Q:Exit→Act→World→Prop} {E:Prop} (hgd:o.guard=none) (s x:Operand)
    (ho:o.op=.call { callee:=.builtin .append,args:=#[s,x],argTypes:=#[48,48] }) (hs:a.eval s=.slice none 0 0) (b:Nat) (hx:a.eval x=.slice (some ⟨b,0,none⟩) 1 1)
    (nm:List UInt8) (k:Int) (fx:Nat) (rn:List UInt8) (la:Option Addr) (ln lc:Nat) (wi n d:Int) (aa:Option Addr) (an ac:Nat) (wait keep st si e:Int)
    (hk:w.heap[b]? =some (.cells (alC nm k fx rn (.slice la ln lc) wi n d (.slice aa an ac) wait keep st si e) 57 (0,0)))
    (hh:∀ g cap w',w'.ownsRow w.heap.size 57 14 (.slice (some ⟨g,0,none⟩) 1 cap) 1 (alC nm k fx rn (.slice la ln lc) wi n d (.slice aa an ac) wait keep st si e).toList→w.grownBy w' none→K (a.put o.dst (.slice (some ⟨g,0,none⟩) 1 cap)) w') :
    if Region.wanted o (yielded ops a.tmps)=true then Oper.wp Tryz.prog o a w K Q else E:=by
  obtain ⟨i0,hi,hz0,hz1,hz2⟩:=info_parts infoA
  refine step_append_lies w hgd s x _ ho w.heap.size 57 i0 (.agg zA) 14 160 Tryz.underlying48 hi hz0 hz1 hz2 rfl (by decide) (.slice none 0 0) 0 [] hs ⟨rfl,.inl ⟨rfl,rfl⟩⟩ ⟨b,0,none⟩ 1 1 (alC nm k fx rn (.slice la ln lc) wi n d (.slice aa an ac) wait keep st si e).toList hx (by rfl) (World.news_of_block (by simpa using hk)) (fun u hu=>by simp at hu;rcases hu with rfl | rfl | rfl | rfl | rfl | rfl | rfl | rfl | rfl | rfl | rfl | rfl | rfl | rfl <;> rfl) (by omega) (by unfold maxLen;omega) (by omega) (Nat.le_refl _) _ rfl ?_
  intro g cap w' h1 h2 h3 h4
  exact hh g cap w' h1 h2
theorem grown_none {w w':World} (h:w.grownBy w' none):Below w.heap.size w w':=⟨h.os,h.tape,h.output,h.size,fun k hk=>h.block k hk (by simp)⟩
theorem row_rest {cur A:Array Value} (h:cur.toList.take (1*14)=A.toList):∃ rest,cur=A++rest:=⟨(cur.toList.drop (1*14)).toArray,by
  apply Array.toList_inj.1
  rw [Array.toList_append,← h]
  simp⟩
def NewQ (w : World) (e : Ending) (w' : World) : Prop := (∃ b g cap k x rn la ln lc wi n d aa an ac, e = .returned (.tuple #[.pointer (some ⟨b, 0, none⟩), .int .i64 0, .int .i64 0]) ∧ w'.heap[b]? = some (.cells #[.slice (some ⟨g, 0, none⟩) 1 cap, .int .i64 (-4611686018427387905)] 50) ∧ w.heap.size ≤ b ∧
      (∃ rest, b < g ∧ w'.heap[g]? = some (.cells (alC [120] k x rn (.slice la ln lc) wi n d (.slice aa an ac) 10 5 1 0 0 ++ rest) 57)) ∧ (∃ Wr, Ru.RV (b + 1) Wr Ru.rl4 (Ru.rx k x rn (.slice la ln lc) wi n d (.slice aa an ac)) ∧ La.Ex b Wr w' ∧ b < Wr.heap.size ∧ Wr.heap.size ≤ g)) ∧ Below w.heap.size w w'
theorem new_x (gs:Nat) (w:World) (he:Ru.Env w) (hs:w.heap[gs]? =some (.cells spC 31)) :
    Calls Tryz.prog 6 #[.slice (some ⟨gs,0,none⟩) 1 1] w fun e w'=>NewQ w e w':=by
  obtain ⟨W0,hW0⟩:∃ W0,W0=w.alloc (.cells #[.slice none 0 0,.int .i64 (-4611686018427387905)] 50):=⟨_,rfl⟩
  have hb0:Below w.heap.size w W0:=by rw [hW0];exact bel1 w _
  have hB0:W0.heap[w.heap.size]? =some (.cells #[.slice none 0 0,.int .i64 (-4611686018427387905)] 50):=by rw [hW0];exact new_1 w _
  have hs0:W0.heap.size=w.heap.size+1:=by rw [hW0];simp
  obtain ⟨W1,hW1⟩:∃ W1,W1=W0.alloc (.cells spC 31):=⟨_,rfl⟩
  have hb1:Below W0.heap.size W0 W1:=by rw [hW1];exact bel1 W0 _
  have hp1:W1.heap[w.heap.size+1]? =some (.cells spC 31):=by rw [hW1,← hs0];exact new_1 W0 _
  have hB1:=Ru.h_at hB0 hb1
  have hs1:W1.heap.size=w.heap.size+2:=by rw [hW1];simp [hs0]
  have HMd:Hid (Calls Tryz.prog 10 #[.pointer (some ⟨w.heap.size,0,none⟩),.agg spC] W1 fun e w'=>(∃ k x rn la ln lc wi n d aa an ac,e=.returned (.tuple #[.agg (alC [120] k x rn (.slice la ln lc) wi n d (.slice aa an ac) 10 5 1 0 0),.int .i64 0])∧Ru.RV W1.heap.size w' Ru.rl4 (Ru.rx k x rn (.slice la ln lc) wi n d (.slice aa an ac)))∧Below W1.heap.size W1 w'):=made_x w.heap.size (-4611686018427387905) W1 (he.below (bt hb0 hb1)) hB1
  obtain ⟨s0,s1,s2,s3⟩:=sp_cells (Ru.h_at hs hb0)
  obtain ⟨q0,q1⟩:=bd_cells hB0
  have HW0:=hid_of hW0
  have HW1:=hid_of hW1
  have HBb:=hid_of (bt hb0 hb1)
  have HB0:=hid_of hB1
  obtain ⟨p0,p1,p2,p3⟩:=sp_cells hp1
  have sF:=Ru.store_f
  have HS1:=hid_of hs1
  clear hW0 hW1 hb0 hb1 hB0 hB1 hp1 he hs hs1
  go_enter Tryz.func6,Tryz.ntmps6
  go_upto_region 4 with fail
  rw [← HW0.out]
  clear HW0
  go_wp2_with fail
  refine wp_loop_rounds 2 (show Code.wp Tryz.prog _ _ _ _ from ?_)
  go_upto_region 7 with fail
  rw [← HW1.out]
  clear HW1
  go_wp2_with fail
  refine Calls.mono HMd.out ?_
  rintro e w2 ⟨⟨k,x,rn,la,ln,lc,wi,n,d,aa,an,ac,rfl,hv⟩,hb2⟩
  obtain ⟨W2,hW2⟩:∃ W2,W2=w2.alloc (.cells (alC [120] k x rn (.slice la ln lc) wi n d (.slice aa an ac) 10 5 1 0 0) 57):=⟨_,rfl⟩
  have hb3:Below w2.heap.size w2 W2:=by rw [hW2];exact bel1 w2 _
  have hb23:=bt hb2 hb3
  have hn3:W2.heap[w2.heap.size]? =some (.cells (alC [120] k x rn (.slice la ln lc) wi n d (.slice aa an ac) 10 5 1 0 0) 57):=by rw [hW2];exact new_1 w2 _
  have hB3:=Ru.h_at HB0.out hb23
  obtain ⟨c0,c1,c2,c3,c4,c5,c6,c7,c8,c9,c10,c11,c12,c13⟩:=fourteen hn3
  clear q0 q1
  obtain ⟨q0,q1⟩:=bd_cells hB3
  have HW2:=hid_of hW2
  have HB3:=hid_of hB3
  have HBb3:=hid_of (bt HBb.out hb23)
  have HV3:=hid_of ((hv.below hb3).mono (B':=w.heap.size+1) (by have:=HS1.out;omega))
  have hws:w.heap.size+1 < W2.heap.size:=by have:=hb23.size;have:=HS1.out;omega
  have HNv:=hid_of (new_1 W2 (.cells (alC [120] k x rn (.slice la ln lc) wi n d (.slice aa an ac) 10 5 1 0 0) 57))
  obtain ⟨qa0,qa1⟩:=bd_cells (Ru.h_at hB3 (bel1 W2 (.cells (alC [120] k x rn (.slice la ln lc) wi n d (.slice aa an ac) 10 5 1 0 0) 57)))
  obtain ⟨qb0,qb1⟩:=bd_cells (Ru.h_at hB3 (bt (bel_drewB (Below.refl _ W2)) (bel1 W2.drew (.cells (alC [120] k x rn (.slice la ln lc) wi n d (.slice aa an ac) 10 5 1 0 0) 57))))
  have HNd:=hid_of (new_1 W2.drew (.cells (alC [120] k x rn (.slice la ln lc) wi n d (.slice aa an ac) 10 5 1 0 0) 57))
  clear hW2 hb3 hb23 hb2 hn3 hB3 hv HB0 HBb HMd s0 s1 s2 s3 p0 p1 p2 p3
  go_upto_region 10 with fail
  rw [← HW2.out]
  clear HW2
  go_region_law (refine step_al (by rfl) _ _ (by rfl) (by rfl) W2.heap.size (by rfl) [120] k x rn la ln lc wi n d aa an ac 10 5 1 0 0 (by first | exact HNv.out | exact HNd.out) ?_;intro g6 k6 w6 hown hgr;have hB6:=Ru.h_at (Ru.h_at HB3.out (by first | exact bel1 W2 _ | exact bel_drewB (bel1 W2 _) | exact bt (bel_drewB (Below.refl _ W2)) (bel1 _ _))) (grown_none hgr);obtain ⟨u0,u1⟩:=bd_cells hB6;have uf:=Ru.eight_f hB6)
  all_goals
    have hB9:Below W2.heap.size W2 w6:=bt (by first | exact bel1 W2 _ | exact bel_drewB (bel1 W2 _) | exact bt (bel_drewB (Below.refl _ W2)) (bel1 _ _)) (grown_none hgr)
    rcases hown.2 with ⟨h,-⟩ | ⟨g',cap',cur,hv',hbg,hg,-,-,-,htk⟩
    · cases h
    cases hv'
    have hbg':w.heap.size < g6:=Nat.lt_of_lt_of_le (by simp [World.drew];omega) hbg
    obtain ⟨rest,hr⟩:=row_rest htk
    have HF:Hid (_∧_∧_∧_):=hid_of ⟨Lib.heap_setCell_same (i:=0) hB6 (.slice (some ⟨g6,0,none⟩) 1 k6),(show (w6.setCell ⟨w.heap.size,0,none⟩ (.slice (some ⟨g6,0,none⟩) 1 k6)).heap[g6]? =some (.cells (alC [120] k x rn (.slice la ln lc) wi n d (.slice aa an ac) 10 5 1 0 0++rest) 57) by rw [heap_other _ _ _ _ (by show g6≠w.heap.size;omega),← hr];exact hg),(⟨W2,HV3.out,(La.Ex.of hB9).set 0 (.slice (some ⟨g6,0,none⟩) 1 k6),by omega,Nat.le_trans (by simp [World.drew]) hbg⟩:∃ Wr,Ru.RV (w.heap.size+1) Wr Ru.rl4 (Ru.rx k x rn (.slice la ln lc) wi n d (.slice aa an ac))∧La.Ex w.heap.size Wr (w6.setCell ⟨w.heap.size,0,none⟩ (.slice (some ⟨g6,0,none⟩) 1 k6))∧w.heap.size < Wr.heap.size∧Wr.heap.size≤g6),(bt HBb3.out hB9).setCell (p:=⟨w.heap.size,0,none⟩) (Nat.le_refl _) (.slice (some ⟨g6,0,none⟩) 1 k6)⟩
    clear HNv HNd hown hgr hB6 u0 u1 uf hg htk hbg hr hB9 c0 c1 c2 c3 c4 c5 c6 c7 c8 c9 c10 c11 c12 c13 q0 q1 qa0 qa1 qb0 qb1 HB3 HBb3 HV3
    go_wp2_with fail
    refine (show Code.wp Tryz.prog _ _ _ _ from ?_)
    go_wp2_with fail
    go_ret3
    exact ⟨⟨w.heap.size,g6,k6,k,x,rn,la,ln,lc,wi,n,d,aa,an,ac,rfl,HF.out.1,Nat.le_refl _,⟨rest,hbg',HF.out.2.1⟩,HF.out.2.2.1⟩,HF.out.2.2.2⟩
end Go.Proofs.YtbgdlbndammgnaaGreatDoor.Al
/- ALARM: a board's step over one alarm. Own work of the verifier. -/
set_option maxRecDepth 100000
set_option maxHeartbeats 4000000
namespace Go.Proofs.YtbgdlbndammgnaaGreatDoor.Al
open Go.RowKit Go.Sort Me
theorem infoC:(Tryz.prog.info? 43).map (fun i=>(i.zero,i.size,i.bytes))=some (some (.agg #[.string ⟨#[]⟩,.int .i64 0,.int .i64 0]),3,32):=by kernel_rfl
theorem grown_none' {w w':World} (h:w.grownBy w' none):Below w.heap.size w w':=⟨h.os,h.tape,h.output,h.size,fun k hk=>h.block k hk (by simp)⟩
theorem step_ch {w:World} {ops:Array Oper} {o:Oper} {a:Act} {K:Act→World→Prop} {Q:Exit→Act→World→Prop} {E:Prop} (hgd:o.guard=none) (s x:Operand)
    (ho:o.op=.call { callee:=.builtin .append,args:=#[s,x],argTypes:=#[39,39] }) (hs:a.eval s=.slice none 0 0) (b:Nat) (hx:a.eval x=.slice (some ⟨b,0,none⟩) 1 1)
    (nm:List UInt8) (f t:Int)
    (hk:w.heap[b]? =some (.cells #[.string ⟨nm.toArray⟩,.int .i64 f,.int .i64 t] 43 (0,0)))
    (hh:∀ g cap w',w'.ownsRow w.heap.size 43 3 (.slice (some ⟨g,0,none⟩) 1 cap) 1 [.string ⟨nm.toArray⟩,.int .i64 f,.int .i64 t]→w.grownBy w' none→K (a.put o.dst (.slice (some ⟨g,0,none⟩) 1 cap)) w') :
    if Region.wanted o (yielded ops a.tmps)=true then Oper.wp Tryz.prog o a w K Q else E:=by
  obtain ⟨i0,hi,hz0,hz1,hz2⟩:=info_parts infoC
  refine step_append_lies w hgd s x _ ho w.heap.size 43 i0 (.agg #[.string ⟨#[]⟩,.int .i64 0,.int .i64 0]) 3 32 Tryz.underlying39 hi hz0 hz1 hz2 rfl (by decide) (.slice none 0 0) 0 [] hs ⟨rfl,.inl ⟨rfl,rfl⟩⟩ ⟨b,0,none⟩ 1 1 [.string ⟨nm.toArray⟩,.int .i64 f,.int .i64 t] hx (by rfl) (World.news_of_block (by simpa using hk)) (fun u hu=>by simp at hu;rcases hu with rfl | rfl | rfl <;> rfl) (by omega) (by unfold maxLen;omega) (by omega) (Nat.le_refl _) _ rfl ?_
  intro g cap w' h1 h2 h3 h4
  exact hh g cap w' h1 h2
theorem bd2 {W:World} {g:Nat} {x y:Value} {t:TypeId} (h:W.heap[g]? =some (.cells #[x,y] t)):(W.cell? ⟨g,0,none⟩=some x∧W.cell? ⟨g,1,none⟩=some y)∧∀ i,W.frozen? ⟨g,i,none⟩=false:=by refine ⟨⟨?_,?_⟩,fun i=>?_⟩ <;> simp [World.cell?,World.frozen?,h]
theorem Ex_at' {r g:Nat} {a w:World} {o:Obj} (h:La.Ex r a w) (hg:g≠r) (ho:a.heap[g]? =some o):w.heap[g]? =some o:=(h.block g (Array.getElem?_eq_some_iff.1 ho).1 hg).trans ho
theorem row_rest3 {cur:Array Value} {a0 a1 a2:Value} (h:cur.toList.take (1*3)=[a0,a1,a2]):∃ rest,cur=#[a0,a1,a2]++rest:=⟨(cur.toList.drop (1*3)).toArray,by
  apply Array.toList_inj.1
  rw [Array.toList_append,← List.take_append_drop (1*3) cur.toList,h]
  simp⟩
def StQ (b g cap:Nat) (k:Int) (x:Nat) (rn:List UInt8) (la:Option Addr) (ln lc:Nat) (wi n d:Int) (aa:Option Addr) (an ac:Nat) (wait keep st z s9 now:Int) (rest:Array Value) (w:World) (e:Ending) (w':World):Prop :=
  (∃ c q rs,e=.returned (.tuple #[.slice (some ⟨c,0,none⟩) 1 q,.int .i64 0])∧w.heap.size≤c∧w'.heap[c]? =some (.cells (#[.string ⟨#[120]⟩,.int .i64 st,.int .i64 z]++rs) 43)) ∧
  w'.heap[b]? =some (.cells #[.slice (some ⟨g,0,none⟩) 1 cap,.int .i64 now] 50) ∧
  w'.heap[g]? =some (.cells (alC [120] k x rn (.slice la ln lc) wi n d (.slice aa an ac) wait keep z s9 0++rest) 57) ∧
  w'.os=w.os∧w'.tape=w.tape∧w'.output=w.output∧w.heap.size≤w'.heap.size∧∀ j,j < w.heap.size→j≠b→j≠g→w'.heap[j]? =w.heap[j]?
theorem bstep (b g cap:Nat) (hbg:b≠g) (rp:Option Addr) (k:Int) (x:Nat) (rn:List UInt8) (la:Option Addr) (ln lc:Nat) (wi n d:Int) (aa:Option Addr) (an ac:Nat) (wait keep st si e0 z s9 last now:Int) (rest:Array Value) (h0:-4611686018427387904≤now) (h1:now≤4611686018427387904) (hl:last < now) (hz:z≠st) (w:World)
    (hb:w.heap[b]? =some (.cells #[.slice (some ⟨g,0,none⟩) 1 cap,.int .i64 last] 50))
    (hg:w.heap[g]? =some (.cells (alC [120] k x rn (.slice la ln lc) wi n d (.slice aa an ac) wait keep st si e0++rest) 57))
    (hS:∀ W,La.Ex b w W→Calls Tryz.prog 17 #[.pointer (some ⟨g,0,none⟩),.pointer rp,.int .i64 now] W fun e w'=>e=.returned (.tuple #[])∧La.Ex g W w'∧w'.heap[g]? =some (.cells (alC [120] k x rn (.slice la ln lc) wi n d (.slice aa an ac) wait keep z s9 0++rest) 57)) :
    Calls Tryz.prog 9 #[.pointer (some ⟨b,0,none⟩),.pointer rp,.int .i64 now] w fun e w'=>StQ b g cap k x rn la ln lc wi n d aa an ac wait keep st z s9 now rest w e w':=by
  have d1:decide (now < -4611686018427387904)=false:=decide_eq_false (by omega)
  have d2:decide (now > 4611686018427387904)=false:=decide_eq_false (by omega)
  have d3:decide (now≤last)=false:=decide_eq_false (by omega)
  have HSt:Hid (∀ W,La.Ex b w W→Calls Tryz.prog 17 #[.pointer (some ⟨g,0,none⟩),.pointer rp,.int .i64 now] W fun e w'=>e=.returned (.tuple #[])∧La.Ex g W w'∧w'.heap[g]? =some (.cells (alC [120] k x rn (.slice la ln lc) wi n d (.slice aa an ac) wait keep z s9 0++rest) 57)):=hS
  have HB:=hid_of hb
  have HG:=hid_of hg
  obtain ⟨⟨q0,q1⟩,qf⟩:=bd2 hb
  obtain ⟨c0,c1,c2,c3,c4,c5,c6,c7,c8,c9,c10,c11,c12,c13⟩:=fourteen' hg
  have sF:=Ru.store_f
  clear hb hg hS h0 h1 hl
  go_enter Tryz.func9,Tryz.ntmps9
  go_wp2_with fail
  have hb1:(w.setCell ⟨b,1,none⟩ (.int .i64 now)).heap[b]? =some (.cells #[.slice (some ⟨g,0,none⟩) 1 cap,.int .i64 now] 50):=Lib.heap_setCell_same (i:=1) HB.out (.int .i64 now)
  have hg1:(w.setCell ⟨b,1,none⟩ (.int .i64 now)).heap[g]? =some (.cells (alC [120] k x rn (.slice la ln lc) wi n d (.slice aa an ac) wait keep st si e0++rest) 57):=by
    rw [heap_other _ _ _ _ (by show g≠b;omega)]
    exact HG.out
  have hx1:La.Ex b w (w.setCell ⟨b,1,none⟩ (.int .i64 now)):=(La.Ex.refl b w).set 1 _
  generalize w.setCell ⟨b,1,none⟩ (.int .i64 now)=W1 at *
  clear q0 q1 qf c0 c1 c2 c3 c4 c5 c6 c7 c8 c9 c10 c11 c12 c13 HB HG
  obtain ⟨⟨q0,q1⟩,-⟩:=bd2 hb1
  have c11:=(fourteen' hg1).2.2.2.2.2.2.2.2.2.2.2.1
  have HB1:=hid_of hb1
  have HX1:=hid_of hx1
  clear hb1 hg1 hx1
  refine wp_loop_rounds 2 (show Code.wp Tryz.prog _ _ _ _ from ?_)
  go_wp2_with fail
  refine Calls.mono (HSt.out W1 HX1.out) ?_
  rintro e w2 ⟨rfl,hx2,hg2⟩
  have hb2:w2.heap[b]? =some (.cells #[.slice (some ⟨g,0,none⟩) 1 cap,.int .i64 now] 50):=Ex_at' hx2 hbg HB1.out
  have HX2:=hid_of hx2
  have HB2:=hid_of hb2
  have HG2:=hid_of hg2
  clear q0 q1 c11
  obtain ⟨⟨q0,q1⟩,-⟩:=bd2 hb2
  obtain ⟨c0,c1,c2,c3,c4,c5,c6,c7,c8,c9,c10,c11,c12,c13⟩:=fourteen' hg2
  have hzb:(z != st)=true:=by rw [bne_iff_ne];exact hz
  clear hx2 hb2 hg2 HB1 HSt hz
  go_wp2_with fail
  have HNv:=hid_of (new_1 w2 (.cells #[.string ⟨#[120]⟩,.int .i64 st,.int .i64 z] 43))
  go_region_law (refine step_ch (by rfl) _ _ (by rfl) (by rfl) w2.heap.size (by rfl) [120] st z (by first | exact HNv.out) ?_;intro g6 k6 w6 hown hgr)
  all_goals
    have hB9:Below w2.heap.size w2 w6:=bt (by first | exact bel1 w2 _ | exact bel_drewB (bel1 w2 _) | exact bt (bel_drewB (Below.refl _ w2)) (bel1 _ _)) (grown_none' hgr)
    rcases hown.2 with ⟨h,-⟩ | ⟨g',cap',cur,hv',hbg6,hgc,-,-,-,htk⟩
    · cases h
    cases hv'
    have hbg':w2.heap.size < g6:=Nat.lt_of_lt_of_le (by simp [World.drew]) hbg6
    obtain ⟨rs,hr⟩:=row_rest3 htk
    have HF:Hid (StQ b g cap k x rn la ln lc wi n d aa an ac wait keep st z s9 now rest w (.returned (.tuple #[.slice (some ⟨g6,0,none⟩) 1 k6,.int .i64 0])) w6):=by
      have y1:=HX1.out
      have y2:=HX2.out
      refine ⟨⟨g6,k6,rs,rfl,by have:=y1.size;have:=y2.size;omega,by rw [← hr];exact hgc⟩,Ru.h_at HB2.out hB9,Ru.h_at HG2.out hB9,by rw [hB9.os,y2.os,y1.os],by rw [hB9.tape,y2.tape,y1.tape],by rw [hB9.output,y2.output,y1.output],by have:=y1.size;have:=y2.size;have:=hB9.size;omega,fun j hj h1 h2=>?_⟩
      have z1:=y1.size
      have z2:=y2.size
      rw [hB9.block j (by omega),y2.block j (by omega) h2,y1.block j hj h1]
    clear HNv hown hgr hgc htk hbg6 hbg' hr hB9 c0 c1 c2 c3 c4 c5 c6 c7 c8 c9 c10 c11 c12 c13 q0 q1 HB2 HG2 HX1 HX2
    go_wp2_with fail
    refine (show Code.wp Tryz.prog _ _ _ _ from ?_)
    go_wp2_with fail
    go_ret2
    exact HF.out
end Go.Proofs.YtbgdlbndammgnaaGreatDoor.Al
/- ALARM: what the law holds between its calls. Own work of the verifier. -/
namespace Go.Proofs.YtbgdlbndammgnaaGreatDoor.Al
open Go.RowKit Go.Sort Me
theorem lbv_sep {B:Nat} {W W1:World} {v:Value} {L:List La.Lb} (h:Ru.LbV B W v L) (hk:∀ k,B≤k→k < W.heap.size→W1.heap[k]? =W.heap[k]?):Ru.LbV B W1 v L:=by
  obtain ⟨ao,b,o,cap,rfl,h1,h2,h3,h4,h5⟩:=h
  refine ⟨ao,b,o,cap,rfl,h1,h2,h3,h4,?_⟩
  by_cases k:L=[]
  · subst k;exact fun i hi=>by simp at hi
  · intro i hi
    obtain ⟨q1,q2⟩:=h5 i hi
    have hb:=hk b (h1 k).2 (La.lt_of_cell q1)
    exact ⟨(World.cell?_of_block (w:=W) (a:=⟨b,o+i*2,none⟩) hb).trans q1,(World.cell?_of_block (w:=W) (a:=⟨b,o+i*2+1,none⟩) hb).trans q2⟩
theorem rv_sep {B:Nat} {W W1:World} {t:Ru.RT} {v:Value} (h:Ru.RV B W t v) (hk:∀ k,B≤k→k < W.heap.size→W1.heap[k]? =W.heap[k]?):Ru.RV B W1 t v :=
  Ru.RV.map (Nat.le_refl _) (fun b o _ hb hu=>(World.cell?_of_block (w:=W) (a:=⟨b,o,none⟩) (hk b hb (La.lt_of_cell hu))).trans hu) (fun _ _ hl=>lbv_sep hl hk) t v h
structure FX (r b g cap:Nat) (k:Int) (x:Nat) (rn:List UInt8) (la:Option Addr) (ln lc:Nat) (wi n d:Int) (aa:Option Addr) (an ac:Nat) (st si e0 last:Int) (rest:Array Value) (w W:World):Prop where
  ring:∃ u tv sv,Ri.Rg r r 2 [10] [(oneS 5,u)] 0 tv sv W
  bd:W.heap[b]? =some (.cells #[.slice (some ⟨g,0,none⟩) 1 cap,.int .i64 last] 50)
  al:W.heap[g]? =some (.cells (alC [120] k x rn (.slice la ln lc) wi n d (.slice aa an ac) 10 5 st si e0++rest) 57)
  rv:∃ Wr,Ru.RV (b+1) Wr Ru.rl4 (Ru.rx k x rn (.slice la ln lc) wi n d (.slice aa an ac))∧b < Wr.heap.size∧Wr.heap.size≤g∧∀ j,b+1≤j→j < Wr.heap.size→W.heap[j]? =Wr.heap[j]?
  bel:Below w.heap.size w W
  le:w.heap.size≤r∧r < b
theorem FX.ltg {r b g cap:Nat} {k:Int} {x:Nat} {rn:List UInt8} {la:Option Addr} {ln lc:Nat} {wi n d:Int} {aa:Option Addr} {an ac:Nat} {st si e0 last:Int} {rest:Array Value} {w W:World} (h:FX r b g cap k x rn la ln lc wi n d aa an ac st si e0 last rest w W):b < g:=by
  obtain ⟨Wr,-,h1,h2,-⟩:=h.rv
  omega
theorem FX.noring {r b g cap:Nat} {k:Int} {x:Nat} {rn:List UInt8} {la:Option Addr} {ln lc:Nat} {wi n d:Int} {aa:Option Addr} {an ac:Nat} {st si e0 last:Int} {rest:Array Value} {w W:World} (h:FX r b g cap k x rn la ln lc wi n d aa an ac st si e0 last rest w W):Ri.NoRing W (fun p=>p=b∨p=g):=by
  intro p hp
  rcases hp with rfl | rfl
  · exact ⟨_,_,_,h.bd,by decide,by decide,by decide,by decide,by decide,by decide⟩
  · exact ⟨_,_,_,h.al,by decide,by decide,by decide,by decide,by decide,by decide⟩
theorem FX.step {r b g cap:Nat} {k:Int} {x:Nat} {rn:List UInt8} {la:Option Addr} {ln lc:Nat} {wi n d:Int} {aa:Option Addr} {an ac:Nat} {st si e0 last z s9 now:Int} {rest:Array Value} {w W W1:World} {e:Ending} (h:FX r b g cap k x rn la ln lc wi n d aa an ac st si e0 last rest w W)
    (hq:StQ b g cap k x rn la ln lc wi n d aa an ac 10 5 st z s9 now rest W e W1):FX r b g cap k x rn la ln lc wi n d aa an ac z s9 0 now rest w W1:=by
  obtain ⟨-,h1,h2,h3,h4,h5,h6,h7⟩:=hq
  have hbg:=h.ltg
  have hle:=h.le
  have hc:Chg (fun p=>p=b∨p=g) W W1:=⟨h3,h4,h5,h6,fun j hj hn=>h7 j hj (fun e=>hn (Or.inl e)) (fun e=>hn (Or.inr e))⟩
  refine ⟨?_,h1,h2,?_,?_,h.le⟩
  · obtain ⟨u,tv,sv,hg⟩:=h.ring
    exact ⟨u,tv,sv,hg.chg hc h.noring⟩
  · obtain ⟨Wr,r1,r2,r3,r4⟩:=h.rv
    refine ⟨Wr,r1,r2,r3,fun j hj hl=>?_⟩
    have hgl:=(Array.getElem?_eq_some_iff.1 h.al).1
    rw [h7 j (by omega) (by omega) (by omega),r4 j hj hl]
  · have:=h.bel.size
    exact ⟨h3.trans h.bel.os,h4.trans h.bel.tape,h5.trans h.bel.output,by omega,fun j hj=>by rw [h7 j (by omega) (by omega) (by omega)];exact h.bel.block j hj⟩
theorem FX.eval {r b g cap:Nat} {k:Int} {x:Nat} {rn:List UInt8} {la:Option Addr} {ln lc:Nat} {wi n d:Int} {aa:Option Addr} {an ac:Nat} {st si e0 last:Int} {rest:Array Value} {w W W1:World} (h:FX r b g cap k x rn la ln lc wi n d aa an ac st si e0 last rest w W) (hk:Ru.Kd w) (hx:La.Ex b W W1) (now:Int) (h0:10≤now) (h1:now≤1000) :
    Calls Tryz.prog 30 #[.pointer (some ⟨r,0,none⟩),.int .i64 now,Ru.rx k x rn (.slice la ln lc) wi n d (.slice aa an ac)] W1 fun e w'=>e=.returned (.tuple #[.agg #[.bool true,.bool true,.float .f64 0],.int .i64 0])∧Below W1.heap.size W1 w':=by
  obtain ⟨u,tv,sv,hg⟩:=h.ring
  have hle:=h.le
  have hc:Chg (fun p=>p=b) W W1:=⟨hx.os,hx.tape,hx.output,hx.size,fun j hj hn=>hx.block j hj hn⟩
  have hbw:Below w.heap.size w W1:=h.bel.trans (hx.below (B:=w.heap.size) (by omega) h.bel.size)
  refine Ri.eval_at r u tv sv _ now h0 h1 W1 (hg.chg hc (fun p hp=>h.noring p (Or.inl hp))) ?_ (hk.below hbw)
  obtain ⟨Wr,r1,r2,r3,r4⟩:=h.rv
  have hgl:=(Array.getElem?_eq_some_iff.1 h.al).1
  exact (rv_sep r1 (fun j hj hl=>by rw [hx.block j (by omega) (by omega),r4 j hj hl])).mono (Nat.zero_le _)
theorem FX.step20 {r b g cap:Nat} {k:Int} {x:Nat} {rn:List UInt8} {la:Option Addr} {ln lc:Nat} {wi n d:Int} {aa:Option Addr} {an ac:Nat} {rest:Array Value} {w W:World} (h:FX r b g cap k x rn la ln lc wi n d aa an ac 1 0 0 (-4611686018427387905) rest w W) (hk:Ru.Kd w) :
    Calls Tryz.prog 9 #[.pointer (some ⟨b,0,none⟩),.pointer (some ⟨r,0,none⟩),.int .i64 20] W fun e w'=>StQ b g cap k x rn la ln lc wi n d aa an ac 10 5 1 2 20 20 rest W e w' :=
  bstep b g cap (Nat.ne_of_lt h.ltg) _ k x rn la ln lc wi n d aa an ac 10 5 1 0 0 2 20 _ 20 rest (by decide) (by decide) (by decide) (by decide) W h.bd h.al (fun W1 hx=>step_idle g _ [120] k x rn la ln lc wi n d aa an ac 10 5 0 0 20 true rest 2 20 rfl rfl W1 (Ex_at' hx (Nat.ne_of_gt h.ltg) h.al) (h.eval hk hx 20 (by decide) (by decide)))
theorem FX.step30 {r b g cap:Nat} {k:Int} {x:Nat} {rn:List UInt8} {la:Option Addr} {ln lc:Nat} {wi n d:Int} {aa:Option Addr} {an ac:Nat} {rest:Array Value} {w W:World} (h:FX r b g cap k x rn la ln lc wi n d aa an ac 2 20 0 20 rest w W) (hk:Ru.Kd w) :
    Calls Tryz.prog 9 #[.pointer (some ⟨b,0,none⟩),.pointer (some ⟨r,0,none⟩),.int .i64 30] W fun e w'=>StQ b g cap k x rn la ln lc wi n d aa an ac 10 5 2 3 30 30 rest W e w' :=
  bstep b g cap (Nat.ne_of_lt h.ltg) _ k x rn la ln lc wi n d aa an ac 10 5 2 20 0 3 30 _ 30 rest (by decide) (by decide) (by decide) (by decide) W h.bd h.al (fun W1 hx=>step_wait g _ [120] k x rn la ln lc wi n d aa an ac 10 5 20 0 30 true (by decide) rest 3 30 rfl rfl W1 (Ex_at' hx (Nat.ne_of_gt h.ltg) h.al) (h.eval hk hx 30 (by decide) (by decide)))
end Go.Proofs.YtbgdlbndammgnaaGreatDoor.Al
/- ALARM: the law's fixed. Own work of the verifier. -/
set_option maxRecDepth 100000
set_option maxHeartbeats 4000000
namespace Go.Proofs.YtbgdlbndammgnaaGreatDoor.Al
open Go.RowKit Go.Sort Me
theorem FX.made {r b g cap:Nat} {k:Int} {x:Nat} {rn:List UInt8} {la:Option Addr} {ln lc:Nat} {wi n d:Int} {aa:Option Addr} {an ac:Nat} {last:Int} {rest:Array Value} {w w3 w4 w5 Wr:World} {u tv sv:Value} (hr:w.heap.size≤r∧r < b) (h3:Below w.heap.size w w3)
    (hbd:w3.heap[b]? =some (.cells #[.slice (some ⟨g,0,none⟩) 1 cap,.int .i64 last] 50))
    (hal:w3.heap[g]? =some (.cells (alC [120] k x rn (.slice la ln lc) wi n d (.slice aa an ac) 10 5 1 0 0++rest) 57))
    (r1:Ru.RV (b+1) Wr Ru.rl4 (Ru.rx k x rn (.slice la ln lc) wi n d (.slice aa an ac))) (r2:La.Ex b Wr w3) (r3:b < Wr.heap.size) (r4:Wr.heap.size≤g)
    (h4:Below w3.heap.size w3 w4) (h5:La.Ex r w4 w5) (hg:Ri.Rg r r 2 [10] [(oneS 5,u)] 0 tv sv w5):FX r b g cap k x rn la ln lc wi n d aa an ac 1 0 0 last rest w w5:=by
  have s2:=r2.size
  have s4:=h4.size
  have s3:=h3.size
  refine ⟨⟨u,tv,sv,hg⟩,Ex_at' h5 (by omega) (Ru.h_at hbd h4),Ex_at' h5 (by omega) (Ru.h_at hal h4),⟨Wr,r1,r3,r4,fun j hj hl=>?_⟩,?_,hr⟩
  · rw [h5.block j (by omega) (by omega),h4.block j (by omega),r2.block j hl (by omega)]
  · exact (bt h3 h4).trans (h5.below (B:=w.heap.size) hr.1 (by omega))
theorem three_app {W:World} {g:Nat} {x y z:Value} {rs:Array Value} {t:TypeId} (h:W.heap[g]? =some (.cells (#[x,y,z]++rs) t)):W.cell? ⟨g,0,none⟩=some x∧W.cell? ⟨g,1,none⟩=some y∧W.cell? ⟨g,2,none⟩=some z:=by
  refine ⟨?_,?_,?_⟩ <;> (simp [World.cell?,h];exact app_at rfl)
theorem fixed_al (w:World) (he:Ru.Env w):Calls Tryz.prog 4 #[] w fun e w'=>e=.returned (.bool true)∧Below w.heap.size w w':=by
  have HN:Hid (Calls Tryz.prog 5 #[.int .i64 2] w fun e w'=>e=.returned (.tuple #[.pointer (some ⟨w.heap.size,0,none⟩),.int .i64 0])∧w'=w.alloc (.cells #[.int .i64 2,.slice none 0 0,.slice none 0 0,.int .i64 0] 47)):=Ri.rnew_any 2 (by omega) (by omega) w
  obtain ⟨W1,hW1⟩:∃ W1,W1=w.alloc (.cells #[.int .i64 2,.slice none 0 0,.slice none 0 0,.int .i64 0] 47):=⟨_,rfl⟩
  have hg1:Ri.Rg w.heap.size w.heap.size 2 [] [] 0 (.slice none 0 0) (.slice none 0 0) W1:=by rw [hW1];exact Ri.Rg.new w 2 (by omega) (by omega)
  have hb1:Below w.heap.size w W1:=by rw [hW1];exact bel1 _ _
  have hs1:W1.heap.size=w.heap.size+1:=by rw [hW1];simp
  obtain ⟨W2,hW2⟩:∃ W2,W2=W1.alloc (.cells spC 31):=⟨_,rfl⟩
  have hb2:Below W1.heap.size W1 W2:=by rw [hW2];exact bel1 _ _
  have hp2:W2.heap[W1.heap.size]? =some (.cells spC 31):=by rw [hW2];exact new_1 _ _
  have hs2:W2.heap.size=w.heap.size+2:=by rw [hW2];simp [hs1]
  have HNw:Hid (Calls Tryz.prog 6 #[.slice (some ⟨W1.heap.size,0,none⟩) 1 1] W2 fun e w'=>NewQ W2 e w'):=new_x _ W2 (he.below (bt hb1 hb2)) hp2
  have HO:Hid (∀ W,Calls Tryz.prog 8 #[.int .u64 5] W fun e w'=>∃ v,e=.returned v∧SnAt w' (oneS 5) v∧Below W.heap.size W w'):=fun W=>Ri.one23_any 5 (by decide) W
  have HG2:=hid_of (hg1.below hb2)
  have HB2:=hid_of (bt hb1 hb2)
  have HS2:=hid_of hs2
  have HW1:=hid_of hW1
  have HW2:=hid_of hW2
  have HKd:=hid_of he.kd
  clear hW1 hg1 hb1 hs1 hW2 hb2 hp2 hs2 he
  go_enter Tryz.func4,Tryz.ntmps4
  go_wp2_with fail
  refine Calls.mono HN.out ?_
  rintro e w1 ⟨rfl,hw1⟩
  rw [← HW1.out] at hw1
  subst hw1
  clear HN
  go_wp2_with fail
  rw [← HW2.out]
  refine Calls.mono HNw.out ?_
  rintro e w3 hq
  obtain ⟨⟨b,g,cap,k,x,rn,la,ln,lc,wi,n,d,aa,an,ac,rfl,hbd,hlb,⟨rest,hbg,hal⟩,Wr,r1,r2,r3,r4⟩,hb3⟩:=hq
  have HG3:=hid_of (HG2.out.below hb3)
  have HB3:=hid_of (bt HB2.out hb3)
  have HLe:Hid (w.heap.size≤w.heap.size∧w.heap.size < b):=⟨Nat.le_refl _,by have:=HS2.out;omega⟩
  have Hbd:=hid_of hbd
  have Hal:=hid_of hal
  have Hr:=hid_of (⟨r1,r2,r3,r4⟩:_∧_∧_∧_)
  clear hbd hlb hbg hal r1 r2 r3 r4 hb3 HNw HW2 HW1 HG2 HB2 HS2
  go_wp2_with fail
  refine Calls.mono (HO.out _) ?_
  rintro e w4 ⟨v,rfl,hv,hb4⟩
  have HP:Hid (Calls Tryz.prog 7 #[.pointer (some ⟨w.heap.size,0,none⟩),.int .i64 10,v] w4 fun e w'=>e=.returned (.int .i64 0)∧FX w.heap.size b g cap k x rn la ln lc wi n d aa an ac 1 0 0 (-4611686018427387905) rest w w'):=(Ri.push_e w.heap.size 10 5 v w4 (by decide) (HG3.out.below hb4) hv).mono (by
    rintro e w5 ⟨rfl,u,tv,sv,h1,h2⟩
    exact ⟨rfl,FX.made HLe.out HB3.out Hbd.out Hal.out Hr.out.1 Hr.out.2.1 Hr.out.2.2.1 Hr.out.2.2.2 hb4 h2 h1⟩)
  clear hv hb4 HG3 HB3 HLe Hbd Hal Hr HO
  go_wp2_with fail
  refine Calls.mono HP.out ?_
  rintro e w5 ⟨rfl,h5⟩
  have HF5:=hid_of h5
  have HS5:=hid_of (h5.step20 HKd.out)
  clear h5 HP
  go_wp2_with fail
  refine Calls.mono HS5.out ?_
  rintro e w6 h6
  have HF6:=hid_of (HF5.out.step h6)
  have HS6:=hid_of (HF6.out.step30 HKd.out)
  obtain ⟨⟨c1,q1,rs1,rfl,hl1,hc1⟩,-⟩:=h6
  have HLt:Hid (b < c1∧g < c1):=⟨by have:=(Array.getElem?_eq_some_iff.1 HF5.out.bd).1;omega,by have:=(Array.getElem?_eq_some_iff.1 HF5.out.al).1;omega⟩
  have HC1:=hid_of hc1
  clear HF5 HS5 hc1
  go_wp2_with fail
  refine Calls.mono HS6.out ?_
  rintro e w7 h7
  have HF7:=hid_of (HF6.out.step h7)
  obtain ⟨⟨c2,q2,rs2,rfl,hl2,hc2⟩,-,-,-,-,-,-,h8⟩:=h7
  have hc1':=(h8 c1 (Array.getElem?_eq_some_iff.1 HC1.out).1 (by have:=HLt.out;omega) (by have:=HLt.out;omega)).trans HC1.out
  obtain ⟨x0,x1,x2⟩:=three_app hc1'
  obtain ⟨y0,y1,y2⟩:=three_app hc2
  clear h8 hc1' hc2 hl1 hl2 HC1 HF6 HS6 HLt
  go_wp2_with fail
  go_ret
  exact ⟨rfl,HF7.out.bel⟩
end Go.Proofs.YtbgdlbndammgnaaGreatDoor.Al
/- AlarmNames: the walk. Own work of the verifier. -/
set_option maxRecDepth 100000
set_option maxHeartbeats 1000000
namespace Go.Proofs.YtbgdlbndammgnaaGreatDoor.Al
open Go.RowKit Go.Sort Me
theorem alnames_walk (w:World) (he:Ru.Env w) :
    Calls Tryz.prog 3 #[] w fun r w'=>r=.returned (.bool true)∧Below w.heap.size w w':=by
  have HA:Hid (Calls Tryz.prog 4 #[] w fun r w'=>r=.returned (.bool true)∧Below w.heap.size w w'):=fixed_al w he
  clear he
  go_enter Tryz.func3,Tryz.ntmps3
  go_wp2_with (go_at_call 4;refine Calls.mono HA.out ?_;rintro e1 w1 ⟨rfl,hb⟩)
  go_ret
  exact ⟨rfl,hb⟩
end Go.Proofs.YtbgdlbndammgnaaGreatDoor.Al
