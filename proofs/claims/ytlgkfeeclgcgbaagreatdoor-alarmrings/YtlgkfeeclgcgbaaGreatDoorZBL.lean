/- RULES: goThrough. Own work of the verifier. -/
import Derived.Test.YtlgkfeeclgcgbaaGreatDoorZAZ
import Derived.Test.YtlgkfeeclgcgbaaGreatDoorZBH
set_option maxRecDepth 100000
set_option maxHeartbeats 1000000
namespace Go.Proofs.YtlgkfeeclgcgbaaGreatDoor.Ru
open Go.RowKit Go.Shelf Me Ri
attribute [local go_sem] Oper.semAt_some
theorem mid_of {n0 B:Nat} {W W':World} (h:Below W.heap.size W W'):Mid n0 B W W':=⟨h.os,h.tape,h.output,h.size,fun k hk _=>h.block k hk⟩
theorem mid_tr {n0 B:Nat} {A C D:World} (h:Mid n0 B A C) (k:Mid n0 B C D):Mid n0 B A D:=⟨k.os.trans h.os,k.tape.trans h.tape,k.output.trans h.output,Nat.le_trans h.size k.size,fun x hx hn=>(k.block x (Nat.lt_of_lt_of_le hx h.size) hn).trans (h.block x hx hn)⟩
theorem nvs_at {W:World} {b:Nat}:∀ {ar:List RT} {o i:Nat} {L:List Value},NVs W b o (ar.drop i) L→(hi:i < ar.length)→∃ k x nm la ln lc w n d aa an ac L1 L2,NV W ar[i] (.agg (rc k x nm (.slice la ln lc) w n d (.slice aa an ac))) L1∧(∀ j (h:j < (rc k x nm (.slice la ln lc) w n d (.slice aa an ac)).size),W.cell? ⟨b,o+j,none⟩=some (rc k x nm (.slice la ln lc) w n d (.slice aa an ac))[j])∧L=L1++L2∧NVs W b (o+8) (ar.drop (i+1)) L2:=by
 intro ar o i L h hi
 rw [List.drop_eq_getElem_cons hi] at h
 unfold NVs at h
 obtain ⟨u,L1,L2,h1,⟨k,x,nm,la,ln,lc,w,n,d,aa,an,ac,rfl⟩,h3,h4,h5⟩:=h
 exact ⟨k,x,nm,la,ln,lc,w,n,d,aa,an,ac,L1,L2,h1,h3,h4,h5⟩
def ThQ (n0 B:Nat) (J:List Value→World→Prop) (Jx:World→Prop) (R:List Value) (W:World) (e:Ending) (W':World):Prop :=
 ∃ c:Bool,e=.returned (.bool c)∧Hid ((c=true→Mid n0 B W W'∧J R W')∧(c=false→Jx W'))
theorem through_any (l n0 B s:Nat) (w0:World) (J:List Value→World→Prop) (Jx:World→Prop) (hn:n0≤B)
  (hJ:∀ L A A',J L A→Tn s A A'→J L A')
  (hY:∀ m v R W1,J (v::R) W1→YieldAt Fence.wide m Tryz.prog l #[v] W1 fun e W'=>ThQ n0 B J Jx R W1 e W') :
  ∀ (t:RT) (m:Nat) (v:Value) (L R:List Value) (W:World),NV w0 t v L→Below n0 w0 W→w0.heap.size≤n0→B≤W.heap.size→s≤W.heap.size→J (L++R) W →
   CallsIn Fence.wide m Tryz.prog 106 #[v,.func (.yield l) #[] #[]] W fun e W'=>ThQ n0 B J Jx R W e W':=by
 refine RT.ind ?_
 intro k x nm lb wi n d ar ih m v L R W hL hb hw0 hBs hs h0
 unfold NV at hL
 obtain ⟨lv,aa,ab,ao,ac,Lc,rfl,haa,hal,rfl,hLc⟩:=hL
 have sF:=store_f
 obtain ⟨W0,hW0⟩:∃ W0,W0=W.alloc (.cells (rc k x nm lv wi n d (.slice aa ar.length ac)) 61):=⟨_,rfl⟩
 have hb0:Below W.heap.size W W0:=by rw [hW0];exact bel1 W _
 have hn0:W0.heap[W.heap.size]? =some (.cells (rc k x nm lv wi n d (.slice aa ar.length ac)) 61):=by rw [hW0];exact new_1 W _
 have hJ0:J (rx k x nm lv wi n d (.slice aa ar.length ac)::(Lc++R)) W0:=hJ _ _ _ h0 ((Tn.of hb0).mono hs)
 have HE:Hid (YieldAt Fence.wide (m - 1) Tryz.prog l #[rx k x nm lv wi n d (.slice aa ar.length ac)] W0 fun e W'=>ThQ n0 B J Jx (Lc++R) W0 e W'):=hY _ _ _ _ hJ0
 have HW0:=hid_of hW0
 have HB0:=hid_of hb0
 have HNx:=hid_of hn0
 obtain ⟨y0,y1,y2,y3,y4,y5,y6,y7⟩:=eight hn0
 clear hW0 hb0 hn0 h0 hJ0
 refine callsIn_of_wp Tryz.func106 rfl trivial ?_ rfl
 simp only [Tryz.ntmps106,List.size_toArray,List.length_cons,List.length_nil,Nat.reduceAdd,Nat.reduceSub,Array.replicate_succ,Array.replicate_zero,List.push_toArray,List.append_toArray,List.nil_append,List.cons_append]
 gi_upto_region 1 with (fail)
 rw [← HW0.out]
 clear HW0
 obtain ⟨fn,tmps,assign,body,hy,hRd⟩:=HE.out
 unfold ThQ at hRd
 gi_wp2_with (fail)
 refine ⟨fun h=>by simp [Fence.wide] at h,hRd.mono ?_⟩
 rintro e W4 ⟨c,rfl,HQ⟩
 have hlt0:W.heap.size < W0.heap.size:=(Array.getElem?_eq_some_iff.1 HNx.out).1
 cases c with
 | false =>
  have HJx:=hid_of (HQ.out.2 rfl)
  clear HQ hRd hy HE y0 y1 y2 y3 y4 y5 y6 y7
  gi_wp2_with (fail)
  go_ret
  exact ⟨false,rfl,fun h=>absurd h (by decide),fun _=>HJx.out⟩
 | true =>
  obtain ⟨hm4,hj4⟩:=HQ.out.1 rfl
  have HM4:=hid_of (mid_tr (mid_of HB0.out) hm4)
  have hx4:=(hm4.block W.heap.size hlt0 (by omega)).trans HNx.out
  clear HQ hRd hy HE y0 y1 y2 y3 y4 y5 y6 y7 hm4
  obtain ⟨y0,y1,y2,y3,y4,y5,y6,y7⟩:=eight hx4
  clear hx4
  gi_wp2_with (fail)
  gi_loopw [14] (fun a W5=>∃ (i:Nat) (Lr:List Value),i≤ar.length∧a=.int .i64 (i:Int)∧Hid (NVs w0 ab (ao+i*8) (ar.drop i) Lr)∧Hid (J (Lr++R) W5)∧Hid (Mid n0 B W W5)) (fun a _=>ar.length - (intOf a).toNat)
  case atStart=>exact ⟨0,Lc,by omega,rfl,(by show NVs w0 ab (ao+0*8) (ar.drop 0) Lc;rw [Nat.zero_mul,Nat.add_zero,List.drop_zero];exact hLc),hj4,HM4⟩
  case round =>
   obtain ⟨i,Lr,hi,rfl,HL,HJ5,HM5⟩:=hrel
   by_cases hlt:i < ar.length
   ·have hlt':(i:Int) < (ar.length:Int):=by omega
    obtain ⟨k',x',nm',la',ln',lc',w',n',d',aa',an',ac',L1,L2,h1,h3,rfl,h5⟩:=nvs_at HL.out hlt
    have hab:=haa (by rintro rfl;simp at hlt)
    subst hab
    have hb5:Below n0 w0 wr:=hb.trans (HM5.out.toBelow (by omega))
    have hc5:∀ j (h:j < 8),wr.cell? ⟨ab,ao+i*8+j,none⟩=some ((rc k' x' nm' (.slice la' ln' lc') w' n' d' (.slice aa' an' ac'))[j]'h):=fun j h=>cellH (hb5.mono hw0) (h3 j h)
    have x0:=hc5 0 (by decide)
    have x1:=hc5 1 (by decide)
    have x2:=hc5 2 (by decide)
    have x3:=hc5 3 (by decide)
    have x4:=hc5 4 (by decide)
    have x5:=hc5 5 (by decide)
    have x6:=hc5 6 (by decide)
    have x7:=hc5 7 (by decide)
    simp only [Nat.add_zero] at x0
    have hix:=index_rl ab ao ar.length ac i (i:Int) rfl hlt
    have hbA:=bel1 wr (.cells (rc k' x' nm' (.slice la' ln' lc') w' n' d' (.slice aa' an' ac')) 61)
    have hnA:=new_1 wr (.cells (rc k' x' nm' (.slice la' ln' lc') w' n' d' (.slice aa' an' ac')) 61)
    have hsz5:=HM5.out.size
    have HCall:Hid (CallsIn Fence.wide (m - 1) Tryz.prog 106 #[.agg (rc k' x' nm' (.slice la' ln' lc') w' n' d' (.slice aa' an' ac')),.func (.yield l) #[] #[]] (wr.alloc (.cells (rc k' x' nm' (.slice la' ln' lc') w' n' d' (.slice aa' an' ac')) 61)) fun e W'=>ThQ n0 B J Jx (L2++R) (wr.alloc (.cells (rc k' x' nm' (.slice la' ln' lc') w' n' d' (.slice aa' an' ac')) 61)) e W') :=
     ih ar[i] (List.getElem_mem hlt) (m - 1) _ L1 (L2++R) _ h1 (hb5.trans (hbA.mono (by omega))) hw0 (by have:=hbA.size;omega) (by have:=hbA.size;omega) (by
      rw [← List.append_assoc]
      exact hJ _ _ _ HJ5.out ((Tn.of hbA).mono (by omega)))
    have HMA:Hid (Mid n0 B W (wr.alloc (.cells (rc k' x' nm' (.slice la' ln' lc') w' n' d' (.slice aa' an' ac')) 61))):=mid_tr HM5.out (mid_of hbA)
    have H5:Hid (NVs w0 ab (ao+(i+1)*8) (ar.drop (i+1)) L2):=by
     rw [show ao+(i+1)*8=ao+i*8+8 by omega]
     exact h5
    clear hc5 h1 h3 h5 HL HJ5 HM5 hbA hb5 y0 y1 y2 y3 y4 y5 y6 y7
    obtain ⟨t0,t1,t2,t3,t4,t5,t6,t7⟩:=eight hnA
    clear hnA
    gi_upto_region 6 with (fail)
    generalize hWA:wr.alloc (.cells (rc k' x' nm' (.slice la' ln' lc') w' n' d' (.slice aa' an' ac')) 61)=WA at *
    generalize wr.heap.size=gb at *
    clear hWA x0 x1 x2 x3 x4 x5 x6 x7
    gi_wp2_with (fail)
    refine ⟨trivial,(fun h=>by simp [Fence.wide] at h),HCall.out.mono ?_⟩
    rintro e w2 ⟨c,rfl,HQ⟩
    clear HCall t0 t1 t2 t3 t4 t5 t6 t7
    cases c with
    | false =>
     have HJx:=hid_of (HQ.out.2 rfl)
     clear HQ
     gi_wp2_with (fail)
     go_ret
     exact ⟨false,rfl,fun h=>absurd h (by decide),fun _=>HJx.out⟩
    | true =>
     obtain ⟨hm2,hj2⟩:=HQ.out.1 rfl
     have HM2:=hid_of (mid_tr HMA.out hm2)
     have HJ2:=hid_of hj2
     clear HQ hm2 hj2
     gi_wp2_with (fail)
     go_roundw
     case rel=>exact ⟨i+1,L2,by omega,rfl,H5,HJ2,HM2⟩
     case measure=>simp only [intOf];omega
   ·have hie:i=ar.length:=by omega
    subst hie
    have hl:=HL.out
    rw [List.drop_length] at hl
    unfold NVs at hl
    subst hl
    have hlt':¬ (ar.length:Int) < (ar.length:Int):=by omega
    clear y0 y1 y2 y3 y4 y5 y6 y7
    gi_wp2_with (fail)
    go_ret
    exact ⟨true,rfl,fun _=>⟨HM5.out,HJ5.out⟩,fun h=>absurd h (by decide)⟩
end Go.Proofs.YtlgkfeeclgcgbaaGreatDoor.Ru
/- RULES: the iterator over a rule's nodes. Own work of the verifier. -/
set_option maxRecDepth 100000
set_option maxHeartbeats 1000000
namespace Go.Proofs.YtlgkfeeclgcgbaaGreatDoor.Ru
open Go.RowKit Go.Shelf Me Ri
attribute [local go_sem] Oper.semAt_some
theorem yield_m {m m':Nat} {P:Program} {l:Nat} {args:Array Value} {W:World} {R:Ending→World→Prop} (h:YieldAt Fence.wide m P l args W R):YieldAt Fence.wide m' P l args W R:=by
 obtain ⟨fn,tmps,assign,body,hy,hR⟩:=h
 exact ⟨fn,tmps,assign,body,hy,hR.1,fun c cs _=>hR.2 c cs (room_wide _)⟩
def encV (L:List Value) (i:Nat):Array Value:=#[L.getD i .nilIface]
theorem nodes_seq (m bx n0 B:Nat) (t:RT) (v:Value) (L:List Value) (w0 w:World) (hL:NV w0 t v L) (hb:Below n0 w0 w) (hw0:w0.heap.size≤n0) (hn:n0≤B) (hB:B≤w.heap.size)
  (hbx:∃ k x nm lv wi n d av,v=rx k x nm lv wi n d av∧w.heap[bx]? =some (.cells (rc k x nm lv wi n d av) 61)) :
  SeqX Tryz.prog m 105 #[.pointer (some ⟨bx,0,none⟩)] n0 B L.length (encV L) w:=by
 intro l J Jx W hWb hsz hl hlW hJ hJx hY h0
 obtain ⟨k,x,nm,lv,wi,n,d,av,rfl,hbx⟩:=hbx
 have hx:=(hWb.block bx (Array.getElem?_eq_some_iff.1 hbx).1).trans hbx
 obtain ⟨y0,y1,y2,y3,y4,y5,y6,y7⟩:=eight hx
 have HC:Hid (CallsIn Fence.wide (m - 1) Tryz.prog 106 #[rx k x nm lv wi n d av,.func (.yield l) #[] #[]] W fun e W'=>ThQ n0 B (fun R W=>∃ i,i≤L.length∧R=L.drop i∧J i W) (fun W=>∃ i,i≤L.length∧Jx i W) [] W e W'):=by
  refine through_any l n0 B W.heap.size w0 _ _ hn ?_ ?_ t (m - 1) _ L [] W hL (hb.trans (hWb.mono (by omega))) hw0 (by omega) (Nat.le_refl _) ⟨0,Nat.zero_le _,by rw [List.append_nil];rfl,h0⟩
  ·rintro R A A' ⟨i,h1,h2,h3⟩ hT
   exact ⟨i,h1,h2,hJ _ _ _ h3 hT⟩
  ·rintro m' v R W1 ⟨i,h1,h2,h3⟩
   have hi:i < L.length:=by
    apply Classical.byContradiction
    intro q
    rw [List.drop_eq_nil_of_le (by omega)] at h2
    cases h2
   rw [List.drop_eq_getElem_cons hi] at h2
   cases h2
   have:=hY i W1 hi h3
   unfold encV at this
   simp only [List.getD,List.getElem?_eq_getElem hi,Option.getD_some] at this
   refine yield_m (this.mono ?_)
   rintro e W' (⟨rfl,k1,k2⟩ | ⟨rfl,k1,k2⟩)
   ·exact ⟨true,rfl,fun _=>⟨k1,i+1,by omega,rfl,k2⟩,fun q=>absurd q (by decide)⟩
   ·exact ⟨false,rfl,fun q=>absurd q (by decide),fun _=>⟨i+1,by omega,k2⟩⟩
 clear hJ hJx hY h0 hL hx
 refine callsIn_of_wp Tryz.func105 rfl trivial ?_ rfl
 simp only [Tryz.ntmps105,List.size_toArray,List.length_cons,List.length_nil,Nat.reduceAdd,Nat.reduceSub,Array.replicate_succ,Array.replicate_zero,List.push_toArray,List.append_toArray,List.nil_append,List.cons_append]
 gi_wp2_with (fail)
 refine ⟨trivial,(fun h=>by simp [Fence.wide] at h),HC.out.mono ?_⟩
 rintro e w2 ⟨c,rfl,HQ⟩
 clear HC y0 y1 y2 y3 y4 y5 y6 y7
 gi_wp2_with (fail)
 go_end0
 refine ⟨⟨_,rfl⟩,?_⟩
 cases c with
 | false=>exact .inr (HQ.out.2 rfl)
 | true =>
  obtain ⟨-,i,h1,h2,h3⟩:=HQ.out.1 rfl
  have hi:i=L.length:=by
   apply Classical.byContradiction
   intro q
   rw [List.drop_eq_getElem_cons (show i < L.length by omega)] at h2
   cases h2
  exact .inl (hi ▸ h3)
end Go.Proofs.YtlgkfeeclgcgbaaGreatDoor.Ru
/- RULES: checkNodes. Own work of the verifier. -/
set_option maxRecDepth 100000
set_option maxHeartbeats 1000000
namespace Go.Proofs.YtlgkfeeclgcgbaaGreatDoor.Ru
open Go.RowKit Go.Shelf Me Ri
attribute [local go_sem] Oper.semAt_some
theorem nodes_in (m:Nat) (v:Value) (W:World) (hv:∃ k x nm lv wi n d av,v=rx k x nm lv wi n d av):CallsIn Fence.wide m Tryz.prog 76 #[v] W fun e w'=>e=.returned (.func (.func 105) #[] #[.pointer (some ⟨W.heap.size,0,none⟩)])∧∃ k x nm lv wi n d av,v=rx k x nm lv wi n d av∧w'=W.alloc (.cells (rc k x nm lv wi n d av) 61):=by
 obtain ⟨k,x,nm,lv,wi,n,d,av,rfl⟩:=hv
 refine callsIn_of_wp Tryz.func76 rfl trivial ?_ rfl
 simp only [Tryz.ntmps76,List.size_toArray,List.length_cons,List.length_nil,Nat.reduceAdd,Nat.reduceSub,Array.replicate_succ,Array.replicate_zero,List.push_toArray,List.append_toArray,List.nil_append,List.cons_append]
 gi_wp2_with (fail)
 go_ret
 exact ⟨rfl,k,x,nm,lv,wi,n,d,av,rfl,rfl⟩
theorem cell_1f {W:World} {k:Nat} {v:Value} {t:TypeId} (h:W.heap[k]? =some (.cells #[v] t (0,0))):W.cell? ⟨k,0,none⟩=some v∧W.frozen? ⟨k,0,none⟩=false:=⟨by simp [World.cell?,h],by simp [World.frozen?,h]⟩
theorem fstE_drop (r:List RT) (i:Nat) (h:i < r.length):fstE (r.drop i)=if okN r[i]≠0 then okN r[i] else fstE (r.drop (i+1)):=by
 rw [List.drop_eq_getElem_cons h,fstE]
theorem Vs.at_ {B:Nat} {W:World}:∀ {a:List RT} {L:List Value},Vs B W a L→∀ i (h:i < a.length),∃ v,L[i]? =some v∧RV B W a[i] v
 | [],_,_,_,h=>absurd h (by simp)
 | t::a,L,h,i,hi=>by
  unfold Vs at h
  obtain ⟨v,L',rfl,h1,h2⟩:=h
  cases i with
  | zero=>exact ⟨v,rfl,h1⟩
  | succ i =>
   obtain ⟨v',k1,k2⟩:=h2.at_ i (by simpa using hi)
   exact ⟨v',by simpa using k1,k2⟩
structure CN (w:World) (c:Array Value) (r j:Int) (W:World):Prop where
 g0:W.heap[w.heap.size]? =some (.cells c 61)
 g1:W.heap[w.heap.size+1]? =some (.cells #[.int .i64 r] 25)
 g2:W.heap[w.heap.size+2]? =some (.cells #[.int .i64 j] 3)
 bl:Below w.heap.size w W
theorem CN.size {w W:World} {c:Array Value} {r j:Int} (h:CN w c r j W):w.heap.size+3≤W.heap.size:=(Array.getElem?_eq_some_iff.1 h.g2).1
theorem CN.tn {w W W1:World} {c:Array Value} {r j:Int} {B:Nat} (h:CN w c r j W) (hb:Tn B W W1) (hB:w.heap.size≤B):CN w c r j W1 :=
 ⟨hb.cells h.g0,hb.cells h.g1,hb.cells h.g2,h.bl.trans ((hb.mono hB).below (by have:=h.size;omega))⟩
theorem CN.below {w W W1:World} {c:Array Value} {r j:Int} (h:CN w c r j W) (hb:Below W.heap.size W W1):CN w c r j W1:=h.tn (B:=W.heap.size) (Tn.of hb) (by have:=h.size;omega)
theorem CN.res {w W:World} {c:Array Value} {r j:Int} (h:CN w c r j W) (z:Int):CN w c z j (W.setCell ⟨w.heap.size+1,0,none⟩ (.int .i64 z)):=by
 refine ⟨?_,?_,?_,Below.setCell (p:=⟨w.heap.size+1,0,none⟩) h.bl (by show w.heap.size≤w.heap.size+1;omega) _⟩
 ·rw [heap_other _ _ _ _ (by show _≠w.heap.size+1;omega)];exact h.g0
 ·rw [heap_setCell_same _ _ 0 _ _ _ h.g1];rfl
 ·rw [heap_other _ _ _ _ (by show _≠w.heap.size+1;omega)];exact h.g2
theorem CN.num {w W:World} {c:Array Value} {r j:Int} (h:CN w c r j W) (z:Int):CN w c r z (W.setCell ⟨w.heap.size+2,0,none⟩ (.int .i64 z)):=by
 refine ⟨?_,?_,?_,Below.setCell (p:=⟨w.heap.size+2,0,none⟩) h.bl (by show w.heap.size≤w.heap.size+2;omega) _⟩
 ·rw [heap_other _ _ _ _ (by show _≠w.heap.size+2;omega)];exact h.g0
 ·rw [heap_other _ _ _ _ (by show _≠w.heap.size+2;omega)];exact h.g1
 ·rw [heap_setCell_same _ _ 0 _ _ _ h.g2];rfl
theorem checkNodes_any (t:RT) (v:Value) (w:World) (hv:RV 0 w t v) (hz:∀ s ∈ nds t,szN s) (h:Kd w) :
  Calls Tryz.prog 60 #[v] w fun e w'=>e=.returned (.int .i64 (chkE t))∧Below w.heap.size w w':=by
 refine (callsIn_wide (n:=9)).1 ?_
 obtain ⟨k,x,nm,la,ln,lc,wi,n,d,aa,an,ac,rfl⟩:=hv.form
 obtain ⟨L,hL,hVs⟩:=nv_ex t _ hv
 refine callsIn_of_wp_marks Tryz.func60 rfl trivial ?_ rfl
 simp only [Tryz.ntmps60,List.size_toArray,List.length_cons,List.length_nil,Nat.reduceAdd,Nat.reduceSub,Array.replicate_succ,Array.replicate_zero,List.push_toArray,List.append_toArray,List.nil_append,List.cons_append]
 gi_wp2_with (fail)
 obtain ⟨W3,hW3⟩:∃ W3,W3=((w.alloc (.cells (rc k x nm (.slice la ln lc) wi n d (.slice aa an ac)) 61)).alloc (.cells #[.int .i64 0] 25)).alloc (.cells #[.int .i64 0] 3):=⟨_,rfl⟩
 have hcn:CN w (rc k x nm (.slice la ln lc) wi n d (.slice aa an ac)) 0 0 W3:=by
  have b1:=bel1 w (.cells (rc k x nm (.slice la ln lc) wi n d (.slice aa an ac)) 61)
  have n1:=new_1 w (.cells (rc k x nm (.slice la ln lc) wi n d (.slice aa an ac)) 61)
  have hs1:(w.alloc (.cells (rc k x nm (.slice la ln lc) wi n d (.slice aa an ac)) 61)).heap.size=w.heap.size+1:=by simp
  generalize w.alloc (.cells (rc k x nm (.slice la ln lc) wi n d (.slice aa an ac)) 61)=W1 at *
  have b2:=bel1 W1 (.cells #[.int .i64 0] 25)
  have n2:=new_1 W1 (.cells #[.int .i64 0] 25)
  have hs2:(W1.alloc (.cells #[.int .i64 0] 25)).heap.size=W1.heap.size+1:=by simp
  generalize W1.alloc (.cells #[.int .i64 0] 25)=W2 at *
  have b3:=bel1 W2 (.cells #[.int .i64 0] 3)
  have n3:=new_1 W2 (.cells #[.int .i64 0] 3)
  rw [← hW3] at b3 n3
  rw [hs1] at n2 hs2
  rw [hs2] at n3
  exact ⟨(b3.block _ (by omega)).trans ((b2.block _ (by omega)).trans n1),(b3.block _ (by omega)).trans n2,n3,bt (bt b1 b2) b3⟩
 rw [show ((w.alloc (.cells #[.int .i64 k,.float .f64 x,.string ⟨nm.toArray⟩,.slice la ln lc,.int .i64 wi,.int .i64 n,.int .i64 d,.slice aa an ac] 61)).alloc (.cells #[.int .i64 0] 25)).alloc (.cells #[.int .i64 0] 3)=W3 from hW3.symm]
 clear hW3
 refine ⟨trivial,(nodes_in 8 (rx k x nm (.slice la ln lc) wi n d (.slice aa an ac)) W3 ⟨_,_,_,_,_,_,_,_,rfl⟩).mono ?_⟩
 rintro e w4 ⟨rfl,k1,x1,nm1,lv1,wi1,n1,d1,av1,hrx,rfl⟩
 have hrc:(rc k x nm (.slice la ln lc) wi n d (.slice aa an ac))=rc k1 x1 nm1 lv1 wi1 n1 d1 av1:=by cases hrx;rfl
 rw [← hrc]
 clear hrx hrc
 gi_wp2_with (fail)
 have hb4:=bel1 W3 (.cells (rc k x nm (.slice la ln lc) wi n d (.slice aa an ac)) 61)
 have hn4:=new_1 W3 (.cells (rc k x nm (.slice la ln lc) wi n d (.slice aa an ac)) 61)
 have hc4:=hcn.below hb4
 have hsz4:(W3.alloc (.cells (rc k x nm (.slice la ln lc) wi n d (.slice aa an ac)) 61)).heap.size=W3.heap.size+1:=by simp
 have hs3:=hcn.size
 generalize W3.alloc (.cells (rc k x nm (.slice la ln lc) wi n d (.slice aa an ac)) 61)=W4 at *
 have HC0:=hid_of hcn
 clear hcn
 simp only [Nat.add_assoc,Nat.reduceAdd]
 refine wpIn_rangeFunc_seqX (gf:=105) (lb:=#[.pointer (some ⟨W3.heap.size,0,none⟩)]) (n0:=w.heap.size) (B:=w.heap.size+3) (N:=L.length) (encs:=encV L) rfl (enters_of Tryz.func105 (by kernel_rfl) rfl) (by omega)
  (nodes_seq (9 - 1) W3.heap.size w.heap.size (w.heap.size+3) t _ L w W4 hL hc4.bl (Nat.le_refl _) (by omega) (by omega) ⟨_,_,_,_,_,_,_,_,rfl,hn4⟩) (fun _=>rfl)
  (fun j W=>Hid (j≤512∧CN w (rc k x nm (.slice la ln lc) wi n d (.slice aa an ac)) 0 (j:Int) W)) (fun c j W=>c=.ret∧Hid (512 < L.length∧∃ z,CN w (rc k x nm (.slice la ln lc) wi n d (.slice aa an ac)) 3 z W))
  (fun j A A' h hb=>⟨h.out.1,h.out.2.tn hb (by omega)⟩) (fun c j A A' h hb=>⟨h.1,h.2.out.1,h.2.out.2.imp fun z q=>q.tn hb (by omega)⟩) ⟨by omega,hc4⟩ ?round ?done ?stop
 case round =>
  rintro l' j W1 hj hl1 hl2 -
  clear hb4 hn4 hc4 HC0
  unfold encV
  generalize L.getD j .nilIface=vj
  gi_wp2
  refine ⟨Below.refl _ _,?_⟩
  rintro W2 HI hs2 hot
  have hj5:=HI.out.1
  obtain ⟨c1,f1⟩:=cell_1f HI.out.2.g1
  obtain ⟨c2,f2⟩:=cell_1f HI.out.2.g2
  have hcn2:=hid_of HI.out.2
  clear hot hs2 HI
  by_cases he:j=512
  ·subst he
   gi_wp2
   exact ⟨(Mid.refl _ _ _).setCell (p:=⟨w.heap.size+1,0,none⟩) (.inl ⟨by show w.heap.size≤w.heap.size+1;omega,by show w.heap.size+1 < w.heap.size+3;omega⟩) _,rfl,hj,_,hcn2.out.res 3⟩
  ·have he':((j:Int) == 512)=false:=beq_eq_false_iff_ne.2 (by omega)
   gi_wp2
   exact ⟨(Mid.refl _ _ _).setCell (p:=⟨w.heap.size+2,0,none⟩) (.inl ⟨by show w.heap.size≤w.heap.size+2;omega,by show w.heap.size+2 < w.heap.size+3;omega⟩) _,by omega,hcn2.out.num _⟩
 case done =>
  rintro D W hD HI hK
  have hle:=HI.out.1
  obtain ⟨c1,f1⟩:=cell_1f HI.out.2.g1
  obtain ⟨y0,y1,y2,y3,y4,y5,y6,y7⟩:=eight HI.out.2.g0
  have HT:=hid_of hK
  have HI0:=hid_of HI.out.2
  gi_wp2_with (fail)
  refine ⟨trivial,(nodes_in 8 (rx k x nm (.slice la ln lc) wi n d (.slice aa an ac)) W ⟨_,_,_,_,_,_,_,_,rfl⟩).mono ?_⟩
  rintro e w4 ⟨rfl,k1,x1,nm1,lv1,wi1,n1,d1,av1,hrx,rfl⟩
  have hrc:(rc k x nm (.slice la ln lc) wi n d (.slice aa an ac))=rc k1 x1 nm1 lv1 wi1 n1 d1 av1:=by cases hrx;rfl
  rw [← hrc]
  clear hrx hrc y0 y1 y2 y3 y4 y5 y6 y7 hn4 hb4 hc4 HC0 HI
  have hb5:=bel1 W (.cells (rc k x nm (.slice la ln lc) wi n d (.slice aa an ac)) 61)
  have hn5:=new_1 W (.cells (rc k x nm (.slice la ln lc) wi n d (.slice aa an ac)) 61)
  have hc5:=HI0.out.below hb5
  have hK5:=(hb5.block D (Array.getElem?_eq_some_iff.1 hK).1).trans hK
  have hs5:=HI0.out.size
  have hz5:(W.alloc (.cells (rc k x nm (.slice la ln lc) wi n d (.slice aa an ac)) 61)).heap.size=W.heap.size+1:=by simp
  clear hK HT
  gi_wp2_with (fail)
  generalize W.alloc (.cells (rc k x nm (.slice la ln lc) wi n d (.slice aa an ac)) 61)=W5 at *
  have hlen:=hVs.len
  have hck:chkE t=fstE (nds t):=by unfold chkE;rw [if_neg (by omega)]
  have hD5:D < W5.heap.size:=(Array.getElem?_eq_some_iff.1 hK5).1
  have HL3:Hid (w.heap.size+3≤D∧D < W5.heap.size):=⟨by omega,hD5⟩
  have HVs:=hid_of hVs
  have HKd:=hid_of h
  have HSz:=hid_of hz
  have sF:=store_f
  clear HI0 hb5 hv hVs hz h
  refine wpIn_rangeFunc_seqX (gf:=105) (lb:=#[.pointer (some ⟨W.heap.size,0,none⟩)]) (n0:=w.heap.size) (B:=w.heap.size+3) (N:=L.length) (encs:=encV L) rfl (enters_of Tryz.func105 (by kernel_rfl) rfl) (by omega)
   (nodes_seq (9 - 1) W.heap.size w.heap.size (w.heap.size+3) t _ L w W5 hL hc5.bl (Nat.le_refl _) (by omega) (by omega) ⟨_,_,_,_,_,_,_,_,rfl,hn5⟩) (fun _=>rfl)
   (fun j W=>Hid (fstE (nds t)=fstE ((nds t).drop j)∧CN w (rc k x nm (.slice la ln lc) wi n d (.slice aa an ac)) 0 (L.length:Int) W∧W.heap[D]? =some (.deferred (some [])))) (fun c j W=>c=.ret∧Hid (fstE (nds t)≠0∧CN w (rc k x nm (.slice la ln lc) wi n d (.slice aa an ac)) (fstE (nds t)) (L.length:Int) W∧W.heap[D]? =some (.deferred (some []))))
   (fun j A A' h hb=>⟨h.out.1,h.out.2.1.tn hb (by omega),hb.at_ h.out.2.2 hD5⟩) (fun c j A A' h hb=>⟨h.1,h.2.out.1,h.2.out.2.1.tn hb (by omega),hb.at_ h.2.out.2.2 hD5⟩) ⟨rfl,hc5,hK5⟩ ?round2 ?done2 ?stop2
  case round2 =>
   rintro l' j W1 hj hl1 hl2 -
   clear hn5 hc5 hL
   obtain ⟨vj,hvj,hrv⟩:=HVs.out.at_ j (by omega)
   have hsj:=HSz.out _ (List.getElem_mem (show j < (nds t).length by omega))
   have hdr:=fstE_drop (nds t) j (by omega)
   unfold encV
   simp only [List.getD,hvj,Option.getD_some]
   obtain ⟨k',x',nm',la',ln',lc',w',n',d',aa',an',ac',rfl⟩:=hrv.form
   have HRv:=hid_of hrv
   clear hvj hrv
   gi_wp2
   refine ⟨(Below.refl _ _).alloc (Nat.le_refl _) _,?_⟩
   rintro W2 HI2 hs2 hot
   have hnb:=(hot W1.heap.size (by omega)).trans (World.alloc_heap_new W1 _)
   obtain ⟨y0,y1,y2,y3,y4,y5,y6,y7⟩:=eight hnb
   have HC:Hid (CallsIn (Fence.wide.inRound l') 6 Tryz.prog 77 #[rx k' x' nm' (.slice la' ln' lc') w' n' d' (.slice aa' an' ac')] W2 fun e w4=>e=.returned (.int .i64 (okN (nds t)[j]))∧Below W2.heap.size W2 w4):=CallsIn.inRound l' (callsIn_wide.2 (node_any 0 _ _ W2 (HRv.out.below HI2.out.2.1.bl) hsj (HKd.out.below HI2.out.2.1.bl)))
   clear hnb hot hs2 hsj
   have HD:=hid_of hdr
   clear hdr
   generalize hok:okN (nds t)[j]=ok at *
   clear hok
   gi_wp2_with (fail)
   refine ⟨trivial,HC.out.mono ?_⟩
   rintro e w4 ⟨rfl,hb4⟩
   have HM:=hid_of (mid_of (n0:=w.heap.size) (B:=w.heap.size+3) hb4)
   have HC4:=hid_of (HI2.out.2.1.below hb4)
   have HK4:=hid_of ((hb4.block D (Array.getElem?_eq_some_iff.1 HI2.out.2.2).1).trans HI2.out.2.2)
   have HF:=hid_of HI2.out.1
   clear HC HI2 y0 y1 y2 y3 y4 y5 y6 y7 hb4
   by_cases he:ok=0
   ·subst he
    gi_wp2
    refine ⟨HM.out,?_,HC4.out,HK4.out⟩
    rw [HF.out,HD.out,if_neg (fun q=>q rfl)]
   ·have he':(ok == 0)=false:=beq_eq_false_iff_ne.2 he
    have hfe:fstE (nds t)=ok:=by rw [HF.out,HD.out,if_pos he]
    obtain ⟨c1,f1⟩:=cell_1f HC4.out.g1
    have HFe:=hid_of hfe
    clear hfe
    gi_wp2
    refine ⟨HM.out.setCell (p:=⟨w.heap.size+1,0,none⟩) (.inl ⟨by show w.heap.size≤w.heap.size+1;omega,by show w.heap.size+1 < w.heap.size+3;omega⟩) _,rfl,?_,?_,?_⟩
    ·rw [HFe.out];exact he
    ·rw [HFe.out];exact HC4.out.res ok
    ·rw [heap_other _ _ _ _ (by have:=HC4.out.size;have:=HL3.out;show D≠w.heap.size+1;omega)];exact HK4.out
  case done2 =>
   rintro D' W' hD' HI' hK'
   obtain ⟨c1,f1⟩:=cell_1f HI'.out.2.1.g1
   have hz0:fstE (nds t)=0:=by
    have:=HI'.out.1
    rw [hlen,List.drop_length] at this
    exact this
   have HR:=hid_of (HI'.out.2.1.res 0)
   have hKD:=(heap_other W' ⟨w.heap.size+1,0,none⟩ D (.int .i64 0) (by have:=HL3.out;show D≠w.heap.size+1;omega)).trans HI'.out.2.2
   have hKD':=(heap_other W' ⟨w.heap.size+1,0,none⟩ D' (.int .i64 0) (by have:=HL3.out;show D'≠w.heap.size+1;omega)).trans hK'
   have HA1:=hid_of hKD
   have HA2:=hid_of hKD'
   clear hKD hKD' HI' hK'
   gi_wp2_with (fail)
   refine ⟨by simp,.inl ⟨_,_,rfl,run_takeDeferred HA2.out,?_⟩⟩
   have HT1:=hid_of (HR.out.tn (Tn.putD (B:=w.heap.size) HA2.out (by omega) (.deferred none)) (Nat.le_refl _))
   have hKD:=(World.putObj_heap_other (w:=W'.setCell ⟨w.heap.size+1,0,none⟩ (.int .i64 0)) (o:=.deferred none) (by omega:D≠D')).trans HA1.out
   refine ⟨by simp,.inl ⟨_,_,rfl,run_takeDeferred hKD,?_⟩⟩
   have HT2:=HT1.out.tn (Tn.putD (B:=w.heap.size) hKD (by omega) (.deferred none)) (Nat.le_refl _)
   obtain ⟨s1,-⟩:=cell_1f HT2.g1
   refine ⟨.int .i64 0,by simp [results,Tryz.results60,go_sem,s1],?_,HT2.bl⟩
   rw [hck,hz0]
  case stop2 =>
   rintro D' c i W' hD' hi ⟨rfl,HI'⟩ hK'
   have HA2:=hid_of hK'
   clear hK'
   gi_wp2_with (fail)
   refine ⟨by simp,.inl ⟨_,_,rfl,run_takeDeferred HA2.out,?_⟩⟩
   have HT1:=hid_of (HI'.out.2.1.tn (Tn.putD (B:=w.heap.size) HA2.out (by omega) (.deferred none)) (Nat.le_refl _))
   have hKD:=(World.putObj_heap_other (w:=W') (o:=.deferred none) (by omega:D≠D')).trans HI'.out.2.2
   refine ⟨by simp,.inl ⟨_,_,rfl,run_takeDeferred hKD,?_⟩⟩
   have HT2:=HT1.out.tn (Tn.putD (B:=w.heap.size) hKD (by omega) (.deferred none)) (Nat.le_refl _)
   obtain ⟨s1,-⟩:=cell_1f HT2.g1
   refine ⟨.int .i64 (fstE (nds t)),by simp [results,Tryz.results60,go_sem,s1],?_,HT2.bl⟩
   rw [hck]
 case stop =>
  rintro D c i W hD hi ⟨rfl,HI⟩ hK
  obtain ⟨hm,z,hcz⟩:=HI.out
  obtain ⟨c1,f1⟩:=cell_1f hcz.g1
  have HT:=hid_of (hcz.tn (Tn.putD (B:=w.heap.size) hK (by omega) (.deferred none)) (Nat.le_refl _))
  gi_wp2_with (fail)
  refine ⟨by simp,.inl ⟨_,_,rfl,run_takeDeferred hK,?_⟩⟩
  obtain ⟨s1,-⟩:=cell_1f HT.out.g1
  refine ⟨.int .i64 3,by simp [results,Tryz.results60,go_sem,s1],?_,HT.out.bl⟩
  rw [show chkE t=3 by unfold chkE;rw [if_pos (by rw [← hVs.len];exact hm)]]
end Go.Proofs.YtlgkfeeclgcgbaaGreatDoor.Ru
/- RULES: made, Check, Type. Own work of the verifier. -/
namespace Go.Proofs.YtlgkfeeclgcgbaaGreatDoor.Ru
open Go.RowKit Me
def MdQ (t:RT) (e:Ending):Prop:=(ckE t=0∧∃ p,e=.returned (.tuple #[.iface (nty (shp t.kd)) p,.int .i64 0])∧(shp t.kd=1→p=.float .f64 t.fx)∧FmC t p)∨(ckE t≠0∧e=.returned (.tuple #[.nilIface,.int .i64 (ckE t)]))
theorem made_any (t:RT) (v:Value) (w:World) (hv:RV 0 w t v) (hz:∀ s ∈ nds t,szN s) (h:Kd w) :
  Calls Tryz.prog 42 #[v] w fun e w'=>MdQ t e∧Below w.heap.size w w':=by
 have HC:Hid (∀ W,Below w.heap.size w W→Calls Tryz.prog 60 #[v] W fun e w'=>e=.returned (.int .i64 (chkE t))∧Below W.heap.size W w'):=fun W hb=>checkNodes_any t v W (hv.below hb) hz (h.below hb)
 have HT:Hid (chkE t=0→∀ W,Below w.heap.size w W→Calls Tryz.prog 61 #[v] W fun e w'=>TyQ t e∧Below W.heap.size W w'):=fun hc W hb=>typed_any t 0 v W (hv.below hb) (chkE_zero hc) (h.below hb)
 obtain ⟨k,x,nm,la,ln,lc,wi,n,d,aa,an,ac,rfl⟩:=hv.form
 have HM:Hid (∀ e,chkE t=0→TyQ t e→MdQ t e):=fun e hc hq=>by
  have hk:ckE t=typE t:=by unfold ckE;rw [if_neg (fun q=>q hc)]
  unfold MdQ
  rw [hk]
  exact hq
 have HN:Hid (chkE t≠0→MdQ t (.returned (.tuple #[.nilIface,.int .i64 (chkE t)]))):=fun hc=>by
  have hk:ckE t=chkE t:=by unfold ckE;rw [if_pos hc]
  exact .inr ⟨by rw [hk];exact hc,by rw [hk]⟩
 clear hv hz h
 generalize chkE t=z at *
 go_enter Tryz.func42,Tryz.ntmps42
 have hb0:=bel1 w (.cells (rc k x nm (.slice la ln lc) wi n d (.slice aa an ac)) 61)
 have hn0:=new_1 w (.cells (rc k x nm (.slice la ln lc) wi n d (.slice aa an ac)) 61)
 go_wp2_with fail
 refine Calls.mono (HC.out _ hb0) ?_
 rintro e w1 ⟨rfl,hb1⟩
 have hn1:=(hb1.block w.heap.size (by simp)).trans hn0
 have HB1:=hid_of (bt hb0 hb1)
 obtain ⟨y0,y1,y2,y3,y4,y5,y6,y7⟩:=eight hn1
 clear hb0 hn0 hb1 hn1 HC
 by_cases hz:z=0
 ·have HT0:=hid_of (HT.out hz)
  have HM0:Hid (∀ e,TyQ t e→MdQ t e):=fun e=>HM.out e hz
  subst hz
  clear HT HM HN
  go_wp2_with fail
  refine Calls.mono (HT0.out _ HB1.out) ?_
  rintro e w2 ⟨hq,hb2⟩
  have hmq:=HM0.out e hq
  have HB2:=hid_of (bt HB1.out hb2)
  rcases hq with ⟨-,p,rfl,-⟩ | ⟨-,rfl⟩
  ·go_wp2_with fail
   go_ret2
   exact ⟨hmq,HB2.out⟩
  ·go_wp2_with fail
   go_ret2
   exact ⟨hmq,HB2.out⟩
 ·have hz':(z == 0)=false:=beq_eq_false_iff_ne.2 hz
  have HN0:=hid_of (HN.out hz)
  clear HT HM HN
  go_wp2_with fail
  go_ret2
  exact ⟨HN0.out,HB1.out⟩
theorem check_any (t:RT) (v:Value) (w:World) (hv:RV 0 w t v) (hz:∀ s ∈ nds t,szN s) (h:Kd w) :
  Calls Tryz.prog 41 #[v] w fun e w'=>e=.returned (.int .i64 (ckE t))∧Below w.heap.size w w':=by
 have HC:Hid (∀ W,Below w.heap.size w W→Calls Tryz.prog 42 #[v] W fun e w'=>(∃ x,e=.returned (.tuple #[x,.int .i64 (ckE t)]))∧Below W.heap.size W w'):=fun W hb=>(made_any t v W (hv.below hb) hz (h.below hb)).mono (by
  rintro e w1 ⟨⟨hk,p,rfl,-⟩ | ⟨hk,rfl⟩,hb1⟩
  ·exact ⟨⟨_,by rw [hk]⟩,hb1⟩
  ·exact ⟨⟨_,rfl⟩,hb1⟩)
 obtain ⟨k,x,nm,la,ln,lc,wi,n,d,aa,an,ac,rfl⟩:=hv.form
 clear hv hz h
 generalize ckE t=z at *
 go_enter Tryz.func41,Tryz.ntmps41
 go_wp2_with fail
 have hb0:=bel1 w (.cells (rc k x nm (.slice la ln lc) wi n d (.slice aa an ac)) 61)
 refine Calls.mono (HC.out _ hb0) ?_
 rintro e w1 ⟨⟨q,rfl⟩,hb1⟩
 have HB1:=hid_of (bt hb0 hb1)
 clear hb1 hb0 HC
 go_wp2_with fail
 go_ret
 exact ⟨rfl,HB1.out⟩
theorem type_any (t:RT) (v:Value) (w:World) (hv:RV 0 w t v) (hz:∀ s ∈ nds t,szN s) (h:Kd w) :
  Calls Tryz.prog 26 #[v] w fun e w'=>e=.returned (.tuple #[.bool (if ckE t=0 then trB (shp t.kd) else false),.int .i64 (ckE t)])∧Below w.heap.size w w':=by
 have HC:Hid (∀ W,Below w.heap.size w W→Calls Tryz.prog 42 #[v] W fun e w'=>((ckE t=0∧∃ p,e=.returned (.tuple #[.iface (nty (shp t.kd)) p,.int .i64 0]))∨(ckE t≠0∧e=.returned (.tuple #[.nilIface,.int .i64 (ckE t)])))∧Below W.heap.size W w'):=fun W hb=>(made_any t v W (hv.below hb) hz (h.below hb)).mono (by
  rintro e w1 ⟨⟨hk,p,h1,-⟩ | ⟨hk,h1⟩,hb1⟩
  ·exact ⟨.inl ⟨hk,p,h1⟩,hb1⟩
  ·exact ⟨.inr ⟨hk,h1⟩,hb1⟩)
 obtain ⟨k,x,nm,la,ln,lc,wi,n,d,aa,an,ac,rfl⟩:=hv.form
 have HTr:Hid (∀ p W,Calls Tryz.prog 43 #[.iface (nty (shp t.kd)) p] W fun e w'=>e=.returned (.bool (trB (shp t.kd)))∧w'=W):=fun p W=>truth_any _ (kwI_le _) p W
 clear hv hz h
 generalize ckE t=z at *
 generalize nty (shp t.kd)=ty at *
 generalize trB (shp t.kd)=tb at *
 obtain ⟨zb,hzb⟩:∃ zb:Bool,zb=(if z=0 then tb else false):=⟨_,rfl⟩
 rw [← hzb]
 have HZb:=hid_of hzb
 clear hzb
 go_enter Tryz.func26,Tryz.ntmps26
 go_wp2_with fail
 have hb0:=bel1 w (.cells (rc k x nm (.slice la ln lc) wi n d (.slice aa an ac)) 61)
 refine Calls.mono (HC.out _ hb0) ?_
 rintro e w1 ⟨hq,hb1⟩
 have HB1:=hid_of (bt hb0 hb1)
 clear hb1 hb0 HC
 rcases hq with ⟨hk,p,rfl⟩ | ⟨hk,rfl⟩
 ·subst hk
  have D:La.HidC _ _ _ _ _:=HTr.out p w1
  clear HTr
  go_wp2_with fail
  refine (D.out).mono ?_
  rintro e w3 ⟨rfl,rfl⟩
  go_wp2_with fail
  go_ret2
  refine ⟨?_,HB1.out⟩
  show Ending.returned (.tuple #[.bool tb,.int .i64 0])=Ending.returned (.tuple #[.bool zb,.int .i64 0])
  rw [HZb.out,if_pos (by first | rfl | trivial)]
 ·have hk':(z == 0)=false:=beq_eq_false_iff_ne.2 hk
  have HK:=hid_of hk
  clear HTr hk
  go_wp2_with fail
  go_ret2
  refine ⟨?_,HB1.out⟩
  show Ending.returned (.tuple #[.bool false,.int .i64 z])=Ending.returned (.tuple #[.bool zb,.int .i64 z])
  rw [HZb.out,if_neg HK.out]
end Go.Proofs.YtlgkfeeclgcgbaaGreatDoor.Ru
/- RULES: an answer's three cells; constants worked out (out of VH). Own work of the verifier. -/
set_option maxHeartbeats 1000000
namespace Go.Proofs.YtlgkfeeclgcgbaaGreatDoor.Ru
open Go.RowKit Go.Sort Me
def put3 (W:World) (g:Nat) (a0 a1 a2:Value):World:=((W.setCell ⟨g,0,none⟩ a0).setCell ⟨g,1,none⟩ a1).setCell ⟨g,2,none⟩ a2
theorem put3_heap {W:World} {g:Nat} {z0 z1 z2:Value} {t:TypeId} (h:W.heap[g]? =some (.cells #[z0,z1,z2] t)) (a0 a1 a2:Value):(put3 W g a0 a1 a2).heap[g]? =some (.cells #[a0,a1,a2] t):=by
 have h0:=Lib.heap_setCell_same (i:=0) h a0
 have h1:=Lib.heap_setCell_same (i:=1) h0 a1
 have h2:=Lib.heap_setCell_same (i:=2) h1 a2
 unfold put3
 rw [h2]
 simp
theorem put3_bel {w W:World} {g:Nat} (h:Below w.heap.size w W) (hg:w.heap.size≤g) (a0 a1 a2:Value):Below w.heap.size w (put3 W g a0 a1 a2) :=
 ((h.setCell (p:=⟨g,0,none⟩) hg _).setCell (p:=⟨g,1,none⟩) hg _).setCell (p:=⟨g,2,none⟩) hg _
theorem three {W:World} {g:Nat} {x y z:Value} {t:TypeId} (h:W.heap[g]? =some (.cells #[x,y,z] t)):(W.cell? ⟨g,0,none⟩=some x∧W.cell? ⟨g,1,none⟩=some y∧W.cell? ⟨g,2,none⟩=some z)∧∀ i,W.frozen? ⟨g,i,none⟩=false:=by
 refine ⟨⟨?_,?_,?_⟩,fun i=>?_⟩ <;> simp [World.cell?,World.frozen?,h]
theorem results_ct {P:Program} {fn:Func} {p a:Tmp} {ty:TypeId} (h:fn.results=#[.cell p ty,.tmp a]) (tmps:Array Value) (w:World) (g:Nat) (t:TypeId) (cs:Array Value) (fr:Nat × Nat) (d:TypeDesc)
  (hp:tmps.getD p undef=.pointer (some ⟨g,0,none⟩)) (hg:w.heap[g]? =some (.cells cs t fr))
  (hu:P.underlying ty=some d) (hd:(match d with | .struct _ | .array _ _=>true | _=>false)=true) (hi:(P.info? ty).map (·.size)=some cs.size) :
  (results fn tmps).run P w=.ok (.tuple #[.agg cs,tmps.getD a undef]) w:=by
 have hp':tmps[p]?.getD undef=.pointer (some ⟨g,0,none⟩):=by simpa using hp
 simp [results,h,hp',asAddr,run_loadVar_row w g t ty cs fr d hg hu hd hi,Result.andThen]
theorem num_any (x:Nat) (W:World):Calls Tryz.prog 279 #[.float .f64 x] W fun e w'=>e=.returned (.agg #[.bool false,.bool false,.float .f64 x])∧Below W.heap.size W w':=by
 have sF:=store_f
 go_enter Tryz.func279,Tryz.ntmps279
 go_wp2_with fail
 refine bodyPost_ret (results_cell_row (P:=Tryz.prog) rfl _ _ W.heap.size 97 _ (0,0) _ rfl (new_1 W _) Tryz.underlying97 rfl (by kernel_rfl)) rfl ?_
 exact ⟨rfl,bel1 _ _⟩
theorem work_const (x:Nat) (p:Option Addr) (z:Int) (w:World):Calls Tryz.prog 278 #[.float .f64 x,.agg #[.pointer p,.int .i64 z]] w fun e w'=>e=.returned (.tuple #[.agg #[.bool false,.bool false,.float .f64 x],.int .i64 0])∧Below w.heap.size w w':=by
 have sF:=store_f
 have HN:Hid (∀ W:World,Calls Tryz.prog 279 #[.float .f64 x] W fun e w'=>e=.returned (.agg #[.bool false,.bool false,.float .f64 x])∧Below W.heap.size W w'):=fun W=>num_any x W
 obtain ⟨W0,hW0⟩:∃ W0,W0=(w.alloc (.cells #[.pointer p,.int .i64 z] 130)).alloc (.cells #[.bool false,.bool false,.float .f64 0] 97):=⟨_,rfl⟩
 have hb0:Below w.heap.size w W0:=by rw [hW0];exact La.bel2 w _ _
 have hn0:W0.heap[w.heap.size+1]? =some (.cells #[.bool false,.bool false,.float .f64 0] 97):=by
  rw [hW0]
  have:=new_1 (w.alloc (.cells #[.pointer p,.int .i64 z] 130)) (.cells #[.bool false,.bool false,.float .f64 0] 97)
  simpa using this
 have HW0:=hid_of hW0
 clear hW0
 go_enter Tryz.func278,Tryz.ntmps278
 go_upto_region 1 with fail
 rw [← HW0.out]
 go_wp2_with fail
 refine Calls.mono (HN.out W0) ?_
 rintro e w1 ⟨rfl,hb1⟩
 have hn1:=(hb1.block _ (Array.getElem?_eq_some_iff.1 hn0).1).trans hn0
 have hb:=bt hb0 hb1
 obtain ⟨⟨z0,z1,z2⟩,zf⟩:=three hn1
 obtain ⟨W9,hW9⟩:∃ W9,W9=put3 w1 (w.heap.size+1) (.bool false) (.bool false) (.float .f64 x):=⟨_,rfl⟩
 have HW9:=hid_of hW9
 have HH:Hid (W9.heap[w.heap.size+1]? =some (.cells #[.bool false,.bool false,.float .f64 x] 97)):=by show _=_;rw [hW9];exact put3_heap hn1 _ _ _
 have HB:Hid (Below w.heap.size w W9):=by show Below _ _ _;rw [hW9];exact put3_bel hb (by omega) _ _ _
 clear hW9 hn1 hb hn0 hb0 hb1 HN HW0
 go_wp2_with fail
 obtain rfl:=HW9.out
 refine bodyPost_ret (results_ct rfl _ _ (w.heap.size+1) 97 _ (0,0) _ rfl HH.out Tryz.underlying97 rfl (by kernel_rfl)) rfl ?_
 exact ⟨rfl,HB.out⟩
end Go.Proofs.YtlgkfeeclgcgbaaGreatDoor.Ru
/- RULES: what Check tells is a number of the list. Own work of the verifier. -/
namespace Go.Proofs.YtlgkfeeclgcgbaaGreatDoor.Ru
open Go.RowKit Me
theorem txE_nn (l:List UInt8):0≤La.txE l:=by
 unfold La.txE
 repeat' split
 all_goals omega
theorem bhE_nn (a b:List UInt8):0≤La.bhE a b:=by
 unfold La.bhE
 repeat' split
 all_goals omega
theorem chkL_nn:∀ (l:List La.Lb) (p:Option (List UInt8)),0≤La.chkL l p
 | [],_=>by unfold La.chkL;omega
 | a::r,p=>by
  have h1:=txE_nn a.2
  have h3:=chkL_nn r (some a.1)
  unfold La.chkL
  split
  ·omega
  ·split
   ·exact h1
   ·cases p with
    | none=>exact h3
    | some q =>
     show 0≤(if La.bhE q a.1≠0 then La.bhE q a.1 else La.chkL r (some a.1))
     split
     ·exact bhE_nn _ _
     ·exact h3
theorem chkD_nn (d:La.Ds):0≤La.chkD d:=by
 have h1:=txE_nn d.help
 have h2:=chkL_nn d.labels none
 unfold La.chkD
 repeat' split
 all_goals omega
theorem okN_nn:∀ t:RT,0≤okN t
 | .mk k x nm lb w n d ar=>by
  have:=chkD_nn ⟨1,nm,[],lb⟩
  show 0≤ndE _ _ _ _ _ _ _ _
  unfold ndE
  repeat' split
  all_goals omega
theorem typE_nn:∀ t:RT,0≤typE t:=by
 refine RT.ind ?_
 intro k x nm lb w n d ar ih
 unfold typE
 generalize (decide (shp k=6) || decide (shp k=7))=b
 induction ar with
 | nil=>unfold typL;omega
 | cons a ar hi =>
  unfold typL
  split
  ·exact ih a List.mem_cons_self
  ·split
   ·omega
   ·exact hi (fun q hq=>ih q (List.mem_cons_of_mem _ hq))
theorem fstE_nn:∀ r:List RT,0≤fstE r
 | []=>by unfold fstE;omega
 | t::r=>by
  unfold fstE
  split
  ·exact okN_nn t
  ·exact fstE_nn r
theorem ckE_nn (t:RT):0≤ckE t:=by
 have h1:=typE_nn t
 have h2:=fstE_nn (nds t)
 unfold ckE chkE
 repeat' split
 all_goals omega
theorem ckAt_of (t:RT) (u:World) (hz:∀ s ∈ nds t,szN s) (h:Kd u):CkAt (fun t=>(ckE t).toNat) u t:=fun W B v hb hv =>
 (check_any t v W (hv.mono (Nat.zero_le _)) hz (h.below hb)).mono (by
  rintro e w1 ⟨rfl,hb1⟩
  exact ⟨by rw [Int.toNat_of_nonneg (ckE_nn t)],hb1⟩)
end Go.Proofs.YtlgkfeeclgcgbaaGreatDoor.Ru
