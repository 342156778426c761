/- FAMILIES of a snapshot of one value. Own work of the verifier. -/
import Derived.Test.YtlgkfeeclgcgbaaGreatDoorZBI
import Derived.Test.YtlgkfeeclgcgbaaGreatDoorZBH
import Derived.MapKept
import Derived.Maps.Own
import Derived.LoopN
import Derived.Test.YtlgkfeeclgcgbaaGreatDoorZBG
import Derived.Test.YtlgkfeeclgcgbaaGreatDoorZAF
import Derived.BigRegion
set_option maxRecDepth 100000
set_option maxHeartbeats 4000000
namespace Go.Proofs.YtlgkfeeclgcgbaaGreatDoor.Ri
open Go.RowKit Me
def setB (w:World) (b:Nat) (o:Obj):World:={ w with heap:=w.heap.setIfInBounds b o }
theorem setB_at {w:World} {b:Nat} {o o':Obj} (h:w.heap[b]? =some o):(setB w b o').heap[b]? =some o':=(MapKept.heap_set h).1
theorem setB_bel {u w:World} {b:Nat} (o':Obj) (h:Below u.heap.size u w) (hb:u.heap.size≤b):Below u.heap.size u (setB w b o') :=
 ⟨h.os,h.tape,h.output,by show u.heap.size≤(w.heap.setIfInBounds b o').size;rw [Array.size_setIfInBounds];exact h.size,fun k hk=>by
  show (w.heap.setIfInBounds b o')[k]? =_
  rw [Array.getElem?_setIfInBounds_ne (by omega)]
  exact h.block k hk⟩
abbrev famV (x:Vl):Value:=.agg #[.int .i64 x.d.kind,.string ⟨x.d.help.toArray⟩]
def famE (x:Vl):Array MapEntry:=#[⟨.string ⟨x.d.name.toArray⟩,famV x,0⟩]
theorem ba_self (s:ByteArray):(s == s)=true:=by
 obtain ⟨d⟩:=s
 show (d == d)=true
 exact beq_self_eq_true d
theorem upd_fam {w:World} {b:Nat} (x:Vl) (hb:w.heap[b]? =some (.map #[] 0)) :
  (Instr.mapUpdate 105 (.map (some b)) (.string ⟨x.d.name.toArray⟩) (famV x)).run Tryz.prog w=.ok () (setB w b (.map (famE x) 1)):=by
 simp [Instr.mapUpdate,run_underlying Tryz.underlying105,MapKept.run_getObj_map hb,MapKept.run_checkKey Tryz.underlying9 (k:=.string ⟨x.d.name.toArray⟩) trivial,MapKept.run_findKey (a:=none) Tryz.underlying9 (show Instr.findNow .string (.string ⟨x.d.name.toArray⟩) [] 0=some none from rfl),MapKept.run_setObj_map _ hb,Result.andThen,setB,famE]
theorem look_fam {w:World} {b:Nat} {x y:Vl} (hb:w.heap[b]? =some (.map (famE x) 1)) (hn:x.d.name=y.d.name) :
  (Instr.lookup 105 (.map (some b)) (.string ⟨y.d.name.toArray⟩) true).run Tryz.prog w=.ok (.tuple #[famV x,.bool true]) w:=by
 rw [← hn]
 simp [Instr.lookup,run_underlying Tryz.underlying105,MapKept.run_getObj_map hb,MapKept.run_checkKey Tryz.underlying9 (k:=.string ⟨x.d.name.toArray⟩) trivial,MapKept.run_findKey (a:=some (0,famV x)) Tryz.underlying9 (show Instr.findNow .string (.string ⟨x.d.name.toArray⟩) (famE x).toList 0=some (some (0,famV x)) by simp only [famE,Instr.findNow,Instr.sameNow];rw [ba_self]),Result.andThen]
theorem fam_any (x:Vl) (lv:Value) (hs:∃ a n c,lv=.slice a n c) (w:World) :
  Calls Tryz.prog 35 #[.agg #[.int .i64 x.d.kind,.string ⟨x.d.name.toArray⟩,.string ⟨x.d.help.toArray⟩,lv]] w fun e w'=>e=.returned (famV x)∧Below w.heap.size w w':=by
 obtain ⟨a,n,c,rfl⟩:=hs
 go_enter Tryz.func35,Tryz.ntmps35
 go_wp2_with fail
 simp [bodyPost,results,Tryz.results35,go_sem]
 exact bt (bel1 _ _) (bel1 _ _)
theorem families_one (p:Int) (r:Nat) (x:Vl) (v:Value) (w:World) (hv:SnAt w ⟨p,[x],r⟩ v) :
  Calls Tryz.prog 33 #[v] w fun e w'=>∃ mb,e=.returned (.map (some mb))∧w.heap.size≤mb∧w'.heap[mb]? =some (.map (famE x) 1)∧Below w.heap.size w w':=by
 obtain ⟨us,rfl,su⟩:=hv
 obtain ⟨ao,b1,o1,cap,rfl,hao,-,hr⟩:=sv_open su
 obtain rfl:=hao (by simp)
 obtain ⟨lv,cv,g1,g2,g3⟩:=hr 0 (by simp)
 obtain ⟨la,lc,rfl⟩:=g2.form
 obtain ⟨ca,cc,rfl⟩:=g3.form
 simp only [List.getElem_cons_zero,Nat.zero_mul,Nat.add_zero] at g1
 clear g2 g3 hr su hao
 have HX:=hid_of (C11.cC g1)
 have hmk:∀ W:World,(Instr.makeMap 105 none).run Tryz.prog W=.ok (.map (some W.heap.size)) (W.alloc (.map #[] 0)):=fun _=>rfl
 have hix:=index_val b1 o1 1 cap 0 0 rfl (by omega)
 rw [Nat.zero_mul,Nat.add_zero] at hix
 go_enter Tryz.func33,Tryz.ntmps33
 go_upto_region 2 with fail
 obtain ⟨w2,hw2⟩:∃ w2,(w.alloc (.cells #[.int .i64 p,.slice (some ⟨b1,o1,none⟩) 1 cap,.int .u64 (r:Int)] 50)).alloc (.map #[] 0)=w2:=⟨_,rfl⟩
 have hb2:Below w.heap.size w w2:=by rw [← hw2];exact bt (bel1 _ _) (bel1 _ _)
 have hm2:w2.heap[w.heap.size+1]? =some (.map #[] 0):=by rw [← hw2];exact hkN (o:=.map #[] 0) (by have:=new_1 (w.alloc (.cells #[.int .i64 p,.slice (some ⟨b1,o1,none⟩) 1 cap,.int .u64 (r:Int)] 50)) (.map #[] 0);rwa [show (w.alloc (.cells #[.int .i64 p,.slice (some ⟨b1,o1,none⟩) 1 cap,.int .u64 (r:Int)] 50)).heap.size=w.heap.size+1 by simp] at this) (Below.refl _ _)
 have hn2:w2.heap[w.heap.size]? =some (.cells #[.int .i64 p,.slice (some ⟨b1,o1,none⟩) 1 cap,.int .u64 (r:Int)] 50 (0,0)):=by rw [← hw2];exact hkN (new_1 _ _) (bel1 _ _)
 have hs2:w2.heap.size=w.heap.size+2:=by rw [← hw2];simp
 rw [hw2]
 clear hw2
 obtain ⟨a0,a1,a2,-,-,-⟩:=three_cells hn2
 obtain ⟨r0,r1,r2,r3,r4,r5,r6,r7,r8,r9,r10⟩:=(g1.below hb2).cC
 go_upto_region 3 with fail
 refine wp_loop_rounds 2 (show Code.wp Tryz.prog _ _ _ _ from ?_)
 have sF:=store_f
 go_upto_region 5 with fail
 obtain ⟨w3,hw3⟩:∃ w3,w2.alloc (.cells (vc x (.slice la x.d.labels.length lc) (.slice ca x.cs.length cc)) 86)=w3:=⟨_,rfl⟩
 have hb3:Below w.heap.size w w3:=by rw [← hw3];exact bt hb2 (bel1 _ _)
 have hm3:w3.heap[w.heap.size+1]? =some (.map #[] 0):=by rw [← hw3];exact hkN hm2 (bel1 _ _)
 have hn3:w3.heap[w.heap.size+2]? =some (.cells (vc x (.slice la x.d.labels.length lc) (.slice ca x.cs.length cc)) 86 (0,0)):=by rw [← hw3,← hs2];exact new_1 _ _
 simp only [vc] at hw3
 rw [hw3]
 clear hw3 hb2 hm2 hn2 hs2 a0 a1 a2 r0 r1 r2 r3 r4 r5 r6 r7 r8 r9 r10 g1 HX hix hmk sF
 have HD:Hid (w3.drew.heap[w.heap.size+2]? =some (.cells (vc x (.slice la x.d.labels.length lc) (.slice ca x.cs.length cc)) 86 (0,0))):=hn3
 have HM:Hid (w3.drew.heap[w.heap.size+1]? =some (.map #[] 0)):=hm3
 have HB:Hid (Below w.heap.size w w3.drew):=bt hb3 (drew_bel1 w3)
 obtain ⟨y0,y1,y2,y3,y4,y5,y6,y7,y8,y9,y10⟩:=eleven_cells HD
 have HF:Hid (∀ W,Calls Tryz.prog 35 #[.agg #[.int .i64 x.d.kind,.string ⟨x.d.name.toArray⟩,.string ⟨x.d.help.toArray⟩,.slice la x.d.labels.length lc]] W fun e w'=>e=.returned (famV x)∧Below W.heap.size W w'):=fun W=>fam_any x _ ⟨_,_,_,rfl⟩ W
 clear hb3 hm3 hn3
 go_region_with (go_at_call 35;with_reducible refine (HF.out _).mono ?_;rintro e w4 ⟨rfl,hb4⟩;have q1:=cellB hb4 y1;have HB4:=hid_of (bt HB.out hb4);have hm4:=hkN HM.out hb4;have hu4:=upd_fam x hm4;have HM4:=hid_of (setB_at (o':=.map (famE x) 1) hm4))
 all_goals
  have HB5:=hid_of (setB_bel (.map (famE x) 1) HB4.out (by omega:w.heap.size≤w.heap.size+1))
  clear HB4 hb4 hm4 hu4 q1
  generalize setB w4 (w.heap.size+1) (.map (famE x) 1)=w5 at *
  go_wp2_with fail
  refine (show Code.wp Tryz.prog _ _ _ _ from ?_)
  go_wp2_with fail
  go_ret
  exact ⟨_,rfl,by omega,HM4.out,HB5.out⟩
end Go.Proofs.YtlgkfeeclgcgbaaGreatDoor.Ri
/- WHETHER SNAPSHOTS STAND IN ONE RING: those of one value of one family. Own work of the verifier. -/
set_option maxRecDepth 100000
set_option maxHeartbeats 8000000
namespace Go.Proofs.YtlgkfeeclgcgbaaGreatDoor.Ri
open Go.RowKit Go.Shelf Me
attribute [local go_sem] Oper.semAt_some
def Lk1 (p:Int) (x:Vl) (s:Sn):Prop:=∃ y r,s=⟨p,[y],r⟩∧x.d.name=y.d.name∧x.d.kind=y.d.kind∧x.d.help=y.d.help
structure Hu (w:World) (p:Int) (us:Value) (r:Nat) (x:Vl) (mb C:Nat) (W:World):Prop where
 g0:W.heap[w.heap.size]? =some (.cells #[.int .i64 p,us,.int .u64 (r:Int)] 50 (0,0))
 g1:W.heap[w.heap.size+1]? =some (.cells #[.bool false] 4 (0,0))
 gm:W.heap[mb]? =some (.map (famE x) 1)
 gc:W.heap[C]? =some (.cells #[.map (some mb)] 105 (0,0))
 bl:Below w.heap.size w W
theorem Hu.tn {w W W1:World} {p:Int} {us:Value} {r mb C B:Nat} {x:Vl} (h:Hu w p us r x mb C W) (hb:Tn B W W1) (hB:w.heap.size≤B) (hm:mb < B):Hu w p us r x mb C W1 :=
 ⟨hb.cells h.g0,hb.cells h.g1,hb.at_ h.gm hm,hb.cells h.gc,h.bl.trans ((hb.mono hB).below (by have:=(Array.getElem?_eq_some_iff.1 h.g0).1;omega))⟩
theorem Hu.below {w W W1:World} {p:Int} {us:Value} {r mb C:Nat} {x:Vl} (h:Hu w p us r x mb C W) (hb:Below W.heap.size W W1):Hu w p us r x mb C W1:=⟨hkN h.g0 hb,hkN h.g1 hb,hkN h.gm hb,hkN h.gc hb,bt h.bl hb⟩
theorem unlike_one (B b n k:Nat) (T:List Int) (R:List Rs) (tv sv:Value) (p:Int) (x:Vl) (r:Nat) (v:Value) (w:World) (hg:Rg B b n T R k tv sv w) (hBw:B≤w.heap.size) (hF:∀ q ∈ R,Lk1 p x q.1) (hv:SnAt w ⟨p,[x],r⟩ v) :
  Calls Tryz.prog 19 #[.pointer (some ⟨b,0,none⟩),v] w fun e w'=>e=.returned (.bool false)∧Below w.heap.size w w':=by
 obtain ⟨tg,tc,sg,sc,ta,sa,rfl,rfl,hRw⟩:=hg.rw
 obtain ⟨us,rfl,su⟩:=hv
 obtain ⟨ao,b1,o1,cap,rfl,hao,-,hr⟩:=sv_open su
 refine (callsIn_wide (n:=9)).1 ?_
 have HF:Hid (∀ W,Below w.heap.size w W→CallsIn Fence.wide 8 Tryz.prog 33 #[.agg #[.int .i64 p,.slice ao [x].length cap,.int .u64 (r:Int)]] W fun e w'=>∃ mb,e=.returned (.map (some mb))∧W.heap.size≤mb∧w'.heap[mb]? =some (.map (famE x) 1)∧Below W.heap.size W w'):=fun W hb=>callsIn_wide.2 (families_one p r x _ W ⟨_,rfl,su.below hb⟩)
 have HA:Hid (∀ W,_):=all_in 8 b
 have n1:=new_1 w (.cells #[.int .i64 p,.slice ao [x].length cap,.int .u64 (r:Int)] 50)
 have n1':=hkN n1 (bel1 _ (.cells #[.bool false] 4))
 have n2:=new_1 (w.alloc (.cells #[.int .i64 p,.slice ao [x].length cap,.int .u64 (r:Int)] 50)) (.cells #[.bool false] 4)
 rw [show (w.alloc (.cells #[.int .i64 p,.slice ao [x].length cap,.int .u64 (r:Int)] 50)).heap.size=w.heap.size+1 by simp] at n2
 have hb2:=bt (bel1 w (.cells #[.int .i64 p,.slice ao [x].length cap,.int .u64 (r:Int)] 50)) (bel1 _ (.cells #[.bool false] 4))
 have HN1:=hid_of n1'
 have HN2:=hid_of n2
 have HB2:=hid_of hb2
 obtain ⟨a0,a1,a2,-,-,-⟩:=three_cells n1'
 clear n1 n1' n2 hb2 hr su hao
 refine callsIn_of_wp_marks Tryz.func19 rfl trivial ?_ rfl
 simp only [Tryz.ntmps19,List.size_toArray,List.length_cons,List.length_nil,Nat.reduceAdd,Nat.reduceSub,Array.replicate_succ,Array.replicate_zero,List.push_toArray,List.append_toArray,List.nil_append,List.cons_append] at *
 gi_upto_region 2 with (refine ⟨trivial,?_⟩;gi_at_call 33;refine (HF.out _ HB2.out).mono ?_;rintro e w3 ⟨mb,rfl,hmb,hm3,hb3⟩)
 have hmlt:mb < w3.heap.size:=(Array.getElem?_eq_some_iff.1 hm3).1
 have hH:Hu w p (.slice ao 1 cap) r x mb w3.heap.size (w3.alloc (.cells #[.map (some mb)] 105)):=⟨hkN (hkN HN1.out hb3) (bel1 _ _),hkN (hkN HN2.out hb3) (bel1 _ _),hkN hm3 (bel1 _ _),new_1 _ _,bt (bt HB2.out hb3) (bel1 _ _)⟩
 have hw3:w.heap.size+2≤w3.heap.size:=by have:=hb3.size;simp at this;omega
 have hs4:(w3.alloc (.cells #[.map (some mb)] 105)).heap.size=w3.heap.size+1:=by simp
 generalize w3.alloc (.cells #[.map (some mb)] 105)=w4 at *
 clear HN1 HN2 HB2 HF a0 a1 a2 hb3 hm3
 gi_wp2_with (refine ⟨trivial,?_⟩;gi_at_call 34;refine (HA.out _).mono ?_;rintro e w' ⟨rfl,rfl⟩)
 have hH5:=hH.below (bel1 w4 (.cells #[.pointer (some ⟨b,0,none⟩)] 33))
 have n5:=new_1 w4 (.cells #[.pointer (some ⟨b,0,none⟩)] 33)
 rw [hs4] at n5
 have hs5:(w4.alloc (.cells #[.pointer (some ⟨b,0,none⟩)] 33)).heap.size=w4.heap.size+1:=by simp
 generalize w4.alloc (.cells #[.pointer (some ⟨b,0,none⟩)] 33)=W0 at *
 have hws:w.heap.size≤w4.heap.size:=hH.bl.size
 have HRg:=hid_of hg
 refine wpIn_rangeFunc_seqX (gf:=52) (lb:=#[.pointer (some ⟨w3.heap.size+1,0,none⟩)]) (n0:=w.heap.size) (B:=w.heap.size) (N:=R.length) (encs:=encR T R k) rfl (enters_of Tryz.func52 (by kernel_rfl) rfl) (by omega)
  (all_seq (9 - 1) (w3.heap.size+1) w.heap.size w.heap.size b k tg tc sg sc T R ta sa W0 (by simp [World.cell?,n5]) (by omega) (Nat.le_refl _) (fun W hb=>hRw.below (hH5.bl.trans hb))) (fun _=>rfl)
  (fun j W=>Hid (Hu w p (.slice ao 1 cap) r x mb w3.heap.size W)) (fun _ _ _=>False)
  (fun j A A' h hb=>h.out.tn hb (by omega) (by omega)) (fun _ _ _ _ h _=>h) hH5 ?round ?done ?stop
 case round =>
  rintro l' j W1 hj hl1 hl2 -
  clear n5 hH hH5 HA
  unfold encR
  have hpl:plc k j R.length < R.length:=Nat.mod_lt _ (by omega)
  have hmem:R.getD (plc k j R.length) dR ∈ R:=by
   simp only [List.getD,List.getElem?_eq_getElem hpl,Option.getD_some]
   exact List.getElem_mem hpl
  obtain ⟨y,ry,hy,e1,e2,e3⟩:=hF _ hmem
  have hat:=(HRg.out.el _ hmem).at_ hBw
  generalize R.getD (plc k j R.length) dR=q at *
  generalize T.getD (plc k j R.length) 0=tm at *
  obtain ⟨qs,qv⟩:=q
  dsimp only at hy
  subst hy
  obtain ⟨qu,hqq,sq⟩:=hat
  have hqe:qv=qu:=by simpa [sx] using hqq
  subst hqe
  have sq':SV w qv [y]:=sq
  clear sq
  obtain ⟨qo,b2,o2,cp2,rfl,hqo,-,hrow⟩:=sv_open sq'
  obtain rfl:=hqo (by simp)
  have HRow:=hid_of hrow
  have hix:=index_val b2 o2 1 cp2 0 0 rfl (by omega)
  rw [Nat.zero_mul,Nat.add_zero] at hix
  clear sq' hrow hqq hqo hmem
  gi_wp2
  refine ⟨(Below.refl _ _).alloc (Nat.le_refl _) _,?_⟩
  rintro W2 HI hs2 hot
  have hnb:=(hot W1.heap.size (by omega)).trans (World.alloc_heap_new W1 _)
  obtain ⟨v0,v1,v2,-,-,-⟩:=three_cells hnb
  have HS2:Hid (W1.heap.size < W2.heap.size):=(Array.getElem?_eq_some_iff.1 hnb).1
  obtain ⟨a0,a1,a2,-,-,-⟩:=three_cells HI.out.g0
  obtain ⟨c0,-⟩:=box1 HI.out.gc
  obtain ⟨lv,cv,k1,k2,k3⟩:=HRow.out.below HI.out.bl 0 (by simp)
  obtain ⟨la,lc,rfl⟩:=k2.form
  obtain ⟨ca,cc,rfl⟩:=k3.form
  simp only [List.getElem_cons_zero,Nat.zero_mul,Nat.add_zero] at k1
  obtain ⟨r0,r1,r2,r3,r4,r5,r6,r7,r8,r9,r10⟩:=k1.cC
  have sF:=store_f
  clear hot hs2 k2 k3 hnb HRow
  gi_upto_region 7 with fail
  refine wpIn_loop_rounds 2 (show Code.wpIn _ _ Tryz.prog _ _ _ _ from ?_)
  gi_upto_region 9 with fail
  have hH3:=HI.out.below (bel1 W2 (.cells (vc y (.slice la y.d.labels.length lc) (.slice ca y.cs.length cc)) 86))
  have hn3:=new_1 W2 (.cells (vc y (.slice la y.d.labels.length lc) (.slice ca y.cs.length cc)) 86)
  have hb3:=bel1 W2 (.cells (vc y (.slice la y.d.labels.length lc) (.slice ca y.cs.length cc)) 86)
  obtain ⟨W3,hw3⟩:∃ W3,W2.alloc (.cells (vc y (.slice la y.d.labels.length lc) (.slice ca y.cs.length cc)) 86)=W3:=⟨_,rfl⟩
  rw [hw3] at hH3 hn3 hb3
  simp only [vc] at hw3
  rw [hw3]
  clear hw3 r0 r1 r2 r3 r4 r5 r6 r7 r8 r9 r10 v0 v1 v2 a0 a1 a2 c0 hix k1
  have HN3:=hid_of hn3
  obtain ⟨y0,y1,y2,y3,y4,y5,y6,y7,y8,y9,y10⟩:=eleven_cells (hid_of hn3)
  obtain ⟨c0,-⟩:=box1 hH3.gc
  have hlk:=look_fam hH3.gm e1
  gi_upto_region 10 with fail
  have hH4:=hH3.below (bel1 W3 (.cells #[.int .i64 y.d.kind,.string ⟨y.d.help.toArray⟩] 111))
  have hn4:=new_1 W3 (.cells #[.int .i64 y.d.kind,.string ⟨y.d.help.toArray⟩] 111)
  have hb4:=bt hb3 (bel1 W3 (.cells #[.int .i64 y.d.kind,.string ⟨y.d.help.toArray⟩] 111))
  have hm4:=hkN hn3 (bel1 W3 (.cells #[.int .i64 y.d.kind,.string ⟨y.d.help.toArray⟩] 111))
  generalize W3.alloc (.cells #[.int .i64 y.d.kind,.string ⟨y.d.help.toArray⟩] 111)=W4 at *
  clear y0 y1 y2 y3 y4 y5 y6 y7 y8 y9 y10 c0 hlk hn3 HN3 hH3 hb3
  have hmo:Tryz.prog.follows .mixedOrders=true:=by kernel_rfl
  have HB5:=hid_of (bt hb4 (drew_bel1 W4))
  have HH5:=hid_of (hH4.below (drew_bel1 W4))
  obtain ⟨y0,y1,y2,y3,y4,y5,y6,y7,y8,y9,y10⟩:=eleven_cells (W:=W4.drew) (hid_of (hkN hm4 (drew_bel1 W4)))
  have t0:W4.drew.cell? ⟨W3.heap.size,0,none⟩=some (.int .i64 y.d.kind):=by simp [World.cell?,hkN hn4 (drew_bel1 W4)]
  have t1:W4.drew.cell? ⟨W3.heap.size,1,none⟩=some (.string ⟨y.d.help.toArray⟩):=by simp [World.cell?,hkN hn4 (drew_bel1 W4)]
  have HFm:Hid (∀ W,CallsIn (Fence.wide.inRound l') 6 Tryz.prog 35 #[.agg #[.int .i64 y.d.kind,.string ⟨y.d.name.toArray⟩,.string ⟨y.d.help.toArray⟩,.slice la y.d.labels.length lc]] W fun e w'=>e=.returned (famV y)∧Below W.heap.size W w'):=fun W=>CallsIn.inRound l' (callsIn_wide.2 (fam_any y _ ⟨_,_,_,rfl⟩ W))
  clear hn4 hm4 hH4 hb4 sF
  gi_region_with_o (refine ⟨trivial,?_⟩;gi_at_call 35;refine (HFm.out _).mono ?_;rintro e w6 ⟨rfl,hb6⟩;have HB6:=hid_of (bt HB5.out hb6);have HH6:=hid_of (HH5.out.below hb6);have t0':=cellB hb6 t0;have t1':=cellB hb6 t1)
  all_goals
   have hsame:(ByteArray.mk y.d.help.toArray == ByteArray.mk y.d.help.toArray)=true:=ba_self _
   gi_wp2
   refine (show Code.wpIn _ _ Tryz.prog _ _ _ _ from ?_)
   gi_wp2
   exact ⟨Mid.of_below HB6.out,HH6⟩
 case done =>
  rintro D W hD HI hK
  obtain ⟨s1,s2⟩:=box1 HI.out.g1
  have hK2:(W.setCell ⟨w.heap.size+1,0,none⟩ (.bool false)).heap[D]? =_:=(heap_other _ _ _ _ (by show D≠w.heap.size+1;omega)).trans hK
  have g1:(W.setCell ⟨w.heap.size+1,0,none⟩ (.bool false)).heap[w.heap.size+1]? =some (.cells #[.bool false] 4 (0,0)):=by
   rw [heap_setCell_same _ _ 0 _ _ _ HI.out.g1]
   rfl
  have hbl:Below w.heap.size w (W.setCell ⟨w.heap.size+1,0,none⟩ (.bool false)):=Below.setCell (p:=⟨w.heap.size+1,0,none⟩) HI.out.bl (by show w.heap.size≤w.heap.size+1;omega) _
  have htn:=Tn.putD (B:=w.heap.size) hK2 (by omega) (.deferred none)
  have HG:=hid_of (htn.cells g1)
  have HBl:=hid_of (hbl.trans (htn.below hbl.size))
  clear g1 hbl htn
  gi_wp2
  generalize W.setCell ⟨w.heap.size+1,0,none⟩ (.bool false)=W2 at *
  refine ⟨by simp,.inl ⟨_,_,rfl,run_takeDeferred hK2,?_⟩⟩
  generalize W2.putObj D (.deferred none)=W' at *
  clear s1 s2
  obtain ⟨s1,-⟩:=box1 HG.out
  exact ⟨.bool false,by simp [results,Tryz.results19,go_sem,s1],rfl,HBl.out⟩
 case stop =>
  rintro D c i W _ _ h _
  exact h.elim
end Go.Proofs.YtlgkfeeclgcgbaaGreatDoor.Ri
/- WINDOWS: the walk. Own work of the verifier. -/
set_option maxRecDepth 100000
set_option maxHeartbeats 8000000
namespace Go.Proofs.YtlgkfeeclgcgbaaGreatDoor.Ri
open Go.RowKit Go.Shelf Me
attribute [local go_sem] Oper.semAt_some
theorem wL_mem {T:List Int} {R:List Rs} {k j:Nat} {fr tO:Int} (h:j < (wL T R k fr tO).length):(wL T R k fr tO).getD j dR ∈ R:=by
 have e:(wL T R k fr tO).getD j dR=(wL T R k fr tO)[j]:=by simp [List.getD,h]
 rw [e]
 have e2:(wL T R k fr tO)[j]=R.getD (plc k (((List.range R.length).filter (inW T k R.length fr tO))[j]'(by unfold wL at h;rw [List.length_map] at h;exact h)) R.length) dR:=by
  unfold wL
  exact List.getElem_map _
 rw [e2]
 have hm:=List.getElem_mem (l:=(List.range R.length).filter (inW T k R.length fr tO)) (n:=j) (by unfold wL at h;rw [List.length_map] at h;exact h)
 generalize ((List.range R.length).filter (inW T k R.length fr tO))[j]'_=i at hm ⊢
 have hi:i < R.length:=List.mem_range.1 (List.mem_filter.1 hm).1
 have hp:plc k i R.length < R.length:=Nat.mod_lt _ (by omega)
 simp only [List.getD,List.getElem?_eq_getElem hp,Option.getD_some]
 exact List.getElem_mem hp
theorem wL_len (T:List Int) (R:List Rs) (k:Nat) (fr tO:Int):(wL T R k fr tO).length≤R.length:=by
 unfold wL
 rw [List.length_map]
 exact Nat.le_trans (List.length_filter_le _ _) (by simp)
theorem up {W:World} {o x:Obj} {k:Nat} (h:W.heap[k]? =some x):(W.alloc o).heap[k]? =some x:=hkN h (bel1 _ _)
theorem newk {W:World} {o:Obj} {k:Nat} (h:W.heap.size=k):(W.alloc o).heap[k]? =some o:=by subst h;exact new_1 _ _
theorem put5_other (W:World) {A D:Nat} (h:A+3≤D) (x y z u v:Value):(((put3 W A x y z).setCell ⟨A+1,0,none⟩ u).setCell ⟨A+2,0,none⟩ v).heap[D]? =W.heap[D]?:=by
 rw [heap_other _ _ _ _ (by show _≠A+2;omega),heap_other _ _ _ _ (by show _≠A+1;omega),put3_other (by omega)]
theorem Wx.of {w W:World} {s:Sn} {v:Value} {j:Nat} (h:Ww w s v j W) (e:Int):Wx w e (((put3 W w.heap.size (.int .i64 0) (.slice none 0 0) (.int .u64 0)).setCell ⟨w.heap.size+1,0,none⟩ (.int .i64 0)).setCell ⟨w.heap.size+2,0,none⟩ (.int .i64 e)):=by
 refine ⟨?_,?_,?_,Below.setCell (p:=⟨w.heap.size+2,0,none⟩) (Below.setCell (p:=⟨w.heap.size+1,0,none⟩) (put3_bel h.bl (Nat.le_refl _) _ _ _) (by show w.heap.size≤w.heap.size+1;omega) _) (by show w.heap.size≤w.heap.size+2;omega) _⟩
 ·rw [heap_other _ _ _ _ (by show _≠w.heap.size+2;omega),heap_other _ _ _ _ (by show _≠w.heap.size+1;omega)]
  exact set_three h.g0
 ·rw [heap_other _ _ _ _ (by show _≠w.heap.size+2;omega)]
  have g:(put3 W w.heap.size (.int .i64 0) (.slice none 0 0) (.int .u64 0)).heap[w.heap.size+1]? =some (.cells #[.int .i64 0] 3 (0,0)):=by rw [put3_other (by omega)];exact h.g1
  rw [heap_setCell_same _ _ 0 _ _ _ g]
  rfl
 ·have g:((put3 W w.heap.size (.int .i64 0) (.slice none 0 0) (.int .u64 0)).setCell ⟨w.heap.size+1,0,none⟩ (.int .i64 0)).heap[w.heap.size+2]? =some (.cells #[.int .i64 0] 25 (0,0)):=by rw [heap_other _ _ _ _ (by show _≠w.heap.size+1;omega),put3_other (by omega)];exact h.g2
  rw [heap_setCell_same _ _ 0 _ _ _ g]
  rfl
structure Wn (w:World) (s:Sn) (v:Value) (n:Int) (W:World):Prop where
 g0:W.heap[w.heap.size]? =some (.cells #[.int .i64 s.p,v,.int .u64 (s.r:Int)] 50 (0,0))
 g1:W.heap[w.heap.size+1]? =some (.cells #[.int .i64 n] 3 (0,0))
 g2:W.heap[w.heap.size+2]? =some (.cells #[.int .i64 0] 25 (0,0))
 os:OS (w.heap.size+5) (s,v) W
 bl:Below w.heap.size w W
theorem Wn.tn {w W W1:World} {s:Sn} {v:Value} {n:Int} {B:Nat} (h:Wn w s v n W) (hb:Tn B W W1) (hB:w.heap.size≤B):Wn w s v n W1 :=
 ⟨hb.cells h.g0,hb.cells h.g1,hb.cells h.g2,h.os.tn hb,h.bl.trans ((hb.mono hB).below (by have:=(Array.getElem?_eq_some_iff.1 h.g0).1;omega))⟩
theorem Wn.of {w W:World} {s:Sn} {v:Value} {j:Nat} (h:Ww w s v j W) (n:Int):Wn w s v n (((put3 W w.heap.size (.int .i64 s.p) v (.int .u64 (s.r:Int))).setCell ⟨w.heap.size+1,0,none⟩ (.int .i64 n)).setCell ⟨w.heap.size+2,0,none⟩ (.int .i64 0)).drew:=by
 have hs:=h.size
 have hos:OS (w.heap.size+5) (s,v) (((put3 W w.heap.size (.int .i64 s.p) v (.int .u64 (s.r:Int))).setCell ⟨w.heap.size+1,0,none⟩ (.int .i64 n)).setCell ⟨w.heap.size+2,0,none⟩ (.int .i64 0)):=OS.set (OS.set (OS.put3 h.os (by omega) _ _ _) (by omega) _) (by omega) _
 have hbl:Below w.heap.size w (((put3 W w.heap.size (.int .i64 s.p) v (.int .u64 (s.r:Int))).setCell ⟨w.heap.size+1,0,none⟩ (.int .i64 n)).setCell ⟨w.heap.size+2,0,none⟩ (.int .i64 0)):=Below.setCell (p:=⟨w.heap.size+2,0,none⟩) (Below.setCell (p:=⟨w.heap.size+1,0,none⟩) (put3_bel h.bl (Nat.le_refl _) _ _ _) (by show w.heap.size≤w.heap.size+1;omega) _) (by show w.heap.size≤w.heap.size+2;omega) _
 have g0:(((put3 W w.heap.size (.int .i64 s.p) v (.int .u64 (s.r:Int))).setCell ⟨w.heap.size+1,0,none⟩ (.int .i64 n)).setCell ⟨w.heap.size+2,0,none⟩ (.int .i64 0)).heap[w.heap.size]? =some (.cells #[.int .i64 s.p,v,.int .u64 (s.r:Int)] 50 (0,0)):=by
  rw [heap_other _ _ _ _ (by show _≠w.heap.size+2;omega),heap_other _ _ _ _ (by show _≠w.heap.size+1;omega)]
  exact set_three h.g0
 have k1:(put3 W w.heap.size (.int .i64 s.p) v (.int .u64 (s.r:Int))).heap[w.heap.size+1]? =some (.cells #[.int .i64 0] 3 (0,0)):=by rw [put3_other (by omega)];exact h.g1
 have g1:(((put3 W w.heap.size (.int .i64 s.p) v (.int .u64 (s.r:Int))).setCell ⟨w.heap.size+1,0,none⟩ (.int .i64 n)).setCell ⟨w.heap.size+2,0,none⟩ (.int .i64 0)).heap[w.heap.size+1]? =some (.cells #[.int .i64 n] 3 (0,0)):=by
  rw [heap_other _ _ _ _ (by show _≠w.heap.size+2;omega),heap_setCell_same _ _ 0 _ _ _ k1]
  rfl
 have k2:((put3 W w.heap.size (.int .i64 s.p) v (.int .u64 (s.r:Int))).setCell ⟨w.heap.size+1,0,none⟩ (.int .i64 n)).heap[w.heap.size+2]? =some (.cells #[.int .i64 0] 25 (0,0)):=by rw [heap_other _ _ _ _ (by show _≠w.heap.size+1;omega),put3_other (by omega)];exact h.g2
 have g2:(((put3 W w.heap.size (.int .i64 s.p) v (.int .u64 (s.r:Int))).setCell ⟨w.heap.size+1,0,none⟩ (.int .i64 n)).setCell ⟨w.heap.size+2,0,none⟩ (.int .i64 0)).heap[w.heap.size+2]? =some (.cells #[.int .i64 0] 25 (0,0)):=by
  rw [heap_setCell_same _ _ 0 _ _ _ k2]
  rfl
 generalize ((put3 W w.heap.size (.int .i64 s.p) v (.int .u64 (s.r:Int))).setCell ⟨w.heap.size+1,0,none⟩ (.int .i64 n)).setCell ⟨w.heap.size+2,0,none⟩ (.int .i64 0)=W2 at *
 exact ⟨g0,g1,g2,hos.below (drew_bel1 W2),bt hbl (drew_bel1 W2)⟩
abbrev W8 (w:World) (b:Nat) (fr tO:Int):World:=(((((((w.alloc (.cells #[.int .i64 0,.slice none 0 0,.int .u64 0] 50)).alloc (.cells #[.int .i64 0] 3)).alloc (.cells #[.int .i64 0] 25)).alloc (.cells #[.int .i64 0,.slice none 0 0,.int .u64 0] 50)).alloc (.cells #[.int .i64 0] 3)).alloc (.cells #[.pointer (some ⟨b,0,none⟩)] 33)).alloc (.cells #[.int .i64 fr] 2)).alloc (.cells #[.int .i64 tO] 2)
theorem w8_bel (w:World) (b:Nat) (fr tO:Int):Below w.heap.size w (W8 w b fr tO):=bt (bt (bt (bt (bt (bt (bt (bel1 _ _) (bel1 _ _)) (bel1 _ _)) (bel1 _ _)) (bel1 _ _)) (bel1 _ _)) (bel1 _ _)) (bel1 _ _)
theorem w8_new (w:World) (b:Nat) (fr tO:Int):Ww w zS (.slice none 0 0) 0 (W8 w b fr tO)∧(W8 w b fr tO).cell? ⟨w.heap.size+5,0,none⟩=some (.pointer (some ⟨b,0,none⟩))∧(W8 w b fr tO).cell? ⟨w.heap.size+6,0,none⟩=some (.int .i64 fr)∧(W8 w b fr tO).cell? ⟨w.heap.size+7,0,none⟩=some (.int .i64 tO)∧(W8 w b fr tO).heap.size=w.heap.size+8:=by
 have bx:∀ {W:World} {k:Nat} {x:Value} {t:TypeId},W.heap[k]? =some (.cells #[x] t (0,0))→W.cell? ⟨k,0,none⟩=some x:=fun h=>(box1 h).1
 exact ⟨⟨up (up (up (up (up (up (up (newk (by simp)))))))),up (up (up (up (up (up (newk (by simp))))))),up (up (up (up (up (newk (by simp)))))),up (up (up (up (newk (by simp))))),up (up (up (newk (by simp)))),OS.zero _ _,w8_bel w b fr tO⟩,bx (up (up (newk (by simp)))),bx (up (newk (by simp))),bx (newk (by simp)),by simp⟩
def Fit1 (s:Sn):Prop:=SnW s∧s.vs.length≤1048576∧∀ x ∈ s.vs,x.d.labels.length≤1048576∧x.cs.length≤1048576
theorem window_any (B b n k:Nat) (T:List Int) (R:List Rs) (tv sv:Value) (fr tO:Int) (w:World) (hg:Rg B b n T R k tv sv w) (hBw:B≤w.heap.size) (hF:∀ r ∈ R,Fit1 r.1) (hS:∀ j,1≤j→j≤(wL T R k fr tO).length→OkTo (wL T R k fr tO) j→SnW (wst (wL T R k fr tO) j).1) :
  Calls Tryz.prog 283 #[.pointer (some ⟨b,0,none⟩),.int .i64 fr,.int .i64 tO] w fun e w'=>WnQ w (wL T R k fr tO) e w':=by
 obtain ⟨tg,tc,sg,sc,ta,sa,rfl,rfl,hRw⟩:=hg.rw
 refine (callsIn_wide (n:=9)).1 ?_
 have HB:Hid (∀ W,_):=between_in 8 b fr tO
 refine callsIn_of_wp_marks Tryz.func283 rfl trivial ?_ rfl
 simp only [Tryz.ntmps283,List.size_toArray,List.length_cons,List.length_nil,Nat.reduceAdd,Nat.reduceSub,Array.replicate_succ,Array.replicate_zero,List.push_toArray,List.append_toArray,List.nil_append,List.cons_append]
 gi_wp2_with (refine ⟨trivial,?_⟩;gi_at_call 287;refine (HB.out _).mono ?_;rintro e w' ⟨rfl,rfl⟩)
 simp only [Nat.add_assoc,Nat.reduceAdd]
 obtain ⟨h0,c5,c6,c7,hs8⟩:=w8_new w b fr tO
 have HL:Hid (∀ j,j < (wL T R k fr tO).length→(wL T R k fr tO).getD j dR ∈ R):=fun j hj=>wL_mem hj
 have HRg:=hid_of hg
 have hb8:=w8_bel w b fr tO
 have hlen:(wL T R k fr tO).length≤256:=Nat.le_trans (wL_len T R k fr tO) (Nat.le_trans hg.hn hg.hm)
 obtain ⟨W0,hW0⟩:∃ W0,W8 w b fr tO=W0:=⟨_,rfl⟩
 rw [hW0] at h0 c5 c6 c7 hs8 hb8
 unfold W8 at hW0
 rw [hW0]
 clear hW0
 generalize hLL:wL T R k fr tO=L at *
 refine wpIn_rangeFunc_seqX (gf:=294) (lb:=#[.pointer (some ⟨w.heap.size+5,0,none⟩),.pointer (some ⟨w.heap.size+6,0,none⟩),.pointer (some ⟨w.heap.size+7,0,none⟩)]) (n0:=w.heap.size) (B:=w.heap.size+5) (N:=L.length) (encs:=fun j=>#[sx (L.getD j dR)]) rfl (enters_of Tryz.func294 (by kernel_rfl) rfl) (by omega)
  (by
   have:=between_seq (9 - 1) (w.heap.size+5) (w.heap.size+6) (w.heap.size+7) w.heap.size (w.heap.size+5) b k tg tc sg sc T R ta sa fr tO W0 c5 c6 c7 (by omega) (by omega) (by omega) (by omega) (fun W hb=>hRw.below (hb8.trans hb))
   unfold encB at this
   rw [hLL] at this
   exact this) (fun _=>rfl)
  (fun j W=>∃ v,Hid (OkTo L j∧Ww w (wst L j).1 v j W)) (fun c j W=>c=.ret∧∃ i,Hid (i < L.length∧OkTo L i∧(wst L (i+1)).2≠0∧Wx w (wst L (i+1)).2 W))
  (fun j A A' h hb=>h.imp fun v q=>⟨q.out.1,q.out.2.tn hb (by omega)⟩) (fun c j A A' h hb=>⟨h.1,h.2.imp fun i q=>⟨q.out.1,q.out.2.1,q.out.2.2.1,q.out.2.2.2.tn hb (by omega)⟩⟩) ⟨_,(fun i hi=>by rw [Nat.le_zero.1 hi];rfl),h0⟩ ?round ?done ?stop
 case round =>
  rintro l' j W1 hj hl1 hl2 -
  clear c5 c6 c7 h0 hRw HB
  have hmem:=HL.out j hj
  obtain ⟨hFw,hFl,hFx⟩:=hF _ hmem
  obtain ⟨ra,rc,hrs⟩:=(HRg.out.el _ hmem).form
  have HE:Hid (∀ W,Below w.heap.size w W→SnAt W (L.getD j dR).1 (sx (L.getD j dR))):=fun W hb=>((HRg.out.el _ hmem).at_ hBw).below hb
  have HO1:Hid (j=0→wst L (j+1)=((L.getD j dR).1,0)):=fun e=>by subst e;rfl
  have HO2:Hid (j≠0→wst L (j+1)=mgS (wst L j).1 (L.getD j dR).1):=fun e=>by
   obtain ⟨i,rfl⟩:∃ i,j=i+1:=⟨j - 1,by omega⟩
   rfl
  have HSj:Hid (j≠0→OkTo L j→SnW (wst L j).1):=fun e h=>hS j (by omega) (by omega) h
  generalize L.getD j dR=r at *
  obtain ⟨rs,rv⟩:=r
  dsimp only at hrs
  subst hrs
  gi_wp2
  refine ⟨(Below.refl _ _).alloc (Nat.le_refl _) _,?_⟩
  rintro W2 v HI hs2 hot
  have hnb:=(hot W1.heap.size (by omega)).trans (World.alloc_heap_new W1 _)
  obtain ⟨v0,v1,v2,-,-,-⟩:=three_cells hnb
  have HXb:=hid_of hnb
  have HZ:Hid (w.heap.size+8≤W1.heap.size):=by unfold Hid;omega
  obtain ⟨c4,f4⟩:=box1 HI.out.2.g4
  obtain ⟨vo,vc,hvs⟩:=HI.out.2.os.form
  dsimp only at hvs
  subst hvs
  obtain ⟨d0,d1,d2,e0,e1,e2⟩:=three_cells HI.out.2.g3
  obtain ⟨q,hqj⟩:∃ q:Nat,q=j+1:=⟨_,rfl⟩
  have HN:=hid_of (HI.out.2.num q)
  have HM0:Hid (Mid w.heap.size (w.heap.size+5) W2 (W2.setCell ⟨w.heap.size+4,0,none⟩ (.int .i64 (q:Int)))):=(Mid.refl _ _ _).setCell (p:=⟨w.heap.size+4,0,none⟩) (.inl ⟨by show w.heap.size≤w.heap.size+4;omega,by show w.heap.size+4 < _;omega⟩) _
  have HX3:Hid ((W2.setCell ⟨w.heap.size+4,0,none⟩ (.int .i64 (q:Int))).heap[W1.heap.size]? =some (.cells #[.int .i64 rs.p,.slice ra rs.vs.length rc,.int .u64 (rs.r:Int)] 50 (0,0))):=by
   unfold Hid
   rw [heap_other _ _ _ _ (by show _≠w.heap.size+4;omega)]
   exact hnb
  clear hnb hot hs2 HRg hmem
  gi_upto_region 5 with fail
  rw [show ((j:Int)+1)=(q:Int) by omega]
  generalize W2.setCell ⟨w.heap.size+4,0,none⟩ (.int .i64 (q:Int))=W3 at *
  obtain ⟨c4',f4'⟩:=box1 HN.out.g4
  obtain ⟨d0',d1',d2',e0',e1',e2'⟩:=three_cells HN.out.g3
  obtain ⟨x0,x1,x2,-,-,-⟩:=three_cells HX3.out
  clear c4 f4 d0 d1 d2 e0 e1 e2 v0 v1 v2
  have HOk:=hid_of HI.out.1
  have HS2:Hid (W2.heap.size≤W3.heap.size):=HM0.out.size
  by_cases hj0:j=0
  ·have hq:q=1:=by omega
   have HQJ:=hid_of hqj
   clear hqj
   subst hq
   have HC:Hid (CallsIn (Fence.wide.inRound l') 6 Tryz.prog 21 #[.agg #[.int .i64 rs.p,.slice ra rs.vs.length rc,.int .u64 (rs.r:Int)]] W3 fun e w'=>CyQ W3 rs e w'):=CallsIn.inRound l' (callsIn_wide.2 (rcopied_any rs _ W3 (HE.out W3 HN.out.bl) hFl hFx))
   gi_wp2_with (refine ⟨trivial,?_⟩;gi_at_call 21;refine HC.out.mono ?_;rintro e w4 ⟨u,J,rfl,hb4,hj4,hJm⟩;obtain ⟨ua,ug,uc,rfl,-⟩:=own_slice hj4.g.own;have HW4:=hid_of (HN.out.below hb4);obtain ⟨y0,y1,y2,z0,z1,z2⟩:=three_cells HW4.out.g3)
   rw [put3_eq]
   have HP:=HN.out.put hb4 (OS.of (r:=(rs,.slice ua J.length uc)) hj4 hJm)
   refine ⟨mid_put3 (HM0.out.below hb4) (by omega) (by omega) _ _ _,.slice ua J.length uc,?_,?_⟩
   ·intro i hi
    rcases Nat.lt_or_ge i (j+1) with q | q
    ·exact HOk.out i (by omega)
    ·have:i=j+1:=by omega
     rw [this,HO1.out hj0]
   ·rw [HO1.out hj0,← HQJ.out]
    exact HP
  ·have hq:¬ (q:Int)=1:=by omega
   have HQJ:=hid_of hqj
   have hSj:=HSj.out hj0 HOk.out
   have HOe:=hid_of (HO2.out hj0)
   have hA5:=HN.out.size
   have HC:Hid (CallsIn (Fence.wide.inRound l') 6 Tryz.prog 288 #[.agg #[.int .i64 (wst L j).1.p,.slice vo (wst L j).1.vs.length vc,.int .u64 ((wst L j).1.r:Int)],.agg #[.int .i64 rs.p,.slice ra rs.vs.length rc,.int .u64 (rs.r:Int)]] W3 fun e w'=>MgQ W3 (wst L j).1 rs e w'):=CallsIn.inRound l' (callsIn_wide.2 (merge_any (wst L j).1 rs _ _ hSj hFw W3 (HN.out.os.at_ hA5) (HE.out W3 HN.out.bl)))
   clear hqj HO1 HO2 HSj hSj
   generalize (wst L j).1=sj at *
   gi_upto_region 8 with (refine ⟨trivial,?_⟩;gi_at_call 288;refine HC.out.mono ?_;rintro e w4 ⟨u,J,rfl,hb4,hj4,hJm⟩;obtain ⟨ua,ug,uc,rfl,-⟩:=own_slice hj4.g.own)
   have hO4:=OS.of (r:=((mgS sj rs).1,.slice ua J.length uc)) hj4 hJm
   generalize hMM:mgS sj rs=M at *
   have hb5:=bt hb4 (bel1 w4 (.cells #[.int .i64 M.1.p,.slice ua J.length uc,.int .u64 (M.1.r:Int)] 50))
   have hO5:=hO4.below (bel1 w4 (.cells #[.int .i64 M.1.p,.slice ua J.length uc,.int .u64 (M.1.r:Int)] 50))
   have hn5:=new_1 w4 (.cells #[.int .i64 M.1.p,.slice ua J.length uc,.int .u64 (M.1.r:Int)] 50)
   generalize w4.alloc (.cells #[.int .i64 M.1.p,.slice ua J.length uc,.int .u64 (M.1.r:Int)] 50)=W5 at *
   have HW5:=hid_of (HN.out.below hb5)
   have HB5:=hid_of hb5
   have HO5:=hid_of hO5
   obtain ⟨t0,t1,t2,-,-,-⟩:=three_cells hn5
   clear hn5 hO5 hO4 hb5 hj4 hJm HC hMM c4' f4' d0' d1' d2' e0' e1' e2' x0 x1 x2 hb4
   by_cases he:M.2=0
   ·obtain ⟨y0,y1,y2,z0,z1,z2⟩:=three_cells HW5.out.g3
    gi_wp2
    rw [put3_eq]
    have HP:=HN.out.put HB5.out HO5.out
    refine ⟨mid_put3 (HM0.out.below HB5.out) (by omega) (by omega) _ _ _,.slice ua J.length uc,?_,?_⟩
    ·intro i hi
     rcases Nat.lt_or_ge i (j+1) with q' | q'
     ·exact HOk.out i (by omega)
     ·have:i=j+1:=by omega
      rw [this,HOe.out]
      exact he
    ·rw [HOe.out,← HQJ.out]
     exact HP
   ·obtain ⟨y0,y1,y2,z0,z1,z2⟩:=three_cells HW5.out.g0
    obtain ⟨s1,s2⟩:=box1 HW5.out.g1
    obtain ⟨s3,s4⟩:=box1 HW5.out.g2
    gi_wp2
    rw [put3_eq]
    refine ⟨((mid_put3 (HM0.out.below HB5.out) (by omega) (by omega) _ _ _).setCell (p:=⟨w.heap.size+1,0,none⟩) (.inl ⟨by show w.heap.size≤w.heap.size+1;omega,by show w.heap.size+1 < _;omega⟩) _).setCell (p:=⟨w.heap.size+2,0,none⟩) (.inl ⟨by show w.heap.size≤w.heap.size+2;omega,by show w.heap.size+2 < _;omega⟩) _,rfl,j,hj,HOk.out,by rw [HOe.out];exact he,?_⟩
    rw [HOe.out]
    exact Wx.of HW5.out M.2
 case done =>
  rintro D W hD ⟨v,HI⟩ hK
  obtain ⟨vo,vc,hvs⟩:=HI.out.2.os.form
  dsimp only at hvs
  subst hvs
  obtain ⟨c4,f4⟩:=box1 HI.out.2.g4
  obtain ⟨y0,y1,y2,z0,z1,z2⟩:=three_cells HI.out.2.g0
  obtain ⟨s1,s2⟩:=box1 HI.out.2.g1
  obtain ⟨s3,s4⟩:=box1 HI.out.2.g2
  have HK:=hid_of hK
  rcases Nat.eq_zero_or_pos L.length with hz | hz
  ·have hLn:L=[]:=List.length_eq_zero_iff.1 hz
   rw [hz] at c4
   have hX:=Wx.of HI.out.2 16
   have hK2:=(put5_other W (by omega:w.heap.size+3≤D) (.int .i64 0) (.slice none 0 0) (.int .u64 0) (.int .i64 0) (.int .i64 16)).trans hK
   have HX:=hid_of (hX.tn (Tn.putD (B:=w.heap.size) hK2 (by omega) (.deferred none)) (Nat.le_refl _))
   clear hX
   gi_wp2
   rw [put3_eq]
   generalize ((put3 W w.heap.size (.int .i64 0) (.slice none 0 0) (.int .u64 0)).setCell ⟨w.heap.size+1,0,none⟩ (.int .i64 0)).setCell ⟨w.heap.size+2,0,none⟩ (.int .i64 16)=W2 at *
   refine ⟨by simp,.inl ⟨_,_,rfl,run_takeDeferred hK2,?_⟩⟩
   generalize W2.putObj D (.deferred none)=W' at *
   clear y0 y1 y2 z0 z1 z2 s1 s2 s3 s4
   obtain ⟨y0,y1,y2,-,-,-⟩:=three_cells HX.out.g0
   obtain ⟨s1,-⟩:=box1 HX.out.g1
   obtain ⟨s3,-⟩:=box1 HX.out.g2
   rw [hLL]
   exact ⟨.tuple #[zAgg,.int .i64 0,.int .i64 16],by simp [results,Tryz.results283,go_sem,y0,y1,y2,s1,s3],HX.out.bl,.inl ⟨hLn,rfl⟩⟩
  ·obtain ⟨d0,d1,d2,e0,e1,e2⟩:=three_cells HI.out.2.g3
   have hN0:¬ (L.length:Int)=0:=by omega
   have hmo:Tryz.prog.follows .mixedOrders=true:=by kernel_rfl
   gi_upto_region 13 with fail
   gi_region_with_o (fail)
   all_goals
    have hX:=Wn.of HI.out.2 (L.length:Int)
    have hK2:(((put3 W w.heap.size (.int .i64 (wst L L.length).1.p) (.slice vo (wst L L.length).1.vs.length vc) (.int .u64 ((wst L L.length).1.r:Int))).setCell ⟨w.heap.size+1,0,none⟩ (.int .i64 (L.length:Int))).setCell ⟨w.heap.size+2,0,none⟩ (.int .i64 0)).drew.heap[D]? =_:=(put5_other W (by omega:w.heap.size+3≤D) _ _ _ _ _).trans hK
    have HX:=hid_of (hX.tn (Tn.putD (B:=w.heap.size) hK2 (by omega) (.deferred none)) (Nat.le_refl _))
    clear hX
    gi_wp2
    rw [put3_eq]
    generalize (((put3 W w.heap.size (.int .i64 (wst L L.length).1.p) (.slice vo (wst L L.length).1.vs.length vc) (.int .u64 ((wst L L.length).1.r:Int))).setCell ⟨w.heap.size+1,0,none⟩ (.int .i64 (L.length:Int))).setCell ⟨w.heap.size+2,0,none⟩ (.int .i64 0)).drew=W2 at *
    refine ⟨by simp,.inl ⟨_,_,rfl,run_takeDeferred hK2,?_⟩⟩
    generalize W2.putObj D (.deferred none)=W' at *
    clear y0 y1 y2 z0 z1 z2 s1 s2 s3 s4
    obtain ⟨y0,y1,y2,-,-,-⟩:=three_cells HX.out.g0
    obtain ⟨s1,-⟩:=box1 HX.out.g1
    obtain ⟨s3,-⟩:=box1 HX.out.g2
    rw [hLL]
    exact ⟨.tuple #[sx ((wst L L.length).1,.slice vo (wst L L.length).1.vs.length vc),.int .i64 (L.length:Int),.int .i64 0],by simp [results,Tryz.results283,go_sem,y0,y1,y2,s1,s3],HX.out.bl,.inr (.inl ⟨(fun e=>by rw [e] at hz;simp at hz),HI.out.1,_,rfl,HX.out.os.le (by omega)⟩)⟩
 case stop =>
  rintro D c j W hD hjN ⟨rfl,i,HI⟩ hK
  obtain ⟨hi,hok,hne,hX⟩:=HI.out
  obtain ⟨y0,y1,y2,z0,z1,z2⟩:=three_cells hX.g0
  obtain ⟨s1,s2⟩:=box1 hX.g1
  obtain ⟨s3,s4⟩:=box1 hX.g2
  gi_wp2
  have HX:=hid_of (hX.tn (Tn.putD (B:=w.heap.size) hK (by omega) (.deferred none)) (Nat.le_refl _))
  refine ⟨by simp,.inl ⟨_,_,rfl,run_takeDeferred hK,?_⟩⟩
  generalize W.putObj D (.deferred none)=W' at *
  clear y0 y1 y2 z0 z1 z2 s1 s2 s3 s4
  obtain ⟨y0,y1,y2,-,-,-⟩:=three_cells HX.out.g0
  obtain ⟨s1,-⟩:=box1 HX.out.g1
  obtain ⟨s3,-⟩:=box1 HX.out.g2
  rw [hLL]
  exact ⟨.tuple #[zAgg,.int .i64 0,.int .i64 (wst L (i+1)).2],by simp [results,Tryz.results283,go_sem,y0,y1,y2,s1,s3],HX.out.bl,.inr (.inr ⟨i,hi,hok,hne,rfl⟩)⟩
end Go.Proofs.YtlgkfeeclgcgbaaGreatDoor.Ri
/- RATE; the law's one. Own work of the verifier. -/
namespace Go.Proofs.YtlgkfeeclgcgbaaGreatDoor.Ri
open Go.RowKit Me
theorem one_find (n:Nat):fndS (oneS n) [99] []=(oneV n,0):=by
 have h:hitB (qV [99] []) (oneV n)=true:=by
  unfold hitB
  rw [(La.ordD_zero (oneV n).d (qV [99] []).d).2 ⟨rfl,rfl⟩]
  rfl
 have e:fdI (qV [99] []) (oneS n).vs 0=0:=by
  show fdI (qV [99] []) [oneV n] 0=0
  rw [fdI,if_pos h]
  rfl
 unfold fndS
 rw [e,if_neg (by decide)]
 rfl
end Go.Proofs.YtlgkfeeclgcgbaaGreatDoor.Ri
/- THE LAW'S fixed. Own work of the verifier. -/
namespace Go.Proofs.YtlgkfeeclgcgbaaGreatDoor.Ri
open Go.RowKit Me
theorem one_fit (m:Nat) (h:m < 9223372036854775808):Fit1 (oneS m):=⟨one_W m h,by show 1≤_;omega,fun x hx=>by
 rw [show (oneS m).vs=[oneV m] from rfl,List.mem_singleton] at hx
 subst hx
 exact ⟨by show 0≤_;omega,by show 0≤_;omega⟩⟩
end Go.Proofs.YtlgkfeeclgcgbaaGreatDoor.Ri
