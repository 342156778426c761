/- ALARM: the rule of the law's board: read, typed. Own work of the verifier. -/
import Derived.Test.YtlgkfeeclgcgbaaGreatDoorZAX
import Derived.Test.YtlgkfeeclgcgbaaGreatDoorZBL
import Derived.Test.YtlgkfeeclgcgbaaGreatDoorZAK
namespace Go.Proofs.YtlgkfeeclgcgbaaGreatDoor.Ru
open Go.RowKit Go.Sort Me
def aPR (l:List UInt8):Option Nat:=if l=[52] then some 4616189618054758400 else none
theorem aPr_at (u:World) (h:Rl.Glob2 u):PrAt aPR u [52]:=by
 intro W hb
 refine (Rl.dreal_4 W (h.below hb)).mono ?_
 rintro e w' ⟨rfl,hb⟩
 exact ⟨Or.inl ⟨_,by unfold aPR;rw [if_pos rfl],rfl⟩,hb⟩
def hitL (PR:List UInt8→Option Nat) (T:List UInt8):Nat→St→List St
 | 0,s=>match bgn (rst T (beg s)) with
  | 2=>[beg s]
  | _=>[]
 | f+1,s=>match bgn (rst T (beg s)) with
  | 1=>hitL PR T f (mst T [40] (beg s))++hitL PR T f (mst T [32] (namF isSg [4,5,6] T (mst T [32] (rulF PR T f (mst T [40] (beg s))).2)).2)
  | 2=>[beg s]
  | 3=>if (kwA (namF isLt [2,3,7] T (beg s)).1).1=7 then hitL PR T f (mst T [40] (namF isLt [2,3,7] T (beg s)).2) else []
  | _=>[]
theorem hit_mem {PR:List UInt8→Option Nat} {T:List UInt8}:∀ {f:Nat} {s z:St},hitF PR T f s z→z ∈ hitL PR T f s
 | 0,s,z,h=>by
  obtain ⟨h1,rfl⟩:=h
  unfold hitL
  rw [h1]
  exact List.mem_singleton.2 rfl
 | f+1,s,z,h=>by
  unfold hitL
  rcases h with ⟨h1,rfl⟩ | ⟨s',⟨h1,rfl | rfl⟩ | ⟨h1,h2,rfl⟩,h3⟩
  ·rw [h1]
   exact List.mem_singleton.2 rfl
  ·rw [h1]
   exact List.mem_append.2 (Or.inl (hit_mem h3))
  ·rw [h1]
   exact List.mem_append.2 (Or.inr (hit_mem h3))
  ·rw [h1]
   show z ∈ (if (kwA (namF isLt [2,3,7] T (beg s)).1).1=7 then hitL PR T f (mst T [40] (namF isLt [2,3,7] T (beg s)).2) else [])
   rw [if_pos h2]
   exact hit_mem h3
abbrev tx4:List UInt8:=[40,116,111,116,97,108,40,99,44,32,49,48,48,48,41,32,62,32,52,41]
abbrev rl4:RT:=.mk 15 0 [] [] 0 0 0 [.mk 2 0 [99] [] 1000 0 0 [],.mk 1 4616189618054758400 [] [] 0 0 0 []]
theorem whl4:whlF aPR tx4 ⟨0,0,0⟩=(rl4,⟨20,0,3⟩):=by kernel_rfl
theorem hits4:(hitL aPR tx4 512 ⟨0,0,0⟩).map (rowF isNm tx4)=[[52]]:=by kernel_rfl
theorem anum_of {z:St} (hz:hitF aPR tx4 512 ⟨0,0,0⟩ z):rowF isNm tx4 z=[52]:=by
 have:=List.mem_map_of_mem (f:=rowF isNm tx4) (hit_mem hz)
 rw [hits4] at this
 exact List.mem_singleton.1 this
theorem ck4:ckE rl4=0:=by decide +kernel
theorem sz4:∀ s ∈ nds rl4,szN s:=by
 intro s hs
 have:s=rl4∨s=.mk 2 0 [99] [] 1000 0 0 []∨s=.mk 1 4616189618054758400 [] [] 0 0 0 []:=by simpa [nds,ndsL] using hs
 rcases this with rfl | rfl | rfl
 all_goals exact ⟨by decide,by decide,by decide,fun a ha=>by cases ha⟩
theorem parse4 (w:World) (he:Env w):Calls Tryz.prog 25 #[.string ⟨#[40,116,111,116,97,108,40,99,44,32,49,48,48,48,41,32,62,32,52,41]⟩] w fun e w'=>(∃ v,e=.returned (.tuple #[v,.int .i64 0,.int .i64 0])∧RV w.heap.size w' rl4 v)∧Below w.heap.size w w':=by
 have:=parse_any aPR (fun t=>(ckE t).toNat) tx4 (by decide) w he (fun _ u hb z hz=>by rw [anum_of hz];exact aPr_at u (he.below hb).gl) (fun _ _=>by
  rw [whl4]
  exact ckAt_of rl4 w sz4 he.kd)
 refine this.mono ?_
 rintro e w' ⟨hq,hb⟩
 refine ⟨?_,hb⟩
 unfold PsQ at hq
 rw [whl4] at hq
 rcases hq with ⟨z,a,hz,-,⟨h,-⟩ | ⟨-,h,-⟩ | ⟨-,-,h,-⟩⟩ | ⟨-,-,-,v,h1,h2⟩
 ·exact absurd h (by decide)
 ·exact absurd h hz
 ·dsimp only at h;rw [ck4] at h;exact absurd h hz
 ·exact ⟨v,h1,h2⟩
theorem type4 (v:Value) (w:World) (hv:RV 0 w rl4 v) (h:Kd w):Calls Tryz.prog 26 #[v] w fun e w'=>e=.returned (.tuple #[.bool true,.int .i64 0])∧Below w.heap.size w w':=by
 refine (type_any rl4 v w hv sz4 h).mono ?_
 rintro e w' ⟨rfl,hb⟩
 refine ⟨?_,hb⟩
 rw [ck4,if_pos rfl]
 rfl
end Go.Proofs.YtlgkfeeclgcgbaaGreatDoor.Ru
/- ALARM: a comparison of a measure and a number; Eval of the rule. Own work of the verifier. -/
set_option maxRecDepth 100000
set_option maxHeartbeats 4000000
namespace Go.Proofs.YtlgkfeeclgcgbaaGreatDoor.Ru
open Go.RowKit Go.Sort Me
abbrev rlW (wi:Int):RT:=.mk 15 0 [] [] 0 0 0 [.mk 2 0 [99] [] wi 0 0 [],.mk 1 4616189618054758400 [] [] 0 0 0 []]
abbrev msV (wi:Int) (la:Option Addr) (lc:Nat) (aa:Option Addr) (ac:Nat):Value:=.agg #[.int .i64 2,.float .f64 0,.string ⟨#[99]⟩,.slice la 0 lc,.int .i64 wi,.int .i64 0,.int .i64 0,.slice aa 0 ac]
theorem fmc_w (wi:Int) (p:Value) (h:FmC (rlW wi) p):∃ la lc aa ac,(la=none→lc=0)∧lc≤9223372036854775807∧p=.agg #[.int .i64 15,.iface 168 (msV wi la lc aa ac),.iface 165 (.float .f64 4616189618054758400)]:=by
 unfold FmC at h
 obtain ⟨-,-,h3⟩:=h
 obtain ⟨p0,p1,h4,rfl⟩:=h3 (Or.inr rfl)
 unfold FmCs at h4
 obtain ⟨q0,r,e0,f0,h5⟩:=h4
 obtain ⟨rfl,rfl⟩:=List.cons.inj e0
 unfold FmCs at h5
 obtain ⟨q1,r,e1,f1,h6⟩:=h5
 obtain ⟨rfl,rfl⟩:=List.cons.inj e1
 unfold FmC at f0 f1
 obtain ⟨la,lc,aa,ac,rfl,h7,h8⟩:=f0.2.1 (Or.inl rfl)
 obtain rfl:=f1.1 rfl
 exact ⟨la,lc,aa,ac,h7,h8,rfl⟩
theorem two_cells {W:World} {g:Nat} {x y:Value} {t:TypeId} (h:W.heap[g]? =some (.cells #[x,y] t)):W.cell? ⟨g,0,none⟩=some x∧W.cell? ⟨g,1,none⟩=some y:=by constructor <;> simp [World.cell?,h]
theorem h_at {W W1:World} {g:Nat} {c:Array Value} {t:TypeId} (h:W.heap[g]? =some (.cells c t)) (hb:Below W.heap.size W W1):W1.heap[g]? =some (.cells c t):=(hb.block g (Array.getElem?_eq_some_iff.1 h).1).trans h
theorem both_mc (rp:Option Addr) (now:Int) (pa:Value) (x y:Nat) (w:World)
  (hA:∀ W,Below w.heap.size w W→Calls Tryz.prog 282 #[pa,.agg #[.pointer rp,.int .i64 now]] W fun e w'=>e=.returned (.tuple #[.agg #[.bool false,.bool false,.float .f64 x],.int .i64 0])∧Below W.heap.size W w') :
  Calls Tryz.prog 273 #[.agg #[.pointer rp,.int .i64 now],.iface 168 pa,.iface 165 (.float .f64 y)] w fun e w'=>e=.returned (.tuple #[.float .f64 x,.float .f64 y,.int .i64 0])∧Below w.heap.size w w':=by
 have HA:Hid (∀ W,Below w.heap.size w W→Calls Tryz.prog 282 #[pa,.agg #[.pointer rp,.int .i64 now]] W fun e w'=>e=.returned (.tuple #[.agg #[.bool false,.bool false,.float .f64 x],.int .i64 0])∧Below W.heap.size W w'):=hA
 have HC:Hid (∀ W,Calls Tryz.prog 278 #[.float .f64 y,.agg #[.pointer rp,.int .i64 now]] W fun e w'=>e=.returned (.tuple #[.agg #[.bool false,.bool false,.float .f64 y],.int .i64 0])∧Below W.heap.size W w'):=fun W=>work_const y rp now W
 obtain ⟨W0,hW0⟩:∃ W0,W0=w.alloc (.cells #[.pointer rp,.int .i64 now] 130):=⟨_,rfl⟩
 have HB0:Hid (Below w.heap.size w W0):=by show Below _ _ _;rw [hW0];exact bel1 w _
 have HN0:Hid (W0.heap[w.heap.size]? =some (.cells #[.pointer rp,.int .i64 now] 130)):=by show _=_;rw [hW0];exact new_1 w _
 have HW0:=hid_of hW0
 have sF:=store_f
 clear hW0 hA
 go_enter Tryz.func273,Tryz.ntmps273
 go_upto_region 1 with fail
 rw [← HW0.out]
 clear HW0
 obtain ⟨q0,q1⟩:=two_cells HN0.out
 go_wp2_with fail
 refine Calls.mono (HA.out _ HB0.out) ?_
 rintro e w1 ⟨rfl,hb1⟩
 obtain ⟨W1,hW1⟩:∃ W1,W1=w1.alloc (.cells #[.bool false,.bool false,.float .f64 x] 97):=⟨_,rfl⟩
 have hb2:Below w1.heap.size w1 W1:=by rw [hW1];exact bel1 w1 _
 have HB1:=hid_of (bt (bt HB0.out hb1) hb2)
 have HN1:=hid_of (h_at (h_at HN0.out hb1) hb2)
 have HX:Hid (W1.heap[w1.heap.size]? =some (.cells #[.bool false,.bool false,.float .f64 x] 97)):=by show _=_;rw [hW1];exact new_1 w1 _
 have HW1:=hid_of hW1
 clear hb1 hb2 HB0 HN0 HA q0 q1 hW1
 go_upto_region 4 with fail
 rw [← HW1.out]
 clear HW1
 generalize w1.heap.size=gx at *
 obtain ⟨q0,q1⟩:=two_cells HN1.out
 go_wp2_with fail
 refine Calls.mono (HC.out _) ?_
 rintro e w2 ⟨rfl,hb2⟩
 obtain ⟨W2,hW2⟩:∃ W2,W2=w2.alloc (.cells #[.bool false,.bool false,.float .f64 y] 97):=⟨_,rfl⟩
 have hb3:Below w2.heap.size w2 W2:=by rw [hW2];exact bel1 w2 _
 have HB2:=hid_of (bt (bt HB1.out hb2) hb3)
 have hX:=h_at (h_at HX.out hb2) hb3
 have hY:W2.heap[w2.heap.size]? =some (.cells #[.bool false,.bool false,.float .f64 y] 97):=by rw [hW2];exact new_1 w2 _
 have HW2:=hid_of hW2
 obtain ⟨⟨x0,x1,x2⟩,-⟩:=three hX
 obtain ⟨⟨z0,z1,z2⟩,-⟩:=three hY
 clear hb2 hb3 HB1 HN1 HX HC q0 q1 hW2 hX hY
 go_upto_region 7 with fail
 rw [← HW2.out]
 clear HW2
 go_quiet (fail)
 go_wp2_with fail
 go_ret3
 exact ⟨rfl,bel_dn HB2.out _⟩
theorem truth_ans (b:Bool) (w:World):Calls Tryz.prog 274 #[.bool b] w fun e w'=>e=.returned (.agg #[.bool true,.bool b,.float .f64 0])∧Below w.heap.size w w':=by
 have sF:=store_f
 go_enter Tryz.func274,Tryz.ntmps274
 go_wp2_with fail
 have hn:=new_1 w (.cells #[.bool true,.bool b,.float .f64 0] 97)
 (try simp only [Exit.inBlock,Exit.then]);refine bodyPost_ret (results_cell_row (P:=Tryz.prog) rfl _ _ w.heap.size 97 _ (0,0) _ rfl hn Tryz.underlying97 rfl (by kernel_rfl)) rfl ?_
 exact ⟨rfl,bel1 w _⟩
theorem stands_5 (w:World):Calls Tryz.prog 275 #[.int .i64 15,.float .f64 4617315517961601024,.float .f64 4616189618054758400] w fun e w'=>e=.returned (.bool true)∧w'=w:=by
 go_enter Tryz.func275,Tryz.ntmps275
 go_wp2_with fail
 go_ret
 exact ⟨rfl,rfl⟩
theorem cmp_work (rp:Option Addr) (now:Int) (pa:Value) (x y:Nat) (b:Bool) (hS:∀ W,Calls Tryz.prog 275 #[.int .i64 15,.float .f64 x,.float .f64 y] W fun e w'=>e=.returned (.bool b)∧w'=W) (w:World)
  (hA:∀ W,Below w.heap.size w W→Calls Tryz.prog 282 #[pa,.agg #[.pointer rp,.int .i64 now]] W fun e w'=>e=.returned (.tuple #[.agg #[.bool false,.bool false,.float .f64 x],.int .i64 0])∧Below W.heap.size W w') :
  Calls Tryz.prog 272 #[.agg #[.int .i64 15,.iface 168 pa,.iface 165 (.float .f64 y)],.agg #[.pointer rp,.int .i64 now]] w fun e w'=>e=.returned (.tuple #[.agg #[.bool true,.bool b,.float .f64 0],.int .i64 0])∧Below w.heap.size w w':=by
 have HBo:Hid (∀ W,Below w.heap.size w W→Calls Tryz.prog 273 #[.agg #[.pointer rp,.int .i64 now],.iface 168 pa,.iface 165 (.float .f64 y)] W fun e w'=>e=.returned (.tuple #[.float .f64 x,.float .f64 y,.int .i64 0])∧Below W.heap.size W w'):=fun W hb=>both_mc rp now pa x y W (fun W' hb'=>hA W' (bt hb hb'))
 have HS:Hid (∀ W,Calls Tryz.prog 275 #[.int .i64 15,.float .f64 x,.float .f64 y] W fun e w'=>e=.returned (.bool b)∧w'=W):=hS
 have HT:Hid (∀ W,Calls Tryz.prog 274 #[.bool b] W fun e w'=>e=.returned (.agg #[.bool true,.bool b,.float .f64 0])∧Below W.heap.size W w'):=fun W=>truth_ans b W
 obtain ⟨W0,hW0⟩:∃ W0,W0=((w.alloc (.cells #[.int .i64 15,.iface 168 pa,.iface 165 (.float .f64 y)] 141)).alloc (.cells #[.pointer rp,.int .i64 now] 130)).alloc (.cells #[.bool false,.bool false,.float .f64 0] 97):=⟨_,rfl⟩
 have s1:(w.alloc (.cells #[.int .i64 15,.iface 168 pa,.iface 165 (.float .f64 y)] 141)).heap.size=w.heap.size+1:=by simp
 have s2:((w.alloc (.cells #[.int .i64 15,.iface 168 pa,.iface 165 (.float .f64 y)] 141)).alloc (.cells #[.pointer rp,.int .i64 now] 130)).heap.size=w.heap.size+2:=by simp
 have hn1:=new_1 w (.cells #[.int .i64 15,.iface 168 pa,.iface 165 (.float .f64 y)] 141)
 have hn2:=new_1 (w.alloc (.cells #[.int .i64 15,.iface 168 pa,.iface 165 (.float .f64 y)] 141)) (.cells #[.pointer rp,.int .i64 now] 130)
 have hn3:=new_1 ((w.alloc (.cells #[.int .i64 15,.iface 168 pa,.iface 165 (.float .f64 y)] 141)).alloc (.cells #[.pointer rp,.int .i64 now] 130)) (.cells #[.bool false,.bool false,.float .f64 0] 97)
 rw [s1] at hn2
 rw [s2,← hW0] at hn3
 have hc1:=h_at (h_at hn1 (bel1 _ (.cells #[.pointer rp,.int .i64 now] 130))) (bel1 _ (.cells #[.bool false,.bool false,.float .f64 0] 97))
 have hc2:=h_at hn2 (bel1 _ (.cells #[.bool false,.bool false,.float .f64 0] 97))
 rw [← hW0] at hc1 hc2
 have HB0:Hid (Below w.heap.size w W0):=by show Below _ _ _;rw [hW0];exact bt (bt (bel1 _ _) (bel1 _ _)) (bel1 _ _)
 have HC1:=hid_of hc1
 have HC2:=hid_of hc2
 have HC3:=hid_of hn3
 have HW0:=hid_of hW0
 have sF:=store_f
 clear hW0 hA hS hn1 hn2 hn3 hc1 hc2 s1 s2
 go_enter Tryz.func272,Tryz.ntmps272
 go_upto_region 1 with fail
 rw [← HW0.out]
 clear HW0
 obtain ⟨q0,q1⟩:=two_cells HC2.out
 obtain ⟨⟨k0,k1,k2⟩,-⟩:=three HC1.out
 go_wp2_with fail
 refine Calls.mono (HBo.out _ HB0.out) ?_
 rintro e w1 ⟨rfl,hb1⟩
 have HB1:=hid_of (bt HB0.out hb1)
 have HC1':=hid_of (h_at HC1.out hb1)
 have HC3':=hid_of (h_at HC3.out hb1)
 clear hb1 HB0 HC1 HC2 HC3 HBo q0 q1 k0 k1 k2
 obtain ⟨⟨k0,k1,k2⟩,-⟩:=three HC1'.out
 go_wp2_with fail
 refine Calls.mono (HS.out _) ?_
 rintro e w2 ⟨rfl,rfl⟩
 clear HS k0 k1 k2
 go_wp2_with fail
 refine Calls.mono (HT.out _) ?_
 rintro e w3 ⟨rfl,hb3⟩
 have hn9:=h_at HC3'.out hb3
 have hb:=bt HB1.out hb3
 obtain ⟨⟨z0,z1,z2⟩,zf⟩:=three hn9
 obtain ⟨W9,hW9⟩:∃ W9,W9=put3 w3 (w.heap.size+2) (.bool true) (.bool b) (.float .f64 0):=⟨_,rfl⟩
 have HW9:=hid_of hW9
 have HH:Hid (W9.heap[w.heap.size+2]? =some (.cells #[.bool true,.bool b,.float .f64 0] 97)):=by show _=_;rw [hW9];exact put3_heap hn9 _ _ _
 have HB:Hid (Below w.heap.size w W9):=by show Below _ _ _;rw [hW9];exact put3_bel hb (by omega) _ _ _
 clear hW9 hn9 hb hb3 HC1' HC3' HB1 HT
 go_wp2_with fail
 obtain rfl:=HW9.out
 refine bodyPost_ret (results_ct rfl _ _ (w.heap.size+2) 97 _ (0,0) _ rfl HH.out Tryz.underlying97 rfl (by kernel_rfl)) rfl ?_
 exact ⟨rfl,HB.out⟩
end Go.Proofs.YtlgkfeeclgcgbaaGreatDoor.Ru
/- ALARM: Eval of the rule. Own work of the verifier. -/
set_option maxRecDepth 100000
set_option maxHeartbeats 4000000
namespace Go.Proofs.YtlgkfeeclgcgbaaGreatDoor.Ru
open Go.RowKit Go.Sort Me
theorem eval_w (wi:Int) (hc:ckE (rlW wi)=0) (hz:∀ s ∈ nds (rlW wi),szN s) (rp:Option Addr) (now:Int) (h0:-4611686018427387904≤now) (h1:now≤4611686018427387904) (x:Nat) (b:Bool) (hS:∀ W,Calls Tryz.prog 275 #[.int .i64 15,.float .f64 x,.float .f64 4616189618054758400] W fun e w'=>e=.returned (.bool b)∧w'=W)
  (v:Value) (w:World) (hv:RV 0 w (rlW wi) v) (hk:Kd w)
  (hA:∀ la lc aa ac,(la=none→lc=0)→lc≤9223372036854775807→∀ W,Below w.heap.size w W→Calls Tryz.prog 282 #[msV wi la lc aa ac,.agg #[.pointer rp,.int .i64 now]] W fun e w'=>e=.returned (.tuple #[.agg #[.bool false,.bool false,.float .f64 x],.int .i64 0])∧Below W.heap.size W w') :
  Calls Tryz.prog 29 #[.pointer rp,.int .i64 now,v] w fun e w'=>e=.returned (.tuple #[.agg #[.bool true,.bool b,.float .f64 0],.int .i64 0])∧Below w.heap.size w w':=by
 have HM:Hid (∀ W,Below w.heap.size w W→Calls Tryz.prog 42 #[v] W fun e w'=>(∃ la lc aa ac,(la=none→lc=0)∧lc≤9223372036854775807∧e=.returned (.tuple #[.iface 141 (.agg #[.int .i64 15,.iface 168 (msV wi la lc aa ac),.iface 165 (.float .f64 4616189618054758400)]),.int .i64 0]))∧Below W.heap.size W w'):=fun W hb=>(made_any (rlW wi) v W (hv.below hb) hz (hk.below hb)).mono (by
  rintro e w1 ⟨⟨-,p,h2,-,h3⟩ | ⟨h2,-⟩,hb1⟩
  ·obtain ⟨la,lc,aa,ac,h4,h5,rfl⟩:=fmc_w wi p h3
   exact ⟨⟨la,lc,aa,ac,h4,h5,h2⟩,hb1⟩
  ·exact absurd hc h2)
 have HWk:Hid (∀ la lc aa ac,(la=none→lc=0)→lc≤9223372036854775807→∀ W,Below w.heap.size w W→Calls Tryz.prog 272 #[.agg #[.int .i64 15,.iface 168 (msV wi la lc aa ac),.iface 165 (.float .f64 4616189618054758400)],.agg #[.pointer rp,.int .i64 now]] W fun e w'=>e=.returned (.tuple #[.agg #[.bool true,.bool b,.float .f64 0],.int .i64 0])∧Below W.heap.size W w'):=fun la lc aa ac h2 h3 W hb=>cmp_work rp now _ x _ b hS W (fun W' hb'=>hA la lc aa ac h2 h3 W' (bt hb hb'))
 obtain ⟨k,fx,nm,la0,ln0,lc0,wi0,n0,d0,aa0,an0,ac0,rfl⟩:=hv.form
 obtain ⟨W0,hW0⟩:∃ W0,W0=(w.alloc (.cells (rc k fx nm (.slice la0 ln0 lc0) wi0 n0 d0 (.slice aa0 an0 ac0)) 61)).alloc (.cells #[.bool false,.bool false,.float .f64 0] 97):=⟨_,rfl⟩
 have hb0:Below w.heap.size w W0:=by rw [hW0];exact La.bel2 w _ _
 have hn0:W0.heap[w.heap.size+1]? =some (.cells #[.bool false,.bool false,.float .f64 0] 97):=by
  rw [hW0]
  have:=new_1 (w.alloc (.cells (rc k fx nm (.slice la0 ln0 lc0) wi0 n0 d0 (.slice aa0 an0 ac0)) 61)) (.cells #[.bool false,.bool false,.float .f64 0] 97)
  simpa using this
 have hr0:W0.heap[w.heap.size]? =some (.cells (rc k fx nm (.slice la0 ln0 lc0) wi0 n0 d0 (.slice aa0 an0 ac0)) 61):=by
  rw [hW0]
  exact ((bel1 _ _).block _ (by simp)).trans (new_1 w _)
 obtain ⟨y0,y1,y2,y3,y4,y5,y6,y7⟩:=eight hr0
 have HW0:=hid_of hW0
 have HB0:=hid_of hb0
 have HN0:=hid_of hn0
 have sF:=store_f
 clear hW0 hr0 hc hz hS hv hk hA hb0 hn0
 go_enter Tryz.func29,Tryz.ntmps29
 go_upto_region 1 with fail
 rw [← HW0.out]
 clear HW0
 go_wp2_with fail
 refine Calls.mono (HM.out W0 HB0.out) ?_
 rintro e w1 ⟨⟨la,lc,aa,ac,hl1,hl2,rfl⟩,hb1⟩
 have HN1:=hid_of (h_at HN0.out hb1)
 have HB1:=hid_of (bt HB0.out hb1)
 have HW1:=hid_of (HWk.out la lc aa ac hl1 hl2)
 clear HM HN0 HB0 hb1 hl1 hl2 HWk y0 y1 y2 y3 y4 y5 y6 y7
 go_wp2_with fail
 refine Calls.mono (HW1.out _ HB1.out) ?_
 rintro e w2 ⟨rfl,hb2⟩
 have hn2:=h_at HN1.out hb2
 have hb:=bt HB1.out hb2
 obtain ⟨⟨z0,z1,z2⟩,zf⟩:=three hn2
 obtain ⟨W9,hW9⟩:∃ W9,W9=put3 w2 (w.heap.size+1) (.bool true) (.bool b) (.float .f64 0):=⟨_,rfl⟩
 have HW9:=hid_of hW9
 have HH:Hid (W9.heap[w.heap.size+1]? =some (.cells #[.bool true,.bool b,.float .f64 0] 97)):=by show _=_;rw [hW9];exact put3_heap hn2 _ _ _
 have HB:Hid (Below w.heap.size w W9):=by show Below _ _ _;rw [hW9];exact put3_bel hb (by omega) _ _ _
 clear hW9 hn2 hb hb2 HN1 HB1 HW1
 go_wp2_with fail
 obtain rfl:=HW9.out
 refine bodyPost_ret (results_ct rfl _ _ (w.heap.size+1) 97 _ (0,0) _ rfl HH.out Tryz.underlying97 rfl (by kernel_rfl)) rfl ?_
 exact ⟨rfl,HB.out⟩
end Go.Proofs.YtlgkfeeclgcgbaaGreatDoor.Ru
/- ALARM: the rule of AlarmRings' board: read, typed. Own work of the verifier. -/
namespace Go.Proofs.YtlgkfeeclgcgbaaGreatDoor.Ru
open Go.RowKit Go.Sort Me
abbrev txW:List UInt8:=[40,116,111,116,97,108,40,99,44,32,52,54,49,49,54,56,54,48,49,56,52,50,55,51,56,55,57,48,52,41,32,62,32,52,41]
abbrev W62:Int:=4611686018427387904
theorem whlW:whlF aPR txW ⟨0,0,0⟩=(rlW W62,⟨35,0,3⟩):=by kernel_rfl
theorem hitsW:(hitL aPR txW 512 ⟨0,0,0⟩).map (rowF isNm txW)=[[52]]:=by kernel_rfl
theorem anum_ofW {z:St} (hz:hitF aPR txW 512 ⟨0,0,0⟩ z):rowF isNm txW z=[52]:=by
 have:=List.mem_map_of_mem (f:=rowF isNm txW) (hit_mem hz)
 rw [hitsW] at this
 exact List.mem_singleton.1 this
theorem ckW:ckE (rlW W62)=0:=by decide +kernel
theorem szW:∀ s ∈ nds (rlW W62),szN s:=by
 intro s hs
 have:s=rlW W62∨s=.mk 2 0 [99] [] W62 0 0 []∨s=.mk 1 4616189618054758400 [] [] 0 0 0 []:=by simpa [nds,ndsL] using hs
 rcases this with rfl | rfl | rfl
 all_goals exact ⟨by decide,by decide,by decide,fun a ha=>by cases ha⟩
theorem parseW (w:World) (he:Env w):Calls Tryz.prog 25 #[.string ⟨#[40,116,111,116,97,108,40,99,44,32,52,54,49,49,54,56,54,48,49,56,52,50,55,51,56,55,57,48,52,41,32,62,32,52,41]⟩] w fun e w'=>(∃ v,e=.returned (.tuple #[v,.int .i64 0,.int .i64 0])∧RV w.heap.size w' (rlW W62) v)∧Below w.heap.size w w':=by
 have:=parse_any aPR (fun t=>(ckE t).toNat) txW (by decide) w he (fun _ u hb z hz=>by rw [anum_ofW hz];exact aPr_at u (he.below hb).gl) (fun _ _=>by
  rw [whlW]
  exact ckAt_of (rlW W62) w szW he.kd)
 refine this.mono ?_
 rintro e w' ⟨hq,hb⟩
 refine ⟨?_,hb⟩
 unfold PsQ at hq
 rw [whlW] at hq
 rcases hq with ⟨z,a,hz,-,⟨h,-⟩ | ⟨-,h,-⟩ | ⟨-,-,h,-⟩⟩ | ⟨-,-,-,v,h1,h2⟩
 ·exact absurd h (by decide)
 ·exact absurd h hz
 ·dsimp only at h;rw [ckW] at h;exact absurd h hz
 ·exact ⟨v,h1,h2⟩
theorem typeW (v:Value) (w:World) (hv:RV 0 w (rlW W62) v) (h:Kd w):Calls Tryz.prog 26 #[v] w fun e w'=>e=.returned (.tuple #[.bool true,.int .i64 0])∧Below w.heap.size w w':=by
 refine (type_any (rlW W62) v w hv szW h).mono ?_
 rintro e w' ⟨rfl,hb⟩
 refine ⟨?_,hb⟩
 rw [ckW,if_pos rfl]
 rfl
theorem stands_3 (w:World):Calls Tryz.prog 275 #[.int .i64 15,.float .f64 4613937818241073152,.float .f64 4616189618054758400] w fun e w'=>e=.returned (.bool false)∧w'=w:=by
 go_enter Tryz.func275,Tryz.ntmps275
 go_wp2_with fail
 go_ret
 exact ⟨rfl,rfl⟩
end Go.Proofs.YtlgkfeeclgcgbaaGreatDoor.Ru
