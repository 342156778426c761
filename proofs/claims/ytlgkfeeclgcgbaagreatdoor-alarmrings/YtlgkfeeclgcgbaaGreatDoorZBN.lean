/- ALARM: a measure, a constant, a comparison worked out. Own work of the verifier. -/
import Derived.Test.YtlgkfeeclgcgbaaGreatDoorZBL
import Derived.Test.YtlgkfeeclgcgbaaGreatDoorZBJ
import Derived.Test.YtlgkfeeclgcgbaaGreatDoorZBK
import Derived.Test.YtlgkfeeclgcgbaaGreatDoorZBM
set_option maxRecDepth 100000
set_option maxHeartbeats 4000000
namespace Go.Proofs.YtlgkfeeclgcgbaaGreatDoor.Ri
open Go.RowKit Me
def WnN (n:Nat) (w:World) (e:Ending) (w':World):Prop:=∃ ua uc m,e=.returned (.tuple #[.agg #[.int .i64 2,.slice ua 1 uc,.int .u64 0],.int .i64 m,.int .i64 0])∧SnAt w' (oneS n) (.agg #[.int .i64 2,.slice ua 1 uc,.int .u64 0])∧Below w.heap.size w w'
def NoLb (la:Option Addr) (lc:Nat):Prop:=(la=none→lc=0)∧lc≤9223372036854775807
theorem NoLb.sl {la:Option Addr} {lc:Nat} (h:NoLb la lc) (W:World):SLb W (.slice la 0 lc) []:=by
 obtain ⟨h1,h2⟩:=h
 cases la with
 | none=>rw [h1 rfl];exact Or.inl ⟨rfl,rfl⟩
 | some a=>exact Or.inr (Or.inr ⟨a,lc,rfl,h2,rfl⟩)
theorem find_n (n:Nat) (hn:n < 1000) (la:Option Addr) (lc:Nat) (hl:NoLb la lc) (W:World) (v:Value) (h:SnAt W (oneS n) v) :
  Calls Tryz.prog 284 #[v,.string ⟨#[99]⟩,.slice la 0 lc] W fun e w'=>∃ lb ld ca cc,e=.returned (.tuple #[.agg #[.int .i64 1,.string ⟨#[99]⟩,.string ⟨#[]⟩,.slice lb 0 ld,.int .i64 0,.int .u64 (n:Int),.slice ca 0 cc,.int .u64 0,.float .f64 0,.float .f64 0,.float .f64 0],.int .i64 0])∧Below W.heap.size W w':=by
 have hi:hiOf ((n:Nat):Int)=0:=by unfold hiOf;omega
 have lo:loOf ((n:Nat):Int)=(n:Int):=by unfold loOf;omega
 refine (find_any (oneS n) v [99] (.slice la 0 lc) [] W h (hl.sl W) (fun x hx=>by
  rw [show (oneS n).vs=[oneV n] from rfl,List.mem_singleton] at hx
  subst hx
  exact ⟨by show 0≤_;omega,by show 0≤_;omega⟩)).mono ?_
 rintro e w' ⟨lv,cv,rfl,h1,h2,hb⟩
 rw [one_find] at h1 h2
 obtain ⟨lb,g,ld,rfl,-⟩:=own_slice h1
 obtain ⟨ca,g',cc,rfl,-⟩:=own_slice h2
 refine ⟨lb,ld,ca,cc,?_,hb⟩
 rw [one_find]
 show Ending.returned (.tuple #[.agg #[.int .i64 1,.string ⟨#[99]⟩,.string ⟨#[]⟩,.slice lb 0 ld,.int .i64 (hiOf ((n:Nat):Int)),.int .u64 (loOf ((n:Nat):Int)),.slice ca 0 cc,.int .u64 0,.float .f64 0,.float .f64 0,.float .f64 0],.int .i64 0])=_
 rw [hi,lo]
theorem float_n (n:Nat) (hn:n < 1000) (W:World):Calls Tryz.prog 291 #[.agg #[.int .i64 0,.int .u64 (n:Int)]] W fun e w'=>e=.returned (.float .f64 (Wi.fbits (n:Int)))∧Below W.heap.size W w':=by
 have:=Wi.float_any 0 (n:Int) ⟨by omega,by omega,by omega,by omega⟩ W
 rw [show val 0 (n:Int)=(n:Int) by unfold val;omega] at this
 exact this
theorem asks_total (W:World):Calls Tryz.prog 285 #[.int .i64 2,.int .i64 1] W fun e w'=>e=.returned (.bool true)∧w'=W:=by
 go_enter Tryz.func285,Tryz.ntmps285
 go_wp2_with fail
 go_ret
 exact ⟨rfl,rfl⟩
theorem told_total (n:Nat) (hn:n < 1000) (wi:Int) (la:Option Addr) (lc:Nat) (aa:Option Addr) (ac:Nat) (ua:Option Addr) (uc:Nat) (lb:Option Addr) (ld:Nat) (ca:Option Addr) (cc:Nat) (w:World) :
  Calls Tryz.prog 286 #[.agg #[.int .i64 2,.float .f64 0,.string ⟨#[99]⟩,.slice la 0 lc,.int .i64 wi,.int .i64 0,.int .i64 0,.slice aa 0 ac],.agg #[.int .i64 2,.slice ua 1 uc,.int .u64 0],.agg #[.int .i64 1,.string ⟨#[99]⟩,.string ⟨#[]⟩,.slice lb 0 ld,.int .i64 0,.int .u64 (n:Int),.slice ca 0 cc,.int .u64 0,.float .f64 0,.float .f64 0,.float .f64 0]] w fun e w'=>e=.returned (.tuple #[.float .f64 (Wi.fbits (n:Int)),.int .i64 0])∧Below w.heap.size w w':=by
 have HF:Hid (∀ W,Calls Tryz.prog 291 #[.agg #[.int .i64 0,.int .u64 (n:Int)]] W fun e w'=>e=.returned (.float .f64 (Wi.fbits (n:Int)))∧Below W.heap.size W w'):=fun W=>float_n n hn W
 have sF:=store_f
 generalize Wi.fbits (n:Int)=x at *
 clear hn
 go_enter Tryz.func286,Tryz.ntmps286
 go_wp2_with fail
 refine Calls.mono (HF.out _) ?_
 rintro e w1 ⟨rfl,hb1⟩
 go_wp2_with fail
 go_ret2
 exact ⟨rfl,bt (bt (bt (bel1 _ _) (bel1 _ _)) (bel1 _ _)) hb1⟩
structure MW (c:Array Value) (m0 m1:Value) (w W:World):Prop where
 b:Below w.heap.size w W
 m:W.heap[w.heap.size]? =some (.cells c 168)
 q:W.heap[w.heap.size+1]? =some (.cells #[m0,m1] 130)
 a:W.heap[w.heap.size+2]? =some (.cells #[.bool false,.bool false,.float .f64 0] 97)
theorem hx_at {W W1:World} {g:Nat} {c:Array Value} {t:TypeId} (h:W.heap[g]? =some (.cells c t)) (hb:Below W.heap.size W W1):W1.heap[g]? =some (.cells c t):=(hb.block g (Array.getElem?_eq_some_iff.1 h).1).trans h
theorem MW.below {c:Array Value} {m0 m1:Value} {w W W1:World} (h:MW c m0 m1 w W) (hb:Below W.heap.size W W1):MW c m0 m1 w W1:=⟨bt h.b hb,hx_at h.m hb,hx_at h.q hb,hx_at h.a hb⟩
theorem MW.new (c:Array Value) (m0 m1:Value) (w:World):MW c m0 m1 w (((w.alloc (.cells c 168)).alloc (.cells #[m0,m1] 130)).alloc (.cells #[.bool false,.bool false,.float .f64 0] 97)):=by
 have h1:=new_1 w (.cells c 168)
 have h2:=new_1 (w.alloc (.cells c 168)) (.cells #[m0,m1] 130)
 have h3:=new_1 ((w.alloc (.cells c 168)).alloc (.cells #[m0,m1] 130)) (.cells #[.bool false,.bool false,.float .f64 0] 97)
 have s1:(w.alloc (.cells c 168)).heap.size=w.heap.size+1:=by simp
 have s2:((w.alloc (.cells c 168)).alloc (.cells #[m0,m1] 130)).heap.size=w.heap.size+2:=by simp
 rw [s1] at h2
 rw [s2] at h3
 refine ⟨bt (bt (bel1 _ _) (bel1 _ _)) (bel1 _ _),hx_at (hx_at h1 (bel1 _ _)) (bel1 _ _),hx_at h2 (bel1 _ _),h3⟩
theorem two_cells {W:World} {g:Nat} {x y:Value} {t:TypeId} (h:W.heap[g]? =some (.cells #[x,y] t)):W.cell? ⟨g,0,none⟩=some x∧W.cell? ⟨g,1,none⟩=some y:=by constructor <;> simp [World.cell?,h]
theorem eleven {W:World} {g:Nat} {z0 z1 z2 z3 z4 z5 z6 z7 z8 z9 z10:Value} {t:TypeId} (h:W.heap[g]? =some (.cells #[z0,z1,z2,z3,z4,z5,z6,z7,z8,z9,z10] t)):(W.cell? ⟨g,0,none⟩=some z0∧W.cell? ⟨g,1,none⟩=some z1∧W.cell? ⟨g,2,none⟩=some z2∧W.cell? ⟨g,3,none⟩=some z3∧W.cell? ⟨g,4,none⟩=some z4∧W.cell? ⟨g,5,none⟩=some z5∧W.cell? ⟨g,6,none⟩=some z6∧W.cell? ⟨g,7,none⟩=some z7∧W.cell? ⟨g,8,none⟩=some z8∧W.cell? ⟨g,9,none⟩=some z9∧W.cell? ⟨g,10,none⟩=some z10)∧∀ i,W.frozen? ⟨g,i,none⟩=false:=by
 refine ⟨⟨?_,?_,?_,?_,?_,?_,?_,?_,?_,?_,?_⟩,fun i=>?_⟩ <;> simp [World.cell?,World.frozen?,h]
theorem measure_work (n:Nat) (hn:n < 1000) (wi now:Int) (hwr:IntKind.i64.wrap (now - wi)=now - wi) (rp:Option Addr) (la:Option Addr) (lc:Nat) (aa:Option Addr) (ac:Nat) (hl:NoLb la lc) (w:World)
  (hWin:∀ W,Below w.heap.size w W→Calls Tryz.prog 283 #[.pointer rp,.int .i64 (now - wi),.int .i64 now] W fun e w'=>WnN n W e w') :
  Calls Tryz.prog 282 #[.agg #[.int .i64 2,.float .f64 0,.string ⟨#[99]⟩,.slice la 0 lc,.int .i64 wi,.int .i64 0,.int .i64 0,.slice aa 0 ac],.agg #[.pointer rp,.int .i64 now]] w fun e w'=>e=.returned (.tuple #[.agg #[.bool false,.bool false,.float .f64 (Wi.fbits (n:Int))],.int .i64 0])∧Below w.heap.size w w':=by
 have HWin:Hid (∀ W,Below w.heap.size w W→Calls Tryz.prog 283 #[.pointer rp,.int .i64 (now - wi),.int .i64 now] W fun e w'=>WnN n W e w'):=hWin
 have HFd:Hid (∀ W v,SnAt W (oneS n) v→Calls Tryz.prog 284 #[v,.string ⟨#[99]⟩,.slice la 0 lc] W fun e w'=>∃ lb ld ca cc,e=.returned (.tuple #[.agg #[.int .i64 1,.string ⟨#[99]⟩,.string ⟨#[]⟩,.slice lb 0 ld,.int .i64 0,.int .u64 (n:Int),.slice ca 0 cc,.int .u64 0,.float .f64 0,.float .f64 0,.float .f64 0],.int .i64 0])∧Below W.heap.size W w'):=fun W v h=>find_n n hn la lc hl W v h
 have HAs:Hid (∀ W,Calls Tryz.prog 285 #[.int .i64 2,.int .i64 1] W fun e w'=>e=.returned (.bool true)∧w'=W):=fun W=>asks_total W
 have HTo:Hid (∀ ua uc lb ld ca cc W,Calls Tryz.prog 286 #[.agg #[.int .i64 2,.float .f64 0,.string ⟨#[99]⟩,.slice la 0 lc,.int .i64 wi,.int .i64 0,.int .i64 0,.slice aa 0 ac],.agg #[.int .i64 2,.slice ua 1 uc,.int .u64 0],.agg #[.int .i64 1,.string ⟨#[99]⟩,.string ⟨#[]⟩,.slice lb 0 ld,.int .i64 0,.int .u64 (n:Int),.slice ca 0 cc,.int .u64 0,.float .f64 0,.float .f64 0,.float .f64 0]] W fun e w'=>e=.returned (.tuple #[.float .f64 (Wi.fbits (n:Int)),.int .i64 0])∧Below W.heap.size W w'):=fun ua uc lb ld ca cc W=>told_total n hn wi la lc aa ac ua uc lb ld ca cc W
 have HNu:Hid (∀ x W,Calls Tryz.prog 279 #[.float .f64 x] W fun e w'=>e=.returned (.agg #[.bool false,.bool false,.float .f64 x])∧Below W.heap.size W w'):=fun x W=>Ru.num_any x W
 obtain ⟨W0,hW0⟩:∃ W0,W0=(((w.alloc (.cells #[.int .i64 2,.float .f64 0,.string ⟨#[99]⟩,.slice la 0 lc,.int .i64 wi,.int .i64 0,.int .i64 0,.slice aa 0 ac] 168)).alloc (.cells #[.pointer rp,.int .i64 now] 130)).alloc (.cells #[.bool false,.bool false,.float .f64 0] 97)):=⟨_,rfl⟩
 have HM0:Hid (MW #[.int .i64 2,.float .f64 0,.string ⟨#[99]⟩,.slice la 0 lc,.int .i64 wi,.int .i64 0,.int .i64 0,.slice aa 0 ac] (.pointer rp) (.int .i64 now) w W0):=by show MW _ _ _ _ _;rw [hW0];exact MW.new _ _ _ _
 have HW0:=hid_of hW0
 have sF:=Ru.store_f
 generalize Wi.fbits (n:Int)=xf at *
 clear hW0 hWin hl hn
 go_enter Tryz.func282,Tryz.ntmps282
 go_upto_region 1 with fail
 rw [← HW0.out]
 clear HW0
 obtain ⟨y0,y1,y2,y3,y4,y5,y6,y7⟩:=Ru.eight HM0.out.m
 obtain ⟨q0,q1⟩:=two_cells HM0.out.q
 go_wp2_with fail
 refine Calls.mono (HWin.out _ HM0.out.b) ?_
 rintro e w1 ⟨ua,uc,mm,rfl,h1,hb1⟩
 have HM1:=hid_of (HM0.out.below hb1)
 have HS1:=hid_of h1
 clear HM0 hb1 h1 HWin y0 y1 y2 y3 y4 y5 y6 y7 q0 q1
 obtain ⟨W1,hW1⟩:∃ W1,W1=w1.alloc (.cells #[.int .i64 2,.slice ua 1 uc,.int .u64 0] 50):=⟨_,rfl⟩
 have hb2:Below w1.heap.size w1 W1:=by rw [hW1];exact bel1 w1 _
 have hn2:W1.heap[w1.heap.size]? =some (.cells #[.int .i64 2,.slice ua 1 uc,.int .u64 0] 50):=by rw [hW1];exact new_1 w1 _
 have hm2:=HM1.out.below hb2
 have hs2:=HS1.out.below hb2
 obtain ⟨y0,y1,y2,y3,y4,y5,y6,y7⟩:=Ru.eight hm2.m
 obtain ⟨q0,q1⟩:=two_cells hm2.q
 obtain ⟨⟨t0,t1,t2⟩,-⟩:=Ru.three hn2
 have HW1:=hid_of hW1
 have HM2:=hid_of hm2
 have HS2:=hid_of hs2
 have HN2:=hid_of hn2
 clear hW1 hb2 hm2 hs2 hn2 HM1 HS1
 go_upto_region 4 with fail
 rw [← HW1.out]
 clear HW1
 have HSn:Hid (∀ W',Below W1.heap.size W1 W'→SnAt W' (oneS n) (.agg #[.int .i64 2,.slice ua 1 uc,.int .u64 0])):=fun W' hb=>HS2.out.below hb
 go_wp2_with (first | (go_at_call 284;(with_reducible refine Calls.mono (HFd.out _ _ (HSn.out _ (Below.refl _ _))) ?_)))
 rintro e w2 ⟨lb,ld,ca,cc,rfl,hb2⟩
 obtain ⟨W2,hW2⟩:∃ W2,W2=w2.alloc (.cells #[.int .i64 1,.string ⟨#[99]⟩,.string ⟨#[]⟩,.slice lb 0 ld,.int .i64 0,.int .u64 (n:Int),.slice ca 0 cc,.int .u64 0,.float .f64 0,.float .f64 0,.float .f64 0] 86):=⟨_,rfl⟩
 have hb3:Below w2.heap.size w2 W2:=by rw [hW2];exact bel1 w2 _
 have hn3:W2.heap[w2.heap.size]? =some (.cells #[.int .i64 1,.string ⟨#[99]⟩,.string ⟨#[]⟩,.slice lb 0 ld,.int .i64 0,.int .u64 (n:Int),.slice ca 0 cc,.int .u64 0,.float .f64 0,.float .f64 0,.float .f64 0] 86):=by rw [hW2];exact new_1 w2 _
 have hm3:=HM2.out.below (bt hb2 hb3)
 have hs3:=hx_at HN2.out (bt hb2 hb3)
 obtain ⟨y0,y1,y2,y3,y4,y5,y6,y7⟩:=Ru.eight hm3.m
 obtain ⟨⟨t0,t1,t2⟩,-⟩:=Ru.three hs3
 obtain ⟨⟨z0,z1,z2,z3,z4,z5,z6,z7,z8,z9,z10⟩,-⟩:=eleven hn3
 have HM3:=hid_of hm3
 have HW2:=hid_of hW2
 clear hW2 hb2 hb3 hn3 hm3 hs3 HM2 HS2 HN2 HSn HFd q0 q1
 go_upto_region 7 with fail
 rw [← HW2.out]
 clear HW2
 go_wp2_with (first | (go_at_call 285;(with_reducible refine Calls.mono (HAs.out _) ?_);rintro e w9 ⟨rfl,hw9⟩;subst w9))
 refine Calls.mono (HTo.out _ _ _ _ _ _ _) ?_
 rintro e w3 ⟨rfl,hb3⟩
 have HM4:=hid_of (HM3.out.below hb3)
 clear HM3 hb3 HTo HAs y0 y1 y2 y3 y4 y5 y6 y7 t0 t1 t2 z0 z1 z2 z3 z4 z5 z6 z7 z8 z9 z10
 go_wp2_with fail
 refine Calls.mono (HNu.out _ _) ?_
 rintro e w4 ⟨rfl,hb4⟩
 have hm5:=HM4.out.below hb4
 obtain ⟨⟨z0,z1,z2⟩,zf⟩:=Ru.three hm5.a
 obtain ⟨W9,hW9⟩:∃ W9,W9=Ru.put3 w4 (w.heap.size+2) (.bool false) (.bool false) (.float .f64 xf):=⟨_,rfl⟩
 have HW9:=hid_of hW9
 have HH:Hid (W9.heap[w.heap.size+2]? =some (.cells #[.bool false,.bool false,.float .f64 xf] 97)):=by show _=_;rw [hW9];exact Ru.put3_heap hm5.a _ _ _
 have HB:Hid (Below w.heap.size w W9):=by show Below _ _ _;rw [hW9];exact Ru.put3_bel hm5.b (by omega) _ _ _
 clear hW9 hm5 hb4 HM4 HNu
 go_wp2_with fail
 obtain rfl:=HW9.out
 refine bodyPost_ret (Ru.results_ct rfl _ _ (w.heap.size+2) 97 _ (0,0) _ rfl HH.out Tryz.underlying97 rfl (by kernel_rfl)) rfl ?_
 exact ⟨rfl,HB.out⟩
end Go.Proofs.YtlgkfeeclgcgbaaGreatDoor.Ri
/- ALARM: the law's one; a window of one snapshot (one23_any printed by gen_al.py out of ring's IQ). Own work of the verifier. -/
set_option maxHeartbeats 1000000
namespace Go.Proofs.YtlgkfeeclgcgbaaGreatDoor.Ri
open Go.RowKit Me
theorem one23_any (n:Nat) (h:n < 9223372036854775808) (w:World) :
  Calls Tryz.prog 12 #[.int .u64 (n:Int)] w fun e w'=>∃ v,e=.returned v∧SnAt w' (oneS n) v∧Below w.heap.size w w':=by
 have hhi:hiOf (n:Int)=0:=by unfold hiOf;omega
 have hlo:loOf (n:Int)=(n:Int):=by unfold loOf;omega
 have sF:=store_f
 have HH:=hid_of (⟨hhi,hlo⟩:_∧_)
 clear hhi hlo
 go_enter Tryz.func12,Tryz.ntmps12
 go_wp2_with fail
 simp [bodyPost,results,Tryz.results12,go_sem]
 refine ⟨?_,bel2 w _ _⟩
 generalize ho:(Obj.cells #[Value.int .i64 2,Value.slice (some ⟨w.heap.size+1,0,none⟩) 1 1,Value.int .u64 0] 50)=o1
 have hh:((w.alloc o1).alloc (.cells #[.int .i64 1,.string ⟨#[99]⟩,.string ⟨#[]⟩,.slice none 0 0,.int .i64 0,.int .u64 (n:Int),.slice none 0 0,.int .u64 0,.float .f64 0,.float .f64 0,.float .f64 0] 86)).heap[w.heap.size+1]? =some (.cells #[.int .i64 1,.string ⟨#[99]⟩,.string ⟨#[]⟩,.slice none 0 0,.int .i64 0,.int .u64 (n:Int),.slice none 0 0,.int .u64 0,.float .f64 0,.float .f64 0,.float .f64 0] 86 (0,0)):=by
  have:=new_1 (w.alloc o1) (.cells #[.int .i64 1,.string ⟨#[99]⟩,.string ⟨#[]⟩,.slice none 0 0,.int .i64 0,.int .u64 (n:Int),.slice none 0 0,.int .u64 0,.float .f64 0,.float .f64 0,.float .f64 0] 86)
  rw [show (w.alloc o1).heap.size=w.heap.size+1 by simp] at this
  exact this
 obtain ⟨k0,k1,k2,k3,k4,k5,k6,k7,k8,k9,k10⟩:=eleven_cells (hid_of hh)
 refine ⟨_,rfl,Or.inr ⟨w.heap.size+1,0,1,rfl,by show 1≤1;omega,by omega,fun i hi=>?_⟩⟩
 have hi0:i=0:=by have:i < 1:=hi;omega
 subst hi0
 refine ⟨.slice none 0 0,.slice none 0 0,⟨k0,k1,k2,k3,?_,?_,k6,k7,k8,k9,k10⟩,Or.inl ⟨rfl,rfl⟩,Or.inl ⟨rfl,rfl⟩⟩
 ·rw [show hiOf ((oneS n).vs[0]).t=0 from HH.out.1];exact k4
 ·rw [show loOf ((oneS n).vs[0]).t=(n:Int) from HH.out.2];exact k5
theorem win_one (B b:Nat) (m:Nat) (hm:m < 1000) (tv sv u:Value) (t fr tO:Int) (w:World) (hg:Rg B b 2 [t] [(oneS m,u)] 0 tv sv w) (hBw:B≤w.heap.size) (h1:fr < t) (h2:t≤tO) :
  Calls Tryz.prog 283 #[.pointer (some ⟨b,0,none⟩),.int .i64 fr,.int .i64 tO] w fun e w'=>WnN m w e w':=by
 have e0:inW [t] 0 1 fr tO 0=true:=by
  show (decide (fr < t) && decide (t≤tO))=true
  rw [decide_eq_true h1,decide_eq_true h2]
  rfl
 have hL:wL [t] [(oneS m,u)] 0 fr tO=[(oneS m,u)]:=by
  show (([0]:List Nat).filter (inW [t] 0 1 fr tO)).map _=_
  rw [List.filter_cons,if_pos e0,List.filter_nil]
  simp [plc,List.getD]
 refine (window_any B b 2 0 [t] _ tv sv fr tO w hg hBw (fun r hr=>?_) (fun j h1 h2 _=>?_)).mono ?_
 ·rw [List.mem_singleton] at hr
  subst hr
  exact one_fit m (by omega)
 ·rw [hL] at h2 ⊢
  have:j=1:=by have:j≤1:=h2;omega
  subst this
  exact one_W m (by omega)
 ·rintro e w' ⟨hb,hq⟩
  rw [hL] at hq
  rcases hq with ⟨h,-⟩ | ⟨-,-,u',rfl,ho⟩ | ⟨j,hj,-,h,-⟩
  ·cases h
  ·obtain ⟨ua,uc,hu⟩:=ho.form
   have hu':u'=.slice ua 1 uc:=hu
   subst hu'
   exact ⟨ua,uc,_,rfl,ho.at_ hb.size,hb⟩
  ·have:j=0:=by have:j < 1:=hj;omega
   subst this
   exact absurd rfl h
end Go.Proofs.YtlgkfeeclgcgbaaGreatDoor.Ri
/- ALARM: Eval over the law's ring; what a step leaves of the ring. Own work of the verifier. -/
namespace Go.Proofs.YtlgkfeeclgcgbaaGreatDoor.Ri
open Go.RowKit Me
theorem own_chg {W W1:World} {S:Nat→Prop} {B s n:Nat} {e:TypeId} {v:Value} {xs:List Value} (h:W.ownsRow B e s v n xs) (k:Chg S W W1) (hS:∀ p,S p→∃ cs t z,W.heap[p]? =some (.cells cs t z)∧e≠t):W1.ownsRow B e s v n xs:=by
 refine ⟨h.1,?_⟩
 rcases h.2 with h1 | ⟨g,cap,cur,hv,hb,hg,r⟩
 ·exact Or.inl h1
 ·refine Or.inr ⟨g,cap,cur,hv,hb,?_,r⟩
  rw [k.block g (Array.getElem?_eq_some_iff.1 hg).1 (fun hs=>?_)]
  ·exact hg
  ·obtain ⟨cs,t,z,h1,h2⟩:=hS g hs
   rw [hg] at h1
   injection h1 with h1
   injection h1 with _ h1
   exact h2 h1
def NoRing (W:World) (S:Nat→Prop):Prop:=∀ p,S p→∃ cs t z,W.heap[p]? =some (.cells cs t z)∧t≠72∧t≠2∧t≠50∧t≠86∧t≠152∧t≠174
theorem Rg.chg {B b n k:Nat} {T:List Int} {R:List Rs} {tv sv:Value} {W W1:World} {S:Nat→Prop} (h:Rg B b n T R k tv sv W) (c:Chg S W W1) (hS:NoRing W S):Rg B b n T R k tv sv W1:=by
 refine ⟨?_,own_chg h.ti c (fun p hp=>?_),own_chg h.sn c (fun p hp=>?_),fun r hr=>(h.el r hr).chg c (fun p hp=>?_),h.hl,h.hn,h.hm,h.hk,h.hB⟩
 ·rw [c.block b h.lt (fun hs=>?_)]
  ·exact h.hd
  ·obtain ⟨cs,t,z,h1,h2,-⟩:=hS b hs
   rw [h.hd] at h1
   injection h1 with h1
   injection h1 with _ h1
   exact h2 h1.symm
 ·obtain ⟨cs,t,z,h1,-,h2,-⟩:=hS p hp
  exact ⟨cs,t,z,h1,fun e=>h2 e.symm⟩
 ·obtain ⟨cs,t,z,h1,-,-,h2,-⟩:=hS p hp
  exact ⟨cs,t,z,h1,fun e=>h2 e.symm⟩
 ·obtain ⟨cs,t,z,h1,-,-,-,h2,h3,h4⟩:=hS p hp
  exact ⟨cs,t,z,h1,h2,h3,h4⟩
theorem eval_at (r:Nat) (u tv sv v:Value) (now:Int) (h0:10≤now) (h1:now≤1000) (w:World) (hg:Rg r r 2 [10] [(oneS 5,u)] 0 tv sv w) (hv:Ru.RV 0 w Ru.rl4 v) (hk:Ru.Kd w) :
  Calls Tryz.prog 29 #[.pointer (some ⟨r,0,none⟩),.int .i64 now,v] w fun e w'=>e=.returned (.tuple #[.agg #[.bool true,.bool true,.float .f64 0],.int .i64 0])∧Below w.heap.size w w' :=
 Ru.eval_w 1000 Ru.ck4 Ru.sz4 (some ⟨r,0,none⟩) now (by omega) (by omega) (Wi.fbits ((5:Nat):Int)) true (fun W=>by rw [show Wi.fbits ((5:Nat):Int)=4617315517961601024 by decide +kernel];exact Ru.stands_5 W) v w hv hk (fun la lc aa ac h2 h3 W hb=>measure_work 5 (by decide) 1000 now (by rw [IntKind.wrap_i64];omega) (some ⟨r,0,none⟩) la lc aa ac ⟨h2,h3⟩ W (fun W' hb'=>win_one r r 5 (by decide) tv sv u 10 (now - 1000) now W' (hg.below (bt hb hb')) (Nat.le_of_lt (hg.below (bt hb hb')).lt) (by omega) h0))
end Go.Proofs.YtlgkfeeclgcgbaaGreatDoor.Ri
/- ALARM: the law's told; Eval over a ring of one snapshot. Own work of the verifier. -/
namespace Go.Proofs.YtlgkfeeclgcgbaaGreatDoor.Ri
open Go.RowKit Me
theorem push_e1 (b:Nat) (tm:Int) (m:Nat) (v:Value) (w:World) (hm:m < 9223372036854775808) (hg:Rg b b 1 [] [] 0 (.slice none 0 0) (.slice none 0 0) w) (hv:SnAt w (oneS m) v) :
  Calls Tryz.prog 11 #[.pointer (some ⟨b,0,none⟩),.int .i64 tm,v] w fun e w'=>e=.returned (.int .i64 0)∧∃ u tv' sv',Rg b b 1 [tm] [(oneS m,u)] 0 tv' sv' w'∧La.Ex b w w':=by
 refine (push_fr (La.Ex b) b b 1 0 [] [] _ _ tm 2 (oneV m) 0 v w [tm] (fun u=>[(oneS m,u)]) 0 hg (Nat.le_of_lt hg.lt) (fun q hq=>by cases hq) hv (one_chkS m) (one_W m hm) ⟨by show 0≤_;omega,by show 0≤_;omega⟩ (Or.inl rfl) (fun W u h1 h2 h3=>lay_nil b b 1 [] [] _ _ tm (oneS m) u W h1 h2 (by decide) h3 rfl rfl)).mono ?_
 rintro e w' ⟨rfl,u,tv',sv',W0,h1,h2,h3⟩
 exact ⟨rfl,u,tv',sv',h1,(La.Ex.of h2).trans h3⟩
theorem told_al (tm:Int) (m:Nat) (hm:m < 1000) (w:World) :
  Calls Tryz.prog 6 #[.int .i64 tm,.int .u64 (m:Int)] w fun e w'=>∃ r u tv sv,e=.returned (.pointer (some ⟨r,0,none⟩))∧Hid (w.heap.size≤r∧Rg r r 1 [tm] [(oneS m,u)] 0 tv sv w'∧Below w.heap.size w w'):=by
 have HN:Hid (Calls Tryz.prog 10 #[.int .i64 1] w fun e w'=>e=.returned (.tuple #[.pointer (some ⟨w.heap.size,0,none⟩),.int .i64 0])∧w'=w.alloc (.cells #[.int .i64 1,.slice none 0 0,.slice none 0 0,.int .i64 0] 72)):=Ri.rnew_any 1 (by omega) (by omega) w
 obtain ⟨W1,hW1⟩:∃ W1,W1=w.alloc (.cells #[.int .i64 1,.slice none 0 0,.slice none 0 0,.int .i64 0] 72):=⟨_,rfl⟩
 have hg1:Ri.Rg w.heap.size w.heap.size 1 [] [] 0 (.slice none 0 0) (.slice none 0 0) W1:=by rw [hW1];exact Ri.Rg.new w 1 (by omega) (by omega)
 have hb1:Below w.heap.size w W1:=by rw [hW1];exact bel1 _ _
 have HO:Hid (∀ W,Calls Tryz.prog 12 #[.int .u64 (m:Int)] W fun e w'=>∃ v,e=.returned v∧SnAt w' (oneS m) v∧Below W.heap.size W w'):=fun W=>Ri.one23_any m (by omega) W
 have HG1:=hid_of hg1
 have HB1:=hid_of hb1
 have HW1:=hid_of hW1
 have HM:=hid_of hm
 clear hW1 hg1 hb1 hm
 go_enter Tryz.func6,Tryz.ntmps6
 go_wp2_with fail
 refine Calls.mono HN.out ?_
 rintro e w1 ⟨rfl,hw1⟩
 rw [← HW1.out] at hw1
 subst hw1
 clear HN HW1
 go_wp2_with fail
 refine Calls.mono (HO.out _) ?_
 rintro e w4 ⟨v,rfl,hv,hb4⟩
 have HP:Hid (Calls Tryz.prog 11 #[.pointer (some ⟨w.heap.size,0,none⟩),.int .i64 tm,v] w4 fun e w'=>e=.returned (.int .i64 0)∧∃ u tv sv,Rg w.heap.size w.heap.size 1 [tm] [(oneS m,u)] 0 tv sv w'∧Below w.heap.size w w'):=(Ri.push_e1 w.heap.size tm m v w4 (by have:=HM.out;omega) (HG1.out.below hb4) hv).mono (by
  rintro e w5 ⟨rfl,u,tv,sv,h1,h2⟩
  exact ⟨rfl,u,tv,sv,h1,(bt HB1.out hb4).trans (h2.below (B:=w.heap.size) (Nat.le_refl _) (bt HB1.out hb4).size)⟩)
 clear hv hb4 HG1 HB1 HO HM
 go_wp2_with fail
 refine Calls.mono HP.out ?_
 rintro e w5 ⟨rfl,u,tv,sv,h5,h6⟩
 have H5:=hid_of h5
 have H6:=hid_of h6
 clear h5 h6 HP
 go_wp2_with fail
 go_ret
 exact ⟨_,u,tv,sv,rfl,Nat.le_refl _,H5.out,H6.out⟩
theorem win_one1 (B b:Nat) (m:Nat) (hm:m < 1000) (tv sv u:Value) (t fr tO:Int) (w:World) (hg:Rg B b 1 [t] [(oneS m,u)] 0 tv sv w) (hBw:B≤w.heap.size) (h1:fr < t) (h2:t≤tO) :
  Calls Tryz.prog 283 #[.pointer (some ⟨b,0,none⟩),.int .i64 fr,.int .i64 tO] w fun e w'=>WnN m w e w':=by
 have e0:inW [t] 0 1 fr tO 0=true:=by
  show (decide (fr < t) && decide (t≤tO))=true
  rw [decide_eq_true h1,decide_eq_true h2]
  rfl
 have hL:wL [t] [(oneS m,u)] 0 fr tO=[(oneS m,u)]:=by
  show (([0]:List Nat).filter (inW [t] 0 1 fr tO)).map _=_
  rw [List.filter_cons,if_pos e0,List.filter_nil]
  simp [plc,List.getD]
 refine (window_any B b 1 0 [t] _ tv sv fr tO w hg hBw (fun r hr=>?_) (fun j h1 h2 _=>?_)).mono ?_
 ·rw [List.mem_singleton] at hr
  subst hr
  exact one_fit m (by omega)
 ·rw [hL] at h2 ⊢
  have:j=1:=by have:j≤1:=h2;omega
  subst this
  exact one_W m (by omega)
 ·rintro e w' ⟨hb,hq⟩
  rw [hL] at hq
  rcases hq with ⟨h,-⟩ | ⟨-,-,u',rfl,ho⟩ | ⟨j,hj,-,h,-⟩
  ·cases h
  ·obtain ⟨ua,uc,hu⟩:=ho.form
   have hu':u'=.slice ua 1 uc:=hu
   subst hu'
   exact ⟨ua,uc,_,rfl,ho.at_ hb.size,hb⟩
  ·have:j=0:=by have:j < 1:=hj;omega
   subst this
   exact absurd rfl h
def nOf (h:Bool):Nat:=if h=true then 5 else 3
theorem eval_1 (h:Bool) (r:Nat) (u tv sv v:Value) (now:Int) (h0:-4611686018427387904≤now) (h1:now≤4611686018427387904) (w:World) (hg:Rg r r 1 [now] [(oneS (nOf h),u)] 0 tv sv w) (hv:Ru.RV 0 w (Ru.rlW Ru.W62) v) (hk:Ru.Kd w) :
  Calls Tryz.prog 29 #[.pointer (some ⟨r,0,none⟩),.int .i64 now,v] w fun e w'=>e=.returned (.tuple #[.agg #[.bool true,.bool h,.float .f64 0],.int .i64 0])∧Below w.heap.size w w':=by
 have hn:nOf h < 1000:=by unfold nOf;split <;> decide
 refine Ru.eval_w Ru.W62 Ru.ckW Ru.szW (some ⟨r,0,none⟩) now h0 h1 (Wi.fbits ((nOf h:Nat):Int)) h (fun W=>?_) v w hv hk (fun la lc aa ac h2 h3 W hb=>measure_work (nOf h) hn Ru.W62 now (by show IntKind.i64.wrap (now - 4611686018427387904)=now - 4611686018427387904;rw [IntKind.wrap_i64];omega) (some ⟨r,0,none⟩) la lc aa ac ⟨h2,h3⟩ W (fun W' hb'=>win_one1 r r (nOf h) hn tv sv u now (now - Ru.W62) now W' (hg.below (bt hb hb')) (Nat.le_of_lt (hg.below (bt hb hb')).lt) (by show now - 4611686018427387904 < now;omega) (Int.le_refl _)))
 cases h
 ·rw [show Wi.fbits ((nOf false:Nat):Int)=4613937818241073152 by decide +kernel]
  exact Ru.stands_3 W
 ·rw [show Wi.fbits ((nOf true:Nat):Int)=4617315517961601024 by decide +kernel]
  exact Ru.stands_5 W
end Go.Proofs.YtlgkfeeclgcgbaaGreatDoor.Ri
