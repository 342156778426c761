/- ALARM: an alarm's step out of Ringing, out of Fading (printed by gen_bc.py). Own work of the verifier. -/
import Derived.Test.YtlgkfeeclgcgbaaGreatDoorZBO
import Derived.Test.YtlgkfeeclgcgbaaGreatDoorZAO
import Derived.Test.YtlgkfeeclgcgbaaGreatDoorZAR
import Derived.Deep.AppendLies
set_option maxRecDepth 100000
set_option maxHeartbeats 4000000
namespace Go.Proofs.YtlgkfeeclgcgbaaGreatDoor.Al
open Go.RowKit Go.Sort Me
theorem index_3 (W:World):(Instr.index 101 (.agg #[.nilFunc,.func (.func 45) #[] #[],.func (.func 46) #[] #[],.func (.func 47) #[] #[],.func (.func 48) #[] #[]]) (.int .i64 3)).run Tryz.prog W=.ok (.func (.func 47) #[] #[]) W:=by
 have hs:(sizeOf 100).run Tryz.prog W=.ok 1 W:=by simp [sizeOf];rfl
 have ha:(isAgg 100).run Tryz.prog W=.ok false W:=by
  unfold isAgg
  rw [Sem.run_bind,run_underlying Tryz.underlying100 W]
  rfl
 simp [Instr.index,run_underlying Tryz.underlying101,asIntOf,part,Sem.run_bind,hs,go_sem]
theorem index_4 (W:World):(Instr.index 101 (.agg #[.nilFunc,.func (.func 45) #[] #[],.func (.func 46) #[] #[],.func (.func 47) #[] #[],.func (.func 48) #[] #[]]) (.int .i64 4)).run Tryz.prog W=.ok (.func (.func 48) #[] #[]) W:=by
 have hs:(sizeOf 100).run Tryz.prog W=.ok 1 W:=by simp [sizeOf];rfl
 have ha:(isAgg 100).run Tryz.prog W=.ok false W:=by
  unfold isAgg
  rw [Sem.run_bind,run_underlying Tryz.underlying100 W]
  rfl
 simp [Instr.index,run_underlying Tryz.underlying101,asIntOf,part,Sem.run_bind,hs,go_sem]
theorem step_ring (g:Nat) (rp:Option Addr) (nm:List UInt8) (k:Int) (x:Nat) (rn:List UInt8) (la:Option Addr) (ln lc:Nat) (wi n d:Int) (aa:Option Addr) (an ac:Nat) (wait keep si e0 now:Int) (h:Bool) (rest:Array Value) (z s9:Int) (hz9:z=riF h keep) (hs9:s9=if z=3 then si else now) (w:World)
  (hn:w.heap[g]? =some (.cells (alC nm k x rn (.slice la ln lc) wi n d (.slice aa an ac) wait keep 3 si e0++rest) 63))
  (hE:Calls Tryz.prog 29 #[.pointer rp,.int .i64 now,Ru.rx k x rn (.slice la ln lc) wi n d (.slice aa an ac)] w fun e w'=>e=.returned (.tuple #[.agg #[.bool true,.bool h,.float .f64 0],.int .i64 0])∧Below w.heap.size w w') :
  Calls Tryz.prog 14 #[.pointer (some ⟨g,0,none⟩),.pointer rp,.int .i64 now] w fun e w'=>e=.returned (.tuple #[])∧La.Ex g w w'∧w'.heap[g]? =some (.cells (alC nm k x rn (.slice la ln lc) wi n d (.slice aa an ac) wait keep z s9 0++rest) 63):=by
 have HE:=hid_of hE
 have HN:=hid_of hn
 have HWy:Hid (∀ W,Calls Tryz.prog 30 #[] W fun e w'=>e=.returned (.agg #[.nilFunc,.func (.func 45) #[] #[],.func (.func 46) #[] #[],.func (.func 47) #[] #[],.func (.func 48) #[] #[]])∧Below W.heap.size W w'):=fun W=>ways_any W
 have HFn:Hid (∀ W,Calls Tryz.prog 47 #[.agg (alC nm k x rn (.slice la ln lc) wi n d (.slice aa an ac) wait keep 3 si 0),.bool h,.int .i64 now] W fun e w'=>e=.returned (.int .i64 z)∧Below W.heap.size W w'):=fun W=>by rw [hz9];exact fromRinging_any nm k x rn la ln lc wi n d aa an ac wait keep 3 si 0 now h W
 have sF:=Ru.store_f
 have hix:=index_3
 have HS9:=hid_of hs9
 clear hE hn hz9 hs9
 obtain ⟨c0,c1,c2,c3,c4,c5,c6,c7,c8,c9,c10,c11,c12,c13⟩:=fourteen' HN.out
 go_enter Tryz.func14,Tryz.ntmps14
 go_wp2_with fail
 refine Calls.mono HE.out ?_
 rintro e w1 ⟨rfl,hb1⟩
 obtain ⟨W1,hW1⟩:∃ W1,W1=w1.alloc (.cells #[.bool true,.bool h,.float .f64 0] 97):=⟨_,rfl⟩
 have hb2:Below w1.heap.size w1 W1:=by rw [hW1];exact bel1 w1 _
 have HB1:=hid_of (bt hb1 hb2)
 have HN1:=hid_of (Ru.h_at (Ru.h_at HN.out hb1) hb2)
 have HA1:Hid (W1.heap[w1.heap.size]? =some (.cells #[.bool true,.bool h,.float .f64 0] 97)):=by show _=_;rw [hW1];exact new_1 w1 _
 have hlt:g < w1.heap.size:=Nat.lt_of_lt_of_le (Array.getElem?_eq_some_iff.1 HN.out).1 hb1.size
 have HW1:=hid_of hW1
 clear hb1 hb2 HE hW1 c0 c1 c2 c3 c4 c5 c6 c7 c8 c9 c10 c11 c12 c13
 go_upto_region 1 with fail
 rw [← HW1.out]
 clear HW1
 generalize w1.heap.size=ga at *
 obtain ⟨c0,c1,c2,c3,c4,c5,c6,c7,c8,c9,c10,c11,c12,c13⟩:=fourteen' HN1.out
 have cf:=Ru.eight_f HN1.out
 go_upto_region 2 with fail
 have hX1:La.Ex g w (W1.setCell ⟨g,13,none⟩ (.int .i64 0)):=(La.Ex.of HB1.out).set 13 _
 have hN2:=Lib.heap_setCell_same (i:=13) HN1.out (.int .i64 0)
 have hA2:(W1.setCell ⟨g,13,none⟩ (.int .i64 0)).heap[ga]? =some (.cells #[.bool true,.bool h,.float .f64 0] 97):=by
  rw [heap_other _ _ _ _ (by show ga≠g;omega)]
  exact HA1.out
 clear c0 c1 c2 c3 c4 c5 c6 c7 c8 c9 c10 c11 c12 c13 cf
 generalize W1.setCell ⟨g,13,none⟩ (.int .i64 0)=W2 at *
 have HX1:=hid_of hX1
 have HN2:Hid (W2.heap[g]? =some (.cells (alC nm k x rn (.slice la ln lc) wi n d (.slice aa an ac) wait keep 3 si 0++rest) 63)):=by rw [set13] at hN2;exact hN2
 have HA2:=hid_of hA2
 clear hX1 hN2 hA2 HN HN1 HA1 HB1
 have HKp:Hid (∀ W1,Below W2.heap.size W2 W1→(fun W=>a14 g nm k x rn (.slice la ln lc) wi n d (.slice aa an ac) wait keep 3 si 0 W∧a3 ga h W) W1):=fun W1 hb=>⟨fourteen' (Ru.h_at HN2.out hb),(Ru.three (Ru.h_at HA2.out hb)).1⟩
 have HFin:Hid (∀ W9,Below W2.heap.size W2 W9→La.Ex g w W9∧W9.heap[g]? =some (.cells (alC nm k x rn (.slice la ln lc) wi n d (.slice aa an ac) wait keep 3 si 0++rest) 63)):=fun W9 hb=>⟨HX1.out.trans (La.Ex.of hb),Ru.h_at HN2.out hb⟩
 clear HX1 HN2 HA2 hlt
 go_region_held3 (fun W=>a14 g nm k x rn (.slice la ln lc) wi n d (.slice aa an ac) wait keep 3 si 0 W∧a3 ga h W)
  (((with_reducible refine HKp.out _ ?_);repeat (first | with_reducible exact hB9 | with_reducible exact Below.refl _ _ | with_reducible refine belD' ?_ | with_reducible refine belN' _ ?_)))
  (first
   | (go_at_call 30;(with_reducible refine Calls.mono (HWy.out _) ?_);rintro e w9 ⟨rfl,hb9⟩;have hB9:Below W2.heap.size W2 w9:=bt (by repeat (first | with_reducible exact hB9 | with_reducible exact Below.refl _ _ | with_reducible refine belD' ?_ | with_reducible refine belN' _ ?_)) hb9)
   | (go_at_call 47;(with_reducible refine Calls.mono (HFn.out _) ?_);rintro e w9 ⟨rfl,hb9⟩;have hB9:Below W2.heap.size W2 w9:=bt (by repeat (first | with_reducible exact hB9 | with_reducible exact Below.refl _ _ | with_reducible refine belD' ?_ | with_reducible refine belN' _ ?_)) hb9))
 all_goals
  obtain ⟨hX9,hN9⟩:=HFin.out _ hB9
  obtain ⟨c0,c1,c2,c3,c4,c5,c6,c7,c8,c9,c10,c11,c12,c13⟩:=fourteen' hN9
  have HX9:=hid_of hX9
  have HN9:=hid_of hN9
  have cf:=Ru.eight_f hN9
  clear HWy HFn HKp HFin hX9 hN9 hB9
  by_cases hz:z=3
  ·have hs:s9=si:=by rw [HS9.out,if_pos hz]
   have hz':(z != 3)=false:=by rw [hz];rfl
   have HZ:=hid_of hz
   subst hs
   clear HS9 hz
   go_wp2_with fail
   refine bodyPost_end (results_none rfl _ _ _) rfl ?_
   exact ⟨rfl,HX9.out,by rw [HN9.out,HZ.out]⟩
  ·have hz':(z != 3)=true:=by rw [bne_iff_ne];exact hz
   have HZ:Hid (s9=now):=by show _=_;rw [HS9.out,if_neg hz]
   clear hz HS9
   go_wp2_with fail
   refine bodyPost_end (results_none rfl _ _ _) rfl ?_
   refine ⟨rfl,(HX9.out.set 11 _).set 12 _,?_⟩
   have e1:=Lib.heap_setCell_same (i:=11) HN9.out (.int .i64 z)
   rw [set11] at e1
   have e2:=Lib.heap_setCell_same (i:=12) e1 (.int .i64 now)
   rw [set12] at e2
   rw [HZ.out]
   exact e2
theorem step_fade (g:Nat) (rp:Option Addr) (nm:List UInt8) (k:Int) (x:Nat) (rn:List UInt8) (la:Option Addr) (ln lc:Nat) (wi n d:Int) (aa:Option Addr) (an ac:Nat) (wait keep si e0 now:Int) (h:Bool) (hwr:IntKind.i64.wrap (now - keep)=now - keep) (rest:Array Value) (z s9:Int) (hz9:z=faF h keep si now) (hs9:s9=if z=4 then si else now) (w:World)
  (hn:w.heap[g]? =some (.cells (alC nm k x rn (.slice la ln lc) wi n d (.slice aa an ac) wait keep 4 si e0++rest) 63))
  (hE:Calls Tryz.prog 29 #[.pointer rp,.int .i64 now,Ru.rx k x rn (.slice la ln lc) wi n d (.slice aa an ac)] w fun e w'=>e=.returned (.tuple #[.agg #[.bool true,.bool h,.float .f64 0],.int .i64 0])∧Below w.heap.size w w') :
  Calls Tryz.prog 14 #[.pointer (some ⟨g,0,none⟩),.pointer rp,.int .i64 now] w fun e w'=>e=.returned (.tuple #[])∧La.Ex g w w'∧w'.heap[g]? =some (.cells (alC nm k x rn (.slice la ln lc) wi n d (.slice aa an ac) wait keep z s9 0++rest) 63):=by
 have HE:=hid_of hE
 have HN:=hid_of hn
 have HWy:Hid (∀ W,Calls Tryz.prog 30 #[] W fun e w'=>e=.returned (.agg #[.nilFunc,.func (.func 45) #[] #[],.func (.func 46) #[] #[],.func (.func 47) #[] #[],.func (.func 48) #[] #[]])∧Below W.heap.size W w'):=fun W=>ways_any W
 have HFn:Hid (∀ W,Calls Tryz.prog 48 #[.agg (alC nm k x rn (.slice la ln lc) wi n d (.slice aa an ac) wait keep 4 si 0),.bool h,.int .i64 now] W fun e w'=>e=.returned (.int .i64 z)∧Below W.heap.size W w'):=fun W=>by rw [hz9];exact fromFading_any nm k x rn la ln lc wi n d aa an ac wait keep 4 si 0 now hwr h W
 have sF:=Ru.store_f
 have hix:=index_4
 have HS9:=hid_of hs9
 clear hE hn hz9 hs9
 obtain ⟨c0,c1,c2,c3,c4,c5,c6,c7,c8,c9,c10,c11,c12,c13⟩:=fourteen' HN.out
 go_enter Tryz.func14,Tryz.ntmps14
 go_wp2_with fail
 refine Calls.mono HE.out ?_
 rintro e w1 ⟨rfl,hb1⟩
 obtain ⟨W1,hW1⟩:∃ W1,W1=w1.alloc (.cells #[.bool true,.bool h,.float .f64 0] 97):=⟨_,rfl⟩
 have hb2:Below w1.heap.size w1 W1:=by rw [hW1];exact bel1 w1 _
 have HB1:=hid_of (bt hb1 hb2)
 have HN1:=hid_of (Ru.h_at (Ru.h_at HN.out hb1) hb2)
 have HA1:Hid (W1.heap[w1.heap.size]? =some (.cells #[.bool true,.bool h,.float .f64 0] 97)):=by show _=_;rw [hW1];exact new_1 w1 _
 have hlt:g < w1.heap.size:=Nat.lt_of_lt_of_le (Array.getElem?_eq_some_iff.1 HN.out).1 hb1.size
 have HW1:=hid_of hW1
 clear hb1 hb2 HE hW1 c0 c1 c2 c3 c4 c5 c6 c7 c8 c9 c10 c11 c12 c13
 go_upto_region 1 with fail
 rw [← HW1.out]
 clear HW1
 generalize w1.heap.size=ga at *
 obtain ⟨c0,c1,c2,c3,c4,c5,c6,c7,c8,c9,c10,c11,c12,c13⟩:=fourteen' HN1.out
 have cf:=Ru.eight_f HN1.out
 go_upto_region 2 with fail
 have hX1:La.Ex g w (W1.setCell ⟨g,13,none⟩ (.int .i64 0)):=(La.Ex.of HB1.out).set 13 _
 have hN2:=Lib.heap_setCell_same (i:=13) HN1.out (.int .i64 0)
 have hA2:(W1.setCell ⟨g,13,none⟩ (.int .i64 0)).heap[ga]? =some (.cells #[.bool true,.bool h,.float .f64 0] 97):=by
  rw [heap_other _ _ _ _ (by show ga≠g;omega)]
  exact HA1.out
 clear c0 c1 c2 c3 c4 c5 c6 c7 c8 c9 c10 c11 c12 c13 cf
 generalize W1.setCell ⟨g,13,none⟩ (.int .i64 0)=W2 at *
 have HX1:=hid_of hX1
 have HN2:Hid (W2.heap[g]? =some (.cells (alC nm k x rn (.slice la ln lc) wi n d (.slice aa an ac) wait keep 4 si 0++rest) 63)):=by rw [set13] at hN2;exact hN2
 have HA2:=hid_of hA2
 clear hX1 hN2 hA2 HN HN1 HA1 HB1
 have HKp:Hid (∀ W1,Below W2.heap.size W2 W1→(fun W=>a14 g nm k x rn (.slice la ln lc) wi n d (.slice aa an ac) wait keep 4 si 0 W∧a3 ga h W) W1):=fun W1 hb=>⟨fourteen' (Ru.h_at HN2.out hb),(Ru.three (Ru.h_at HA2.out hb)).1⟩
 have HFin:Hid (∀ W9,Below W2.heap.size W2 W9→La.Ex g w W9∧W9.heap[g]? =some (.cells (alC nm k x rn (.slice la ln lc) wi n d (.slice aa an ac) wait keep 4 si 0++rest) 63)):=fun W9 hb=>⟨HX1.out.trans (La.Ex.of hb),Ru.h_at HN2.out hb⟩
 clear HX1 HN2 HA2 hlt
 go_region_held3 (fun W=>a14 g nm k x rn (.slice la ln lc) wi n d (.slice aa an ac) wait keep 4 si 0 W∧a3 ga h W)
  (((with_reducible refine HKp.out _ ?_);repeat (first | with_reducible exact hB9 | with_reducible exact Below.refl _ _ | with_reducible refine belD' ?_ | with_reducible refine belN' _ ?_)))
  (first
   | (go_at_call 30;(with_reducible refine Calls.mono (HWy.out _) ?_);rintro e w9 ⟨rfl,hb9⟩;have hB9:Below W2.heap.size W2 w9:=bt (by repeat (first | with_reducible exact hB9 | with_reducible exact Below.refl _ _ | with_reducible refine belD' ?_ | with_reducible refine belN' _ ?_)) hb9)
   | (go_at_call 48;(with_reducible refine Calls.mono (HFn.out _) ?_);rintro e w9 ⟨rfl,hb9⟩;have hB9:Below W2.heap.size W2 w9:=bt (by repeat (first | with_reducible exact hB9 | with_reducible exact Below.refl _ _ | with_reducible refine belD' ?_ | with_reducible refine belN' _ ?_)) hb9))
 all_goals
  obtain ⟨hX9,hN9⟩:=HFin.out _ hB9
  obtain ⟨c0,c1,c2,c3,c4,c5,c6,c7,c8,c9,c10,c11,c12,c13⟩:=fourteen' hN9
  have HX9:=hid_of hX9
  have HN9:=hid_of hN9
  have cf:=Ru.eight_f hN9
  clear HWy HFn HKp HFin hX9 hN9 hB9
  by_cases hz:z=4
  ·have hs:s9=si:=by rw [HS9.out,if_pos hz]
   have hz':(z != 4)=false:=by rw [hz];rfl
   have HZ:=hid_of hz
   subst hs
   clear HS9 hz
   go_wp2_with fail
   refine bodyPost_end (results_none rfl _ _ _) rfl ?_
   exact ⟨rfl,HX9.out,by rw [HN9.out,HZ.out]⟩
  ·have hz':(z != 4)=true:=by rw [bne_iff_ne];exact hz
   have HZ:Hid (s9=now):=by show _=_;rw [HS9.out,if_neg hz]
   clear hz HS9
   go_wp2_with fail
   refine bodyPost_end (results_none rfl _ _ _) rfl ?_
   refine ⟨rfl,(HX9.out.set 11 _).set 12 _,?_⟩
   have e1:=Lib.heap_setCell_same (i:=11) HN9.out (.int .i64 z)
   rw [set11] at e1
   have e2:=Lib.heap_setCell_same (i:=12) e1 (.int .i64 now)
   rw [set12] at e2
   rw [HZ.out]
   exact e2
end Go.Proofs.YtlgkfeeclgcgbaaGreatDoor.Al
/- ALARM: an alarm is made of its spec. Own work of the verifier. -/
set_option maxRecDepth 100000
set_option maxHeartbeats 4000000
namespace Go.Proofs.YtlgkfeeclgcgbaaGreatDoor.Al
open Go.RowKit Go.Sort Me
theorem while_any (n:Int) (h0:0≤n) (h1:n≤4611686018427387904) (w:World):Calls Tryz.prog 27 #[.int .i64 n] w fun e w'=>e=.returned (.bool true)∧w'=w:=by
 have a:decide (n ≥ 0)=true:=by simpa using h0
 have b:decide (n≤4611686018427387904)=true:=by simpa using h1
 go_enter Tryz.func27,Tryz.ntmps27
 go_wp2_with fail
 all_goals
  go_ret
  first | exact ⟨rfl,rfl⟩ | simp_all
theorem index_nil (f:Value) (w:World):Calls Tryz.prog 39 #[.slice none 0 0,f] w fun e w'=>e=.returned (.int .i64 (-1))∧w'=w:=by
 go_enter Tryz.func39,Tryz.ntmps39
 go_wp2_with fail
 refine wp_loop_once ?_
 go_wp2_with fail
 go_ret
 exact ⟨rfl,rfl⟩
theorem contains_nil (f:Value) (w:World):Calls Tryz.prog 23 #[.slice none 0 0,f] w fun e w'=>e=.returned (.bool false)∧w'=w:=by
 have HI:Hid (∀ W,Calls Tryz.prog 39 #[.slice none 0 0,f] W fun e w'=>e=.returned (.int .i64 (-1))∧w'=W):=fun W=>index_nil f W
 go_enter Tryz.func23,Tryz.ntmps23
 go_wp2_with fail
 refine Calls.mono (HI.out _) ?_
 rintro e w1 ⟨rfl,rfl⟩
 go_wp2_with fail
 go_ret
 exact ⟨rfl,rfl⟩
theorem bd_cells {W:World} {g:Nat} {x y:Value} {t:TypeId} (h:W.heap[g]? =some (.cells #[x,y] t)):W.cell? ⟨g,0,none⟩=some x∧W.cell? ⟨g,1,none⟩=some y:=by constructor <;> simp [World.cell?,h]
theorem sp_cells {W:World} {g:Nat} {x y u v:Value} {t:TypeId} (h:W.heap[g]? =some (.cells #[x,y,u,v] t)):W.cell? ⟨g,0,none⟩=some x∧W.cell? ⟨g,1,none⟩=some y∧W.cell? ⟨g,2,none⟩=some u∧W.cell? ⟨g,3,none⟩=some v:=by refine ⟨?_,?_,?_,?_⟩ <;> simp [World.cell?,h]
structure K14 (r:Nat) (a w:World):Prop where
 x:La.Ex r a w
 s:∃ cs:Array Value,cs.size=14∧w.heap[r]? =some (.cells cs 63)
theorem K14.below {r:Nat} {a w w':World} (h:K14 r a w) (hb:Below w.heap.size w w'):K14 r a w':=⟨h.x.trans (La.Ex.of hb),let ⟨cs,h1,h2⟩:=h.s;⟨cs,h1,Ru.h_at h2 hb⟩⟩
theorem K14.drew {r:Nat} {a w:World} (h:K14 r a w):K14 r a w.drew:=h.below (bel_drewB (Below.refl _ _))
theorem K14.set {r:Nat} {a w:World} (h:K14 r a w) (i:Nat) (v:Value):K14 r a (w.setCell ⟨r,i,none⟩ v):=⟨h.x.set i v,let ⟨_,h1,h2⟩:=h.s;⟨_,by rw [Array.size_setIfInBounds];exact h1,Lib.heap_setCell_same (i:=i) h2 v⟩⟩
@[irreducible] def at14 (W:World) (r i:Nat):Value:=(W.cell? ⟨r,i,none⟩).getD .nilFunc
theorem K14.at_ {r:Nat} {a w:World} (h:K14 r a w) (i:Nat) (hi:i < 14):w.cell? ⟨r,i,none⟩=some (at14 w r i):=by
 unfold at14
 obtain ⟨cs,h1,h2⟩:=h.s
 simp [World.cell?,h2,h1,hi]
theorem K14.fr {r:Nat} {a w:World} (h:K14 r a w) (i:Nat):w.frozen? ⟨r,i,none⟩=false:=by
 obtain ⟨cs,h1,h2⟩:=h.s
 simp [World.frozen?,h2]
theorem put14 {r:Nat} {a w:World} (h:K14 r a w) (v0 v1 v2 v3 v4 v5 v6 v7 v8 v9 v10 v11 v12 v13:Value):((((((((((((((w.setCell ⟨r,0,none⟩ v0).setCell ⟨r,1,none⟩ v1).setCell ⟨r,2,none⟩ v2).setCell ⟨r,3,none⟩ v3).setCell ⟨r,4,none⟩ v4).setCell ⟨r,5,none⟩ v5).setCell ⟨r,6,none⟩ v6).setCell ⟨r,7,none⟩ v7).setCell ⟨r,8,none⟩ v8).setCell ⟨r,9,none⟩ v9).setCell ⟨r,10,none⟩ v10).setCell ⟨r,11,none⟩ v11).setCell ⟨r,12,none⟩ v12).setCell ⟨r,13,none⟩ v13).heap[r]? =some (.cells #[v0,v1,v2,v3,v4,v5,v6,v7,v8,v9,v10,v11,v12,v13] 63)∧K14 r a ((((((((((((((w.setCell ⟨r,0,none⟩ v0).setCell ⟨r,1,none⟩ v1).setCell ⟨r,2,none⟩ v2).setCell ⟨r,3,none⟩ v3).setCell ⟨r,4,none⟩ v4).setCell ⟨r,5,none⟩ v5).setCell ⟨r,6,none⟩ v6).setCell ⟨r,7,none⟩ v7).setCell ⟨r,8,none⟩ v8).setCell ⟨r,9,none⟩ v9).setCell ⟨r,10,none⟩ v10).setCell ⟨r,11,none⟩ v11).setCell ⟨r,12,none⟩ v12).setCell ⟨r,13,none⟩ v13):=by
 refine ⟨?_,((((((((((((((h.set 0 _).set 1 _).set 2 _).set 3 _).set 4 _).set 5 _).set 6 _).set 7 _).set 8 _).set 9 _).set 10 _).set 11 _).set 12 _).set 13 _)⟩
 obtain ⟨cs,h1,h2⟩:=h.s
 have h3:=Lib.heap_setCell_same (i:=0) h2 v0
 have h4:=Lib.heap_setCell_same (i:=1) h3 v1
 have h5:=Lib.heap_setCell_same (i:=2) h4 v2
 have h6:=Lib.heap_setCell_same (i:=3) h5 v3
 have h7:=Lib.heap_setCell_same (i:=4) h6 v4
 have h8:=Lib.heap_setCell_same (i:=5) h7 v5
 have h9:=Lib.heap_setCell_same (i:=6) h8 v6
 have h10:=Lib.heap_setCell_same (i:=7) h9 v7
 have h11:=Lib.heap_setCell_same (i:=8) h10 v8
 have h12:=Lib.heap_setCell_same (i:=9) h11 v9
 have h13:=Lib.heap_setCell_same (i:=10) h12 v10
 have h14:=Lib.heap_setCell_same (i:=11) h13 v11
 have h15:=Lib.heap_setCell_same (i:=12) h14 v12
 have h16:=Lib.heap_setCell_same (i:=13) h15 v13
 rw [h16]
 rcases cs with ⟨l⟩
 rcases l with _ | ⟨x0,l⟩
 ·simp at h1
 rcases l with _ | ⟨x1,l⟩
 ·simp at h1
 rcases l with _ | ⟨x2,l⟩
 ·simp at h1
 rcases l with _ | ⟨x3,l⟩
 ·simp at h1
 rcases l with _ | ⟨x4,l⟩
 ·simp at h1
 rcases l with _ | ⟨x5,l⟩
 ·simp at h1
 rcases l with _ | ⟨x6,l⟩
 ·simp at h1
 rcases l with _ | ⟨x7,l⟩
 ·simp at h1
 rcases l with _ | ⟨x8,l⟩
 ·simp at h1
 rcases l with _ | ⟨x9,l⟩
 ·simp at h1
 rcases l with _ | ⟨x10,l⟩
 ·simp at h1
 rcases l with _ | ⟨x11,l⟩
 ·simp at h1
 rcases l with _ | ⟨x12,l⟩
 ·simp at h1
 rcases l with _ | ⟨x13,l⟩
 ·simp at h1
 rcases l with _ | ⟨x14,l⟩
 ·simp
 ·simp at h1
abbrev S14 (r:Nat) (W:World):Prop:=(W.cell? ⟨r,0,none⟩=some (at14 W r 0)∧W.cell? ⟨r,1,none⟩=some (at14 W r 1)∧W.cell? ⟨r,2,none⟩=some (at14 W r 2)∧W.cell? ⟨r,3,none⟩=some (at14 W r 3)∧W.cell? ⟨r,4,none⟩=some (at14 W r 4)∧W.cell? ⟨r,5,none⟩=some (at14 W r 5)∧W.cell? ⟨r,6,none⟩=some (at14 W r 6)∧W.cell? ⟨r,7,none⟩=some (at14 W r 7)∧W.cell? ⟨r,8,none⟩=some (at14 W r 8)∧W.cell? ⟨r,9,none⟩=some (at14 W r 9)∧W.cell? ⟨r,10,none⟩=some (at14 W r 10)∧W.cell? ⟨r,11,none⟩=some (at14 W r 11)∧W.cell? ⟨r,12,none⟩=some (at14 W r 12)∧W.cell? ⟨r,13,none⟩=some (at14 W r 13))∧∀ i,W.frozen? ⟨r,i,none⟩=false
theorem K14.s14 {r:Nat} {a w:World} (h:K14 r a w):S14 r w:=⟨⟨h.at_ 0 (by omega),h.at_ 1 (by omega),h.at_ 2 (by omega),h.at_ 3 (by omega),h.at_ 4 (by omega),h.at_ 5 (by omega),h.at_ 6 (by omega),h.at_ 7 (by omega),h.at_ 8 (by omega),h.at_ 9 (by omega),h.at_ 10 (by omega),h.at_ 11 (by omega),h.at_ 12 (by omega),h.at_ 13 (by omega)⟩,h.fr⟩
abbrev s4w (g:Nat) (lg kp:Int) (W:World):Prop:=W.cell? ⟨g,0,none⟩=some (.string ⟨#[120]⟩)∧W.cell? ⟨g,2,none⟩=some (.int .i64 lg)∧W.cell? ⟨g,3,none⟩=some (.int .i64 kp)
abbrev e8 (g:Nat) (k:Int) (x:Nat) (nm:List UInt8) (lv:Value) (w n d:Int) (av:Value) (W:World):Prop :=
 W.cell? ⟨g,0,none⟩=some (.int .i64 k)∧W.cell? ⟨g,1,none⟩=some (.float .f64 x)∧W.cell? ⟨g,2,none⟩=some (.string ⟨nm.toArray⟩)∧W.cell? ⟨g,3,none⟩=some lv∧W.cell? ⟨g,4,none⟩=some (.int .i64 w)∧W.cell? ⟨g,5,none⟩=some (.int .i64 n)∧W.cell? ⟨g,6,none⟩=some (.int .i64 d)∧W.cell? ⟨g,7,none⟩=some av
theorem Ex_at {r g:Nat} {a w:World} {o:Obj} (h:La.Ex r a w) (hg:g≠r) (ho:a.heap[g]? =some o):w.heap[g]? =some o:=(h.block g (Array.getElem?_eq_some_iff.1 ho).1 hg).trans ho
abbrev spG (tx:Array UInt8) (lg kp:Int):Array Value:=#[.string ⟨#[120]⟩,.string ⟨tx⟩,.int .i64 lg,.int .i64 kp]
theorem made_g (tx:Array UInt8) (t:Ru.RT) (HPa0:∀ W,Ru.Env W→Calls Tryz.prog 25 #[.string ⟨tx⟩] W fun e w'=>(∃ v,e=.returned (.tuple #[v,.int .i64 0,.int .i64 0])∧Ru.RV W.heap.size w' t v)∧Below W.heap.size W w') (HTy0:∀ v W,Ru.RV 0 W t v→Ru.Kd W→Calls Tryz.prog 26 #[v] W fun e w'=>e=.returned (.tuple #[.bool true,.int .i64 0])∧Below W.heap.size W w') (b:Nat) (l:Int) (lg kp:Int) (g0:0≤lg) (g1:lg≤4611686018427387904) (k0:0≤kp) (k1:kp≤4611686018427387904) (w:World) (he:Ru.Env w) (hb:w.heap[b]? =some (.cells #[.slice none 0 0,.int .i64 l] 56)) :
  Calls Tryz.prog 13 #[.pointer (some ⟨b,0,none⟩),.agg (spG tx lg kp)] w fun e w'=>(∃ k x rn la ln lc wi n d aa an ac,e=.returned (.tuple #[.agg (alC [120] k x rn (.slice la ln lc) wi n d (.slice aa an ac) lg kp 1 0 0),.int .i64 0])∧Ru.RV w.heap.size w' t (Ru.rx k x rn (.slice la ln lc) wi n d (.slice aa an ac)))∧Below w.heap.size w w':=by
 have HNm:Hid (∀ W,Calls Tryz.prog 22 #[.string ⟨#[120]⟩] W fun e w'=>e=.returned (.bool true)∧w'=W):=fun W=>(La.cname_any [120] (by decide) W).mono (by
  rintro e w' ⟨rfl,rfl⟩
  exact ⟨by rw [show La.nameB [120]=true by decide +kernel],rfl⟩)
 have HCt:Hid (∀ f W,Calls Tryz.prog 23 #[.slice none 0 0,f] W fun e w'=>e=.returned (.bool false)∧w'=W):=fun f W=>contains_nil f W
 have HCl:Hid (∀ W,Calls Tryz.prog 28 #[.string ⟨#[120]⟩] W fun e w'=>e=.returned (.string ⟨#[120]⟩)∧Below W.heap.size W w'):=fun W=>La.clone_any [120] (by decide) W
 have HW10:Hid (∀ W,Calls Tryz.prog 27 #[.int .i64 lg] W fun e w'=>e=.returned (.bool true)∧w'=W):=fun W=>while_any lg g0 g1 W
 have HW5:Hid (∀ W,Calls Tryz.prog 27 #[.int .i64 kp] W fun e w'=>e=.returned (.bool true)∧w'=W):=fun W=>while_any kp k0 k1 W
 obtain ⟨W0,hW0⟩:∃ W0,W0=(w.alloc (.cells (spG tx lg kp) 29)).alloc (.cells #[.string ⟨#[]⟩,.int .i64 0,.float .f64 0,.string ⟨#[]⟩,.slice none 0 0,.int .i64 0,.int .i64 0,.int .i64 0,.slice none 0 0,.int .i64 0,.int .i64 0,.int .i64 0,.int .i64 0,.int .i64 0] 63):=⟨_,rfl⟩
 have hb0:Below w.heap.size w W0:=by rw [hW0];exact La.bel2 w _ _
 have hn0:W0.heap[w.heap.size]? =some (.cells (spG tx lg kp) 29):=by rw [hW0];exact ((bel1 _ _).block _ (by simp)).trans (new_1 w _)
 have hB0:W0.heap[b]? =some (.cells #[.slice none 0 0,.int .i64 l] 56):=Ru.h_at hb hb0
 have HPa:Hid (Calls Tryz.prog 25 #[.string ⟨tx⟩] W0 fun e w'=>(∃ v,e=.returned (.tuple #[v,.int .i64 0,.int .i64 0])∧Ru.RV W0.heap.size w' t v)∧Below W0.heap.size W0 w'):=HPa0 W0 (he.below hb0)
 have HTy:Hid (∀ v W,Ru.RV 0 W t v→Below w.heap.size w W→Calls Tryz.prog 26 #[v] W fun e w'=>e=.returned (.tuple #[.bool true,.int .i64 0])∧Below W.heap.size W w'):=fun v W hv hb'=>HTy0 v W hv (he.kd.below hb')
 have HW0:=hid_of hW0
 have HB0:=hid_of hb0
 have HN0:=hid_of hn0
 have hz0:W0.heap[w.heap.size+1]? =some (.cells #[.string ⟨#[]⟩,.int .i64 0,.float .f64 0,.string ⟨#[]⟩,.slice none 0 0,.int .i64 0,.int .i64 0,.int .i64 0,.slice none 0 0,.int .i64 0,.int .i64 0,.int .i64 0,.int .i64 0,.int .i64 0] 63):=by
  rw [hW0]
  have:=new_1 (w.alloc (.cells (spG tx lg kp) 29)) (.cells #[.string ⟨#[]⟩,.int .i64 0,.float .f64 0,.string ⟨#[]⟩,.slice none 0 0,.int .i64 0,.int .i64 0,.int .i64 0,.slice none 0 0,.int .i64 0,.int .i64 0,.int .i64 0,.int .i64 0,.int .i64 0] 63)
  simpa using this
 have HZ0:=hid_of hz0
 obtain ⟨q0,q1⟩:=bd_cells hB0
 obtain ⟨s0,s1,s2,s3⟩:=sp_cells hn0
 have sF:=Ru.store_f
 have hs0:W0.heap.size=w.heap.size+2:=by rw [hW0];simp
 clear hW0 hb0 hn0 hB0 hz0 he hb g0 g1 k0 k1 HPa0 HTy0
 go_enter Tryz.func13,Tryz.ntmps13
 go_upto_region 1 with fail
 rw [← HW0.out]
 clear HW0
 go_wp2_with (first | (go_at_call 22;refine Calls.mono (HNm.out _) ?_;rintro e w1 ⟨rfl,rfl⟩) | (go_at_call 23;refine Calls.mono (HCt.out _ _) ?_;rintro e w1 ⟨rfl,rfl⟩))
 refine Calls.mono HPa.out ?_
 rintro e w2 ⟨⟨v,rfl,hv⟩,hb2⟩
 obtain ⟨k,fx,nm,la0,ln0,lc0,wi0,n0,d0,aa0,an0,ac0,rfl⟩:=hv.form
 obtain ⟨W2,hW2⟩:∃ W2,W2=w2.alloc (.cells (Ru.rc k fx nm (.slice la0 ln0 lc0) wi0 n0 d0 (.slice aa0 an0 ac0)) 61):=⟨_,rfl⟩
 have hb3:Below w2.heap.size w2 W2:=by rw [hW2];exact bel1 w2 _
 have hn3:W2.heap[w2.heap.size]? =some (.cells (Ru.rc k fx nm (.slice la0 ln0 lc0) wi0 n0 d0 (.slice aa0 an0 ac0)) 61):=by rw [hW2];exact new_1 w2 _
 have hbw:Below w.heap.size w W2:=bt (bt HB0.out hb2) hb3
 have hs2:=sp_cells (Ru.h_at (Ru.h_at HN0.out hb2) hb3)
 obtain ⟨t0,t1,t2,t3⟩:=hs2
 obtain ⟨y0,y1,y2,y3,y4,y5,y6,y7⟩:=Ru.eight hn3
 have HV:=hid_of ((hv.below hb3).mono (B':=w.heap.size+2) (by omega))
 have HT2:=hid_of (HTy.out _ W2 ((hv.below hb3).mono (Nat.zero_le _)) hbw)
 have HW2:=hid_of hW2
 have HB2:=hid_of hbw
 have HN3:=hid_of hn3
 have hzp:=hid_of (Ru.h_at (Ru.h_at HZ0.out hb2) hb3)
 have hws:w.heap.size+2≤w2.heap.size:=by have:=hb2.size;omega
 have hsp:=hid_of (Ru.h_at (Ru.h_at HN0.out hb2) hb3)
 clear hW2 hb3 hn3 hbw HB0 HN0 HZ0 HPa HTy q0 q1 s0 s1 s2 s3 hb2 hv
 go_wp2_with fail
 rw [← HW2.out]
 refine Calls.mono HT2.out ?_
 rintro e w3 ⟨rfl,hb4⟩
 have HZ3:=hid_of (Ru.h_at hzp.out hb4)
 have HS3:=hid_of (Ru.h_at hsp.out hb4)
 have HR3:=hid_of (Ru.h_at HN3.out hb4)
 have HV3:=hid_of (HV.out.below hb4)
 have HB3:=hid_of (bt HB2.out hb4)
 clear hsp hzp HN3 HV HB2 hb4 HT2 HW2 t0 t1 t2 t3 y0 y1 y2 y3 y4 y5 y6 y7
 obtain ⟨t0,t1,t2,t3⟩:=sp_cells HS3.out
 obtain ⟨y0,y1,y2,y3,y4,y5,y6,y7⟩:=Ru.eight HR3.out
 go_wp2_with (first | (go_at_call 27;first | (refine Calls.mono (HW10.out _) ?_;rintro e w9 ⟨rfl,hw9⟩;subst w9) | (refine Calls.mono (HW5.out _) ?_;rintro e w9 ⟨rfl,hw9⟩;subst w9)))
 have HK0:Hid (K14 (w.heap.size+1) w3 w3):=⟨La.Ex.refl _ _,_,rfl,HZ3.out⟩
 have HKp:Hid (∀ W1,K14 (w.heap.size+1) w3 W1→(fun W=>s4w w.heap.size lg kp W∧e8 w2.heap.size k fx nm (.slice la0 ln0 lc0) wi0 n0 d0 (.slice aa0 an0 ac0) W∧S14 (w.heap.size+1) W) W1):=fun W1 hk=>by
  have h1:=sp_cells (Ex_at hk.x (by omega) HS3.out)
  exact ⟨⟨h1.1,h1.2.2⟩,Ru.eight (Ex_at hk.x (by omega) HR3.out),hk.s14⟩
 clear t0 t1 t2 t3 y0 y1 y2 y3 y4 y5 y6 y7
 go_region_held3 (fun W=>s4w w.heap.size lg kp W∧e8 w2.heap.size k fx nm (.slice la0 ln0 lc0) wi0 n0 d0 (.slice aa0 an0 ac0) W∧S14 (w.heap.size+1) W)
  (((with_reducible refine HKp.out _ ?_);repeat (first | with_reducible exact hB9 | with_reducible exact HK0.out | with_reducible refine K14.drew ?_ | with_reducible refine K14.set ?_ _ _)))
  (first
   | (go_at_call 28;(with_reducible refine Calls.mono (HCl.out _) ?_);rintro e w9 ⟨rfl,hb9⟩;have hB9:K14 (w.heap.size+1) w3 w9:=K14.below (by repeat (first | with_reducible exact hB9 | with_reducible exact HK0.out | with_reducible refine K14.drew ?_ | with_reducible refine K14.set ?_ _ _)) hb9))
 all_goals
  obtain ⟨hh,hk⟩:=put14 (show K14 (w.heap.size+1) w3 _ from hB9) (.string ⟨#[120]⟩) (.int .i64 k) (.float .f64 fx) (.string ⟨nm.toArray⟩) (.slice la0 ln0 lc0) (.int .i64 wi0) (.int .i64 n0) (.int .i64 d0) (.slice aa0 an0 ac0) (.int .i64 lg) (.int .i64 kp) (.int .i64 1) (.int .i64 0) (.int .i64 0)
  have HH:=hid_of hh
  have hsz:=HB3.out.size
  have HBl:=hid_of (HB3.out.trans (hk.x.below (B:=w.heap.size) (by omega) hsz))
  have HVl:=hid_of ((HV3.out.ex hk.x (by omega)).mono (B':=w.heap.size) (by omega))
  clear hh hk hB9 HKp HK0
  go_wp2_with fail
  refine bodyPost_ret (Ru.results_ct rfl _ _ (w.heap.size+1) 63 _ (0,0) _ rfl HH.out Tryz.underlying63 rfl (by kernel_rfl)) rfl ?_
  exact ⟨⟨k,fx,nm,la0,ln0,lc0,wi0,n0,d0,aa0,an0,ac0,rfl,HVl.out⟩,HBl.out⟩
end Go.Proofs.YtlgkfeeclgcgbaaGreatDoor.Al
/- ALARM: New of one spec. Own work of the verifier. -/
set_option maxRecDepth 100000
set_option maxHeartbeats 4000000
namespace Go.Proofs.YtlgkfeeclgcgbaaGreatDoor.Al
open Go.RowKit Go.Sort Me
abbrev zA:Array Value:=#[.string ⟨#[]⟩,.int .i64 0,.float .f64 0,.string ⟨#[]⟩,.slice none 0 0,.int .i64 0,.int .i64 0,.int .i64 0,.slice none 0 0,.int .i64 0,.int .i64 0,.int .i64 0,.int .i64 0,.int .i64 0]
theorem infoA:(Tryz.prog.info? 63).map (fun i=>(i.zero,i.size,i.bytes))=some (some (.agg zA),14,160):=by kernel_rfl
theorem step_al {w:World} {ops:Array Oper} {o:Oper} {a:Act} {K:Act→World→Prop} {Q:Exit→Act→World→Prop} {E:Prop} (hgd:o.guard=none) (s x:Operand)
  (ho:o.op=.call { callee:=.builtin .append,args:=#[s,x],argTypes:=#[54,54] }) (hs:a.eval s=.slice none 0 0) (b:Nat) (hx:a.eval x=.slice (some ⟨b,0,none⟩) 1 1)
  (nm:List UInt8) (k:Int) (fx:Nat) (rn:List UInt8) (la:Option Addr) (ln lc:Nat) (wi n d:Int) (aa:Option Addr) (an ac:Nat) (wait keep st si e:Int)
  (hk:w.heap[b]? =some (.cells (alC nm k fx rn (.slice la ln lc) wi n d (.slice aa an ac) wait keep st si e) 63 (0,0)))
  (hh:∀ g cap w',w'.ownsRow w.heap.size 63 14 (.slice (some ⟨g,0,none⟩) 1 cap) 1 (alC nm k fx rn (.slice la ln lc) wi n d (.slice aa an ac) wait keep st si e).toList→w.grownBy w' none→K (a.put o.dst (.slice (some ⟨g,0,none⟩) 1 cap)) w') :
  if Region.wanted o (yielded ops a.tmps)=true then Oper.wp Tryz.prog o a w K Q else E:=by
 obtain ⟨i0,hi,hz0,hz1,hz2⟩:=info_parts infoA
 refine step_append_lies w hgd s x _ ho w.heap.size 63 i0 (.agg zA) 14 160 Tryz.underlying54 hi hz0 hz1 hz2 rfl (by decide) (.slice none 0 0) 0 [] hs ⟨rfl,.inl ⟨rfl,rfl⟩⟩ ⟨b,0,none⟩ 1 1 (alC nm k fx rn (.slice la ln lc) wi n d (.slice aa an ac) wait keep st si e).toList hx (by rfl) (World.news_of_block (by simpa using hk)) (fun u hu=>by simp at hu;rcases hu with rfl | rfl | rfl | rfl | rfl | rfl | rfl | rfl | rfl | rfl | rfl | rfl | rfl | rfl <;> rfl) (by omega) (by unfold maxLen;omega) (by omega) (Nat.le_refl _) _ rfl ?_
 intro g cap w' h1 h2 h3 h4
 exact hh g cap w' h1 h2
theorem grown_none {w w':World} (h:w.grownBy w' none):Below w.heap.size w w':=⟨h.os,h.tape,h.output,h.size,fun k hk=>h.block k hk (by simp)⟩
theorem row_rest {cur A:Array Value} (h:cur.toList.take (1*14)=A.toList):∃ rest,cur=A++rest:=⟨(cur.toList.drop (1*14)).toArray,by
 apply Array.toList_inj.1
 rw [Array.toList_append,← h]
 simp⟩
def NewG (t : Ru.RT) (lg kp : Int) (w : World) (e : Ending) (w' : World) : Prop := (∃ b g cap k x rn la ln lc wi n d aa an ac, e = .returned (.tuple #[.pointer (some ⟨b, 0, none⟩), .int .i64 0, .int .i64 0]) ∧ w'.heap[b]? = some (.cells #[.slice (some ⟨g, 0, none⟩) 1 cap, .int .i64 (-4611686018427387905)] 56) ∧ w.heap.size ≤ b ∧
      (∃ rest, b < g ∧ w'.heap[g]? = some (.cells (alC [120] k x rn (.slice la ln lc) wi n d (.slice aa an ac) lg kp 1 0 0 ++ rest) 63)) ∧ (∃ Wr, Ru.RV (b + 1) Wr t (Ru.rx k x rn (.slice la ln lc) wi n d (.slice aa an ac)) ∧ La.Ex b Wr w' ∧ b < Wr.heap.size ∧ Wr.heap.size ≤ g)) ∧ Below w.heap.size w w'
theorem new_g (tx:Array UInt8) (t:Ru.RT) (HPa0:∀ W,Ru.Env W→Calls Tryz.prog 25 #[.string ⟨tx⟩] W fun e w'=>(∃ v,e=.returned (.tuple #[v,.int .i64 0,.int .i64 0])∧Ru.RV W.heap.size w' t v)∧Below W.heap.size W w') (HTy0:∀ v W,Ru.RV 0 W t v→Ru.Kd W→Calls Tryz.prog 26 #[v] W fun e w'=>e=.returned (.tuple #[.bool true,.int .i64 0])∧Below W.heap.size W w') (gs:Nat) (lg kp:Int) (g0:0≤lg) (g1:lg≤4611686018427387904) (k0:0≤kp) (k1:kp≤4611686018427387904) (w:World) (he:Ru.Env w) (hs:w.heap[gs]? =some (.cells (spG tx lg kp) 29)) :
  Calls Tryz.prog 5 #[.slice (some ⟨gs,0,none⟩) 1 1] w fun e w'=>NewG t lg kp w e w':=by
 obtain ⟨W0,hW0⟩:∃ W0,W0=w.alloc (.cells #[.slice none 0 0,.int .i64 (-4611686018427387905)] 56):=⟨_,rfl⟩
 have hb0:Below w.heap.size w W0:=by rw [hW0];exact bel1 w _
 have hB0:W0.heap[w.heap.size]? =some (.cells #[.slice none 0 0,.int .i64 (-4611686018427387905)] 56):=by rw [hW0];exact new_1 w _
 have hs0:W0.heap.size=w.heap.size+1:=by rw [hW0];simp
 obtain ⟨W1,hW1⟩:∃ W1,W1=W0.alloc (.cells (spG tx lg kp) 29):=⟨_,rfl⟩
 have hb1:Below W0.heap.size W0 W1:=by rw [hW1];exact bel1 W0 _
 have hp1:W1.heap[w.heap.size+1]? =some (.cells (spG tx lg kp) 29):=by rw [hW1,← hs0];exact new_1 W0 _
 have hB1:=Ru.h_at hB0 hb1
 have hs1:W1.heap.size=w.heap.size+2:=by rw [hW1];simp [hs0]
 have HMd:Hid (Calls Tryz.prog 13 #[.pointer (some ⟨w.heap.size,0,none⟩),.agg (spG tx lg kp)] W1 fun e w'=>(∃ k x rn la ln lc wi n d aa an ac,e=.returned (.tuple #[.agg (alC [120] k x rn (.slice la ln lc) wi n d (.slice aa an ac) lg kp 1 0 0),.int .i64 0])∧Ru.RV W1.heap.size w' t (Ru.rx k x rn (.slice la ln lc) wi n d (.slice aa an ac)))∧Below W1.heap.size W1 w'):=made_g tx t HPa0 HTy0 w.heap.size (-4611686018427387905) lg kp g0 g1 k0 k1 W1 (he.below (bt hb0 hb1)) hB1
 obtain ⟨s0,s1,s2,s3⟩:=sp_cells (Ru.h_at hs hb0)
 obtain ⟨q0,q1⟩:=bd_cells hB0
 have HW0:=hid_of hW0
 have HW1:=hid_of hW1
 have HBb:=hid_of (bt hb0 hb1)
 have HB0:=hid_of hB1
 obtain ⟨p0,p1,p2,p3⟩:=sp_cells hp1
 have sF:=Ru.store_f
 have HS1:=hid_of hs1
 clear hW0 hW1 hb0 hb1 hB0 hB1 hp1 he hs hs1 g0 g1 k0 k1 HPa0 HTy0
 go_enter Tryz.func5,Tryz.ntmps5
 go_upto_region 4 with fail
 rw [← HW0.out]
 clear HW0
 go_wp2_with fail
 refine wp_loop_rounds 2 (show Code.wp Tryz.prog _ _ _ _ from ?_)
 go_upto_region 7 with fail
 rw [← HW1.out]
 clear HW1
 go_wp2_with fail
 refine Calls.mono HMd.out ?_
 rintro e w2 ⟨⟨k,x,rn,la,ln,lc,wi,n,d,aa,an,ac,rfl,hv⟩,hb2⟩
 obtain ⟨W2,hW2⟩:∃ W2,W2=w2.alloc (.cells (alC [120] k x rn (.slice la ln lc) wi n d (.slice aa an ac) lg kp 1 0 0) 63):=⟨_,rfl⟩
 have hb3:Below w2.heap.size w2 W2:=by rw [hW2];exact bel1 w2 _
 have hb23:=bt hb2 hb3
 have hn3:W2.heap[w2.heap.size]? =some (.cells (alC [120] k x rn (.slice la ln lc) wi n d (.slice aa an ac) lg kp 1 0 0) 63):=by rw [hW2];exact new_1 w2 _
 have hB3:=Ru.h_at HB0.out hb23
 obtain ⟨c0,c1,c2,c3,c4,c5,c6,c7,c8,c9,c10,c11,c12,c13⟩:=fourteen hn3
 clear q0 q1
 obtain ⟨q0,q1⟩:=bd_cells hB3
 have HW2:=hid_of hW2
 have HB3:=hid_of hB3
 have HBb3:=hid_of (bt HBb.out hb23)
 have HV3:=hid_of ((hv.below hb3).mono (B':=w.heap.size+1) (by have:=HS1.out;omega))
 have hws:w.heap.size+1 < W2.heap.size:=by have:=hb23.size;have:=HS1.out;omega
 have HNv:=hid_of (new_1 W2 (.cells (alC [120] k x rn (.slice la ln lc) wi n d (.slice aa an ac) lg kp 1 0 0) 63))
 obtain ⟨qa0,qa1⟩:=bd_cells (Ru.h_at hB3 (bel1 W2 (.cells (alC [120] k x rn (.slice la ln lc) wi n d (.slice aa an ac) lg kp 1 0 0) 63)))
 obtain ⟨qb0,qb1⟩:=bd_cells (Ru.h_at hB3 (bt (bel_drewB (Below.refl _ W2)) (bel1 W2.drew (.cells (alC [120] k x rn (.slice la ln lc) wi n d (.slice aa an ac) lg kp 1 0 0) 63))))
 have HNd:=hid_of (new_1 W2.drew (.cells (alC [120] k x rn (.slice la ln lc) wi n d (.slice aa an ac) lg kp 1 0 0) 63))
 clear hW2 hb3 hb23 hb2 hn3 hB3 hv HB0 HBb HMd s0 s1 s2 s3 p0 p1 p2 p3
 go_upto_region 10 with fail
 rw [← HW2.out]
 clear HW2
 go_region_law (refine step_al (by rfl) _ _ (by rfl) (by rfl) W2.heap.size (by rfl) [120] k x rn la ln lc wi n d aa an ac lg kp 1 0 0 (by first | exact HNv.out | exact HNd.out) ?_;intro g6 k6 w6 hown hgr;have hB6:=Ru.h_at (Ru.h_at HB3.out (by first | exact bel1 W2 _ | exact bel_drewB (bel1 W2 _) | exact bt (bel_drewB (Below.refl _ W2)) (bel1 _ _))) (grown_none hgr);obtain ⟨u0,u1⟩:=bd_cells hB6;have uf:=Ru.eight_f hB6)
 all_goals
  have hB9:Below W2.heap.size W2 w6:=bt (by first | exact bel1 W2 _ | exact bel_drewB (bel1 W2 _) | exact bt (bel_drewB (Below.refl _ W2)) (bel1 _ _)) (grown_none hgr)
  rcases hown.2 with ⟨h,-⟩ | ⟨g',cap',cur,hv',hbg,hg,-,-,-,htk⟩
  ·cases h
  cases hv'
  have hbg':w.heap.size < g6:=Nat.lt_of_lt_of_le (by simp [World.drew];omega) hbg
  obtain ⟨rest,hr⟩:=row_rest htk
  have HF:Hid (_∧_∧_∧_):=hid_of ⟨Lib.heap_setCell_same (i:=0) hB6 (.slice (some ⟨g6,0,none⟩) 1 k6),(show (w6.setCell ⟨w.heap.size,0,none⟩ (.slice (some ⟨g6,0,none⟩) 1 k6)).heap[g6]? =some (.cells (alC [120] k x rn (.slice la ln lc) wi n d (.slice aa an ac) lg kp 1 0 0++rest) 63) by rw [heap_other _ _ _ _ (by show g6≠w.heap.size;omega),← hr];exact hg),(⟨W2,HV3.out,(La.Ex.of hB9).set 0 (.slice (some ⟨g6,0,none⟩) 1 k6),by omega,Nat.le_trans (by simp [World.drew]) hbg⟩:∃ Wr,Ru.RV (w.heap.size+1) Wr t (Ru.rx k x rn (.slice la ln lc) wi n d (.slice aa an ac))∧La.Ex w.heap.size Wr (w6.setCell ⟨w.heap.size,0,none⟩ (.slice (some ⟨g6,0,none⟩) 1 k6))∧w.heap.size < Wr.heap.size∧Wr.heap.size≤g6),(bt HBb3.out hB9).setCell (p:=⟨w.heap.size,0,none⟩) (Nat.le_refl _) (.slice (some ⟨g6,0,none⟩) 1 k6)⟩
  clear HNv HNd hown hgr hB6 u0 u1 uf hg htk hbg hr hB9 c0 c1 c2 c3 c4 c5 c6 c7 c8 c9 c10 c11 c12 c13 q0 q1 qa0 qa1 qb0 qb1 HB3 HBb3 HV3
  go_wp2_with fail
  refine (show Code.wp Tryz.prog _ _ _ _ from ?_)
  go_wp2_with fail
  go_ret3
  exact ⟨⟨w.heap.size,g6,k6,k,x,rn,la,ln,lc,wi,n,d,aa,an,ac,rfl,HF.out.1,Nat.le_refl _,⟨rest,hbg',HF.out.2.1⟩,HF.out.2.2.1⟩,HF.out.2.2.2⟩
end Go.Proofs.YtlgkfeeclgcgbaaGreatDoor.Al
