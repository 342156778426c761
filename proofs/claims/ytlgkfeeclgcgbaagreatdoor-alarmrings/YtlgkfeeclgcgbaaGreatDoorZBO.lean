/- ALARM: the ways from a state. Own work of the verifier. -/
import Derived.Test.YtlgkfeeclgcgbaaGreatDoorZBM
set_option maxRecDepth 100000
set_option maxHeartbeats 1000000
namespace Go.Proofs.YtlgkfeeclgcgbaaGreatDoor.Al
open Go.RowKit Go.Sort Me
abbrev alC (nm:List UInt8) (k:Int) (x:Nat) (rn:List UInt8) (lv:Value) (wi n d:Int) (av:Value) (wait keep st si e:Int):Array Value :=
 #[.string ⟨nm.toArray⟩,.int .i64 k,.float .f64 x,.string ⟨rn.toArray⟩,lv,.int .i64 wi,.int .i64 n,.int .i64 d,av,.int .i64 wait,.int .i64 keep,.int .i64 st,.int .i64 si,.int .i64 e]
def idF (h:Bool) (wait:Int):Int:=if h=true then (if wait=0 then 3 else 2) else 1
def waF (h:Bool) (wait si now:Int):Int:=if h=true then (if si≤now - wait then 3 else 2) else 1
def riF (h:Bool) (keep:Int):Int:=if h=true then 3 else if keep=0 then 1 else 4
def faF (h:Bool) (keep si now:Int):Int:=if h=true then 3 else if si≤now - keep then 1 else 4
theorem fourteen {W:World} {g:Nat} {a0 a1 a2 a3 a4 a5 a6 a7 a8 a9 a10 a11 a12 a13:Value} {t:TypeId} (h:W.heap[g]? =some (.cells #[a0,a1,a2,a3,a4,a5,a6,a7,a8,a9,a10,a11,a12,a13] t)) :
  W.cell? ⟨g,0,none⟩=some a0∧W.cell? ⟨g,1,none⟩=some a1∧W.cell? ⟨g,2,none⟩=some a2∧W.cell? ⟨g,3,none⟩=some a3∧W.cell? ⟨g,4,none⟩=some a4∧W.cell? ⟨g,5,none⟩=some a5∧W.cell? ⟨g,6,none⟩=some a6∧W.cell? ⟨g,7,none⟩=some a7∧W.cell? ⟨g,8,none⟩=some a8∧W.cell? ⟨g,9,none⟩=some a9∧W.cell? ⟨g,10,none⟩=some a10∧W.cell? ⟨g,11,none⟩=some a11∧W.cell? ⟨g,12,none⟩=some a12∧W.cell? ⟨g,13,none⟩=some a13:=by
 refine ⟨?_,?_,?_,?_,?_,?_,?_,?_,?_,?_,?_,?_,?_,?_⟩ <;> simp [World.cell?,h]
theorem fromIdle_any (nm:List UInt8) (k:Int) (x:Nat) (rn:List UInt8) (la:Option Addr) (ln lc:Nat) (wi n d:Int) (aa:Option Addr) (an ac:Nat) (wait keep st si e now:Int) (h:Bool) (w:World) :
  Calls Tryz.prog 45 #[.agg (alC nm k x rn (.slice la ln lc) wi n d (.slice aa an ac) wait keep st si e),.bool h,.int .i64 now] w fun e w'=>e=.returned (.int .i64 (idF h wait))∧Below w.heap.size w w':=by
 have hn:=new_1 w (.cells (alC nm k x rn (.slice la ln lc) wi n d (.slice aa an ac) wait keep st si e) 63)
 have hb:=bel1 w (.cells (alC nm k x rn (.slice la ln lc) wi n d (.slice aa an ac) wait keep st si e) 63)
 have HB:=hid_of hb
 obtain ⟨c0,c1,c2,c3,c4,c5,c6,c7,c8,c9,c10,c11,c12,c13⟩:=fourteen hn
 have sF:=Ru.store_f
 unfold idF
 clear hn hb
 cases h
 ·rw [if_neg (by decide)]
  go_enter Tryz.func45,Tryz.ntmps45
  go_wp2_with fail
  go_ret
  exact ⟨rfl,HB.out⟩
 ·rw [if_pos rfl]
  by_cases hw:wait=0
  ·have hw':(wait == 0)=true:=by rw [beq_iff_eq];exact hw
   rw [if_pos hw]
   clear hw
   go_enter Tryz.func45,Tryz.ntmps45
   go_wp2_with fail
   go_ret
   exact ⟨rfl,HB.out⟩
  ·have hw':(wait == 0)=false:=beq_eq_false_iff_ne.2 hw
   rw [if_neg hw]
   clear hw
   go_enter Tryz.func45,Tryz.ntmps45
   go_wp2_with fail
   go_ret
   exact ⟨rfl,HB.out⟩
theorem lasted_any (nm:List UInt8) (k:Int) (x:Nat) (rn:List UInt8) (la:Option Addr) (ln lc:Nat) (wi n d:Int) (aa:Option Addr) (an ac:Nat) (wait keep st si e long now:Int) (hwr:IntKind.i64.wrap (now - long)=now - long) (w:World) :
  Calls Tryz.prog 62 #[.agg (alC nm k x rn (.slice la ln lc) wi n d (.slice aa an ac) wait keep st si e),.int .i64 long,.int .i64 now] w fun e w'=>e=.returned (.bool (decide (si≤now - long)))∧Below w.heap.size w w':=by
 have hn:=new_1 w (.cells (alC nm k x rn (.slice la ln lc) wi n d (.slice aa an ac) wait keep st si e) 63)
 have hb:=bel1 w (.cells (alC nm k x rn (.slice la ln lc) wi n d (.slice aa an ac) wait keep st si e) 63)
 have HB:=hid_of hb
 obtain ⟨c0,c1,c2,c3,c4,c5,c6,c7,c8,c9,c10,c11,c12,c13⟩:=fourteen hn
 have sF:=Ru.store_f
 clear hn hb
 go_enter Tryz.func62,Tryz.ntmps62
 go_wp2_with fail
 go_ret
 exact ⟨rfl,HB.out⟩
theorem fromWaiting_any (nm:List UInt8) (k:Int) (x:Nat) (rn:List UInt8) (la:Option Addr) (ln lc:Nat) (wi n d:Int) (aa:Option Addr) (an ac:Nat) (wait keep st si e now:Int) (hwr:IntKind.i64.wrap (now - wait)=now - wait) (h:Bool) (w:World) :
  Calls Tryz.prog 46 #[.agg (alC nm k x rn (.slice la ln lc) wi n d (.slice aa an ac) wait keep st si e),.bool h,.int .i64 now] w fun e w'=>e=.returned (.int .i64 (waF h wait si now))∧Below w.heap.size w w':=by
 have HL:Hid (∀ W,Calls Tryz.prog 62 #[.agg (alC nm k x rn (.slice la ln lc) wi n d (.slice aa an ac) wait keep st si e),.int .i64 wait,.int .i64 now] W fun e w'=>e=.returned (.bool (decide (si≤now - wait)))∧Below W.heap.size W w'):=fun W=>lasted_any nm k x rn la ln lc wi n d aa an ac wait keep st si e wait now hwr W
 have hn:=new_1 w (.cells (alC nm k x rn (.slice la ln lc) wi n d (.slice aa an ac) wait keep st si e) 63)
 have hb:=bel1 w (.cells (alC nm k x rn (.slice la ln lc) wi n d (.slice aa an ac) wait keep st si e) 63)
 have HB:=hid_of hb
 obtain ⟨c0,c1,c2,c3,c4,c5,c6,c7,c8,c9,c10,c11,c12,c13⟩:=fourteen hn
 have sF:=Ru.store_f
 unfold waF
 clear hn hb hwr
 cases h
 ·rw [if_neg (by decide)]
  clear HL
  go_enter Tryz.func46,Tryz.ntmps46
  go_wp2_with fail
  go_ret
  exact ⟨rfl,HB.out⟩
 ·rw [if_pos rfl]
  by_cases hs:si≤now - wait
  ·rw [if_pos hs]
   rw [decide_eq_true hs] at HL
   clear hs
   go_enter Tryz.func46,Tryz.ntmps46
   go_wp2_with fail
   refine Calls.mono (HL.out _) ?_
   rintro e w1 ⟨rfl,hb1⟩
   clear HL c0 c1 c2 c3 c4 c5 c6 c7 c8 c9 c10 c11 c12 c13
   go_wp2_with fail
   go_ret
   exact ⟨rfl,bt HB.out hb1⟩
  ·rw [if_neg hs]
   rw [decide_eq_false hs] at HL
   clear hs
   go_enter Tryz.func46,Tryz.ntmps46
   go_wp2_with fail
   refine Calls.mono (HL.out _) ?_
   rintro e w1 ⟨rfl,hb1⟩
   clear HL c0 c1 c2 c3 c4 c5 c6 c7 c8 c9 c10 c11 c12 c13
   go_wp2_with fail
   go_ret
   exact ⟨rfl,bt HB.out hb1⟩
theorem store_fn (W:World) (a:Addr) (f:Fn) (m:Mode):(store a (.func f #[] #[]) m).run Tryz.prog W=stored Tryz.prog W a (.func f #[] #[]) m:=run_store Tryz.prog W a _ m rfl
theorem store_nf (W:World) (a:Addr) (m:Mode):(store a .nilFunc m).run Tryz.prog W=stored Tryz.prog W a .nilFunc m:=run_store Tryz.prog W a _ m rfl
abbrev wayV:Value:=.agg #[.nilFunc,.func (.func 45) #[] #[],.func (.func 46) #[] #[],.func (.func 47) #[] #[],.func (.func 48) #[] #[]]
theorem ways_any (w:World):Calls Tryz.prog 30 #[] w fun e w'=>e=.returned wayV∧Below w.heap.size w w':=by
 have sN:=store_nf
 have s1:=fun W a m=>store_fn W a (.func 45) m
 have s2:=fun W a m=>store_fn W a (.func 46) m
 have s3:=fun W a m=>store_fn W a (.func 47) m
 have s4:=fun W a m=>store_fn W a (.func 48) m
 go_enter Tryz.func30,Tryz.ntmps30
 go_wp2_with fail
 have hn:=new_1 w (.cells #[.nilFunc,.func (.func 45) #[] #[],.func (.func 46) #[] #[],.func (.func 47) #[] #[],.func (.func 48) #[] #[]] 101)
 (try simp only [Exit.inBlock,Exit.then]);refine bodyPost_ret (results_cell_row (P:=Tryz.prog) rfl _ _ w.heap.size 101 _ (0,0) _ rfl hn Tryz.underlying101 rfl (by kernel_rfl)) rfl ?_
 exact ⟨rfl,bel1 w _⟩
end Go.Proofs.YtlgkfeeclgcgbaaGreatDoor.Al
/- ALARM: an alarm's step (printed by gen_ag.py). Own work of the verifier. -/
set_option maxRecDepth 100000
set_option maxHeartbeats 4000000
namespace Go.Proofs.YtlgkfeeclgcgbaaGreatDoor.Al
open Go.RowKit Go.Sort Me
abbrev a14 (g:Nat) (nm:List UInt8) (k:Int) (x:Nat) (rn:List UInt8) (lv:Value) (wi n d:Int) (av:Value) (wait keep st si e:Int) (W:World):Prop :=
 W.cell? ⟨g,0,none⟩=some (.string ⟨nm.toArray⟩)∧W.cell? ⟨g,1,none⟩=some (.int .i64 k)∧W.cell? ⟨g,2,none⟩=some (.float .f64 x)∧W.cell? ⟨g,3,none⟩=some (.string ⟨rn.toArray⟩)∧W.cell? ⟨g,4,none⟩=some lv∧W.cell? ⟨g,5,none⟩=some (.int .i64 wi)∧W.cell? ⟨g,6,none⟩=some (.int .i64 n)∧W.cell? ⟨g,7,none⟩=some (.int .i64 d)∧W.cell? ⟨g,8,none⟩=some av∧W.cell? ⟨g,9,none⟩=some (.int .i64 wait)∧W.cell? ⟨g,10,none⟩=some (.int .i64 keep)∧W.cell? ⟨g,11,none⟩=some (.int .i64 st)∧W.cell? ⟨g,12,none⟩=some (.int .i64 si)∧W.cell? ⟨g,13,none⟩=some (.int .i64 e)
abbrev a3 (g:Nat) (h:Bool) (W:World):Prop:=W.cell? ⟨g,0,none⟩=some (.bool true)∧W.cell? ⟨g,1,none⟩=some (.bool h)∧W.cell? ⟨g,2,none⟩=some (.float .f64 0)
theorem app_at {A rest:Array Value} {i:Nat} {v:Value} (h:A[i]? =some v):(A++rest)[i]? =some v:=by
 rw [Array.getElem?_append_left (Array.getElem?_eq_some_iff.1 h).1]
 exact h
theorem fourteen' {W:World} {g:Nat} {a0 a1 a2 a3 a4 a5 a6 a7 a8 a9 a10 a11 a12 a13:Value} {rest:Array Value} {t:TypeId} (h:W.heap[g]? =some (.cells (#[a0,a1,a2,a3,a4,a5,a6,a7,a8,a9,a10,a11,a12,a13]++rest) t)):W.cell? ⟨g,0,none⟩=some a0∧W.cell? ⟨g,1,none⟩=some a1∧W.cell? ⟨g,2,none⟩=some a2∧W.cell? ⟨g,3,none⟩=some a3∧W.cell? ⟨g,4,none⟩=some a4∧W.cell? ⟨g,5,none⟩=some a5∧W.cell? ⟨g,6,none⟩=some a6∧W.cell? ⟨g,7,none⟩=some a7∧W.cell? ⟨g,8,none⟩=some a8∧W.cell? ⟨g,9,none⟩=some a9∧W.cell? ⟨g,10,none⟩=some a10∧W.cell? ⟨g,11,none⟩=some a11∧W.cell? ⟨g,12,none⟩=some a12∧W.cell? ⟨g,13,none⟩=some a13:=by
 refine ⟨?_,?_,?_,?_,?_,?_,?_,?_,?_,?_,?_,?_,?_,?_⟩ <;> (simp [World.cell?,h];exact app_at rfl)
theorem set11 {a0 a1 a2 a3 a4 a5 a6 a7 a8 a9 a10 a11 a12 a13:Value} {rest:Array Value} (v:Value):(#[a0,a1,a2,a3,a4,a5,a6,a7,a8,a9,a10,a11,a12,a13]++rest).setIfInBounds 11 v=#[a0,a1,a2,a3,a4,a5,a6,a7,a8,a9,a10,v,a12,a13]++rest:=by
 apply Array.toList_inj.1
 simp
theorem set12 {a0 a1 a2 a3 a4 a5 a6 a7 a8 a9 a10 a11 a12 a13:Value} {rest:Array Value} (v:Value):(#[a0,a1,a2,a3,a4,a5,a6,a7,a8,a9,a10,a11,a12,a13]++rest).setIfInBounds 12 v=#[a0,a1,a2,a3,a4,a5,a6,a7,a8,a9,a10,a11,v,a13]++rest:=by
 apply Array.toList_inj.1
 simp
theorem set13 {a0 a1 a2 a3 a4 a5 a6 a7 a8 a9 a10 a11 a12 a13:Value} {rest:Array Value} (v:Value):(#[a0,a1,a2,a3,a4,a5,a6,a7,a8,a9,a10,a11,a12,a13]++rest).setIfInBounds 13 v=#[a0,a1,a2,a3,a4,a5,a6,a7,a8,a9,a10,a11,a12,v]++rest:=by
 apply Array.toList_inj.1
 simp
theorem belN' {a w:World} (o:Obj) (h:Below a.heap.size a w):Below a.heap.size a (w.alloc o):=bt h (bel1 _ _)
theorem belD' {a w:World} (h:Below a.heap.size a w):Below a.heap.size a w.drew:=bel_drewB h
theorem index_1 (W:World):(Instr.index 101 (.agg #[.nilFunc,.func (.func 45) #[] #[],.func (.func 46) #[] #[],.func (.func 47) #[] #[],.func (.func 48) #[] #[]]) (.int .i64 1)).run Tryz.prog W=.ok (.func (.func 45) #[] #[]) W:=by
 have hs:(sizeOf 100).run Tryz.prog W=.ok 1 W:=by simp [sizeOf];rfl
 have ha:(isAgg 100).run Tryz.prog W=.ok false W:=by
  unfold isAgg
  rw [Sem.run_bind,run_underlying Tryz.underlying100 W]
  rfl
 simp [Instr.index,run_underlying Tryz.underlying101,asIntOf,part,Sem.run_bind,hs,go_sem]
theorem index_2 (W:World):(Instr.index 101 (.agg #[.nilFunc,.func (.func 45) #[] #[],.func (.func 46) #[] #[],.func (.func 47) #[] #[],.func (.func 48) #[] #[]]) (.int .i64 2)).run Tryz.prog W=.ok (.func (.func 46) #[] #[]) W:=by
 have hs:(sizeOf 100).run Tryz.prog W=.ok 1 W:=by simp [sizeOf];rfl
 have ha:(isAgg 100).run Tryz.prog W=.ok false W:=by
  unfold isAgg
  rw [Sem.run_bind,run_underlying Tryz.underlying100 W]
  rfl
 simp [Instr.index,run_underlying Tryz.underlying101,asIntOf,part,Sem.run_bind,hs,go_sem]
theorem step_idle (g:Nat) (rp:Option Addr) (nm:List UInt8) (k:Int) (x:Nat) (rn:List UInt8) (la:Option Addr) (ln lc:Nat) (wi n d:Int) (aa:Option Addr) (an ac:Nat) (wait keep si e0 now:Int) (h:Bool) (rest:Array Value) (z s9:Int) (hz9:z=idF h wait) (hs9:s9=if z=1 then si else now) (w:World)
  (hn:w.heap[g]? =some (.cells (alC nm k x rn (.slice la ln lc) wi n d (.slice aa an ac) wait keep 1 si e0++rest) 63))
  (hE:Calls Tryz.prog 29 #[.pointer rp,.int .i64 now,Ru.rx k x rn (.slice la ln lc) wi n d (.slice aa an ac)] w fun e w'=>e=.returned (.tuple #[.agg #[.bool true,.bool h,.float .f64 0],.int .i64 0])∧Below w.heap.size w w') :
  Calls Tryz.prog 14 #[.pointer (some ⟨g,0,none⟩),.pointer rp,.int .i64 now] w fun e w'=>e=.returned (.tuple #[])∧La.Ex g w w'∧w'.heap[g]? =some (.cells (alC nm k x rn (.slice la ln lc) wi n d (.slice aa an ac) wait keep z s9 0++rest) 63):=by
 have HE:=hid_of hE
 have HN:=hid_of hn
 have HWy:Hid (∀ W,Calls Tryz.prog 30 #[] W fun e w'=>e=.returned (.agg #[.nilFunc,.func (.func 45) #[] #[],.func (.func 46) #[] #[],.func (.func 47) #[] #[],.func (.func 48) #[] #[]])∧Below W.heap.size W w'):=fun W=>ways_any W
 have HFn:Hid (∀ W,Calls Tryz.prog 45 #[.agg (alC nm k x rn (.slice la ln lc) wi n d (.slice aa an ac) wait keep 1 si 0),.bool h,.int .i64 now] W fun e w'=>e=.returned (.int .i64 z)∧Below W.heap.size W w'):=fun W=>by rw [hz9];exact fromIdle_any nm k x rn la ln lc wi n d aa an ac wait keep 1 si 0 now h W
 have sF:=Ru.store_f
 have hix:=index_1
 have HS9:=hid_of hs9
 clear hE hn hz9 hs9
 obtain ⟨c0,c1,c2,c3,c4,c5,c6,c7,c8,c9,c10,c11,c12,c13⟩:=fourteen' HN.out
 go_enter Tryz.func14,Tryz.ntmps14
 go_wp2_with fail
 refine Calls.mono HE.out ?_
 rintro e w1 ⟨rfl,hb1⟩
 obtain ⟨W1,hW1⟩:∃ W1,W1=w1.alloc (.cells #[.bool true,.bool h,.float .f64 0] 97):=⟨_,rfl⟩
 have hb2:Below w1.heap.size w1 W1:=by rw [hW1];exact bel1 w1 _
 have HB1:=hid_of (bt hb1 hb2)
 have HN1:=hid_of (Ru.h_at (Ru.h_at HN.out hb1) hb2)
 have HA1:Hid (W1.heap[w1.heap.size]? =some (.cells #[.bool true,.bool h,.float .f64 0] 97)):=by show _=_;rw [hW1];exact new_1 w1 _
 have hlt:g < w1.heap.size:=Nat.lt_of_lt_of_le (Array.getElem?_eq_some_iff.1 HN.out).1 hb1.size
 have HW1:=hid_of hW1
 clear hb1 hb2 HE hW1 c0 c1 c2 c3 c4 c5 c6 c7 c8 c9 c10 c11 c12 c13
 go_upto_region 1 with fail
 rw [← HW1.out]
 clear HW1
 generalize w1.heap.size=ga at *
 obtain ⟨c0,c1,c2,c3,c4,c5,c6,c7,c8,c9,c10,c11,c12,c13⟩:=fourteen' HN1.out
 have cf:=Ru.eight_f HN1.out
 go_upto_region 2 with fail
 have hX1:La.Ex g w (W1.setCell ⟨g,13,none⟩ (.int .i64 0)):=(La.Ex.of HB1.out).set 13 _
 have hN2:=Lib.heap_setCell_same (i:=13) HN1.out (.int .i64 0)
 have hA2:(W1.setCell ⟨g,13,none⟩ (.int .i64 0)).heap[ga]? =some (.cells #[.bool true,.bool h,.float .f64 0] 97):=by
  rw [heap_other _ _ _ _ (by show ga≠g;omega)]
  exact HA1.out
 clear c0 c1 c2 c3 c4 c5 c6 c7 c8 c9 c10 c11 c12 c13 cf
 generalize W1.setCell ⟨g,13,none⟩ (.int .i64 0)=W2 at *
 have HX1:=hid_of hX1
 have HN2:Hid (W2.heap[g]? =some (.cells (alC nm k x rn (.slice la ln lc) wi n d (.slice aa an ac) wait keep 1 si 0++rest) 63)):=by rw [set13] at hN2;exact hN2
 have HA2:=hid_of hA2
 clear hX1 hN2 hA2 HN HN1 HA1 HB1
 have HKp:Hid (∀ W1,Below W2.heap.size W2 W1→(fun W=>a14 g nm k x rn (.slice la ln lc) wi n d (.slice aa an ac) wait keep 1 si 0 W∧a3 ga h W) W1):=fun W1 hb=>⟨fourteen' (Ru.h_at HN2.out hb),(Ru.three (Ru.h_at HA2.out hb)).1⟩
 have HFin:Hid (∀ W9,Below W2.heap.size W2 W9→La.Ex g w W9∧W9.heap[g]? =some (.cells (alC nm k x rn (.slice la ln lc) wi n d (.slice aa an ac) wait keep 1 si 0++rest) 63)):=fun W9 hb=>⟨HX1.out.trans (La.Ex.of hb),Ru.h_at HN2.out hb⟩
 clear HX1 HN2 HA2 hlt
 go_region_held3 (fun W=>a14 g nm k x rn (.slice la ln lc) wi n d (.slice aa an ac) wait keep 1 si 0 W∧a3 ga h W)
  (((with_reducible refine HKp.out _ ?_);repeat (first | with_reducible exact hB9 | with_reducible exact Below.refl _ _ | with_reducible refine belD' ?_ | with_reducible refine belN' _ ?_)))
  (first
   | (go_at_call 30;(with_reducible refine Calls.mono (HWy.out _) ?_);rintro e w9 ⟨rfl,hb9⟩;have hB9:Below W2.heap.size W2 w9:=bt (by repeat (first | with_reducible exact hB9 | with_reducible exact Below.refl _ _ | with_reducible refine belD' ?_ | with_reducible refine belN' _ ?_)) hb9)
   | (go_at_call 45;(with_reducible refine Calls.mono (HFn.out _) ?_);rintro e w9 ⟨rfl,hb9⟩;have hB9:Below W2.heap.size W2 w9:=bt (by repeat (first | with_reducible exact hB9 | with_reducible exact Below.refl _ _ | with_reducible refine belD' ?_ | with_reducible refine belN' _ ?_)) hb9))
 all_goals
  obtain ⟨hX9,hN9⟩:=HFin.out _ hB9
  obtain ⟨c0,c1,c2,c3,c4,c5,c6,c7,c8,c9,c10,c11,c12,c13⟩:=fourteen' hN9
  have HX9:=hid_of hX9
  have HN9:=hid_of hN9
  have cf:=Ru.eight_f hN9
  clear HWy HFn HKp HFin hX9 hN9 hB9
  by_cases hz:z=1
  ·have hs:s9=si:=by rw [HS9.out,if_pos hz]
   have hz':(z != 1)=false:=by rw [hz];rfl
   have HZ:=hid_of hz
   subst hs
   clear HS9 hz
   go_wp2_with fail
   refine bodyPost_end (results_none rfl _ _ _) rfl ?_
   exact ⟨rfl,HX9.out,by rw [HN9.out,HZ.out]⟩
  ·have hz':(z != 1)=true:=by rw [bne_iff_ne];exact hz
   have HZ:Hid (s9=now):=by show _=_;rw [HS9.out,if_neg hz]
   clear hz HS9
   go_wp2_with fail
   refine bodyPost_end (results_none rfl _ _ _) rfl ?_
   refine ⟨rfl,(HX9.out.set 11 _).set 12 _,?_⟩
   have e1:=Lib.heap_setCell_same (i:=11) HN9.out (.int .i64 z)
   rw [set11] at e1
   have e2:=Lib.heap_setCell_same (i:=12) e1 (.int .i64 now)
   rw [set12] at e2
   rw [HZ.out]
   exact e2
theorem step_wait (g:Nat) (rp:Option Addr) (nm:List UInt8) (k:Int) (x:Nat) (rn:List UInt8) (la:Option Addr) (ln lc:Nat) (wi n d:Int) (aa:Option Addr) (an ac:Nat) (wait keep si e0 now:Int) (h:Bool) (hwr:IntKind.i64.wrap (now - wait)=now - wait) (rest:Array Value) (z s9:Int) (hz9:z=waF h wait si now) (hs9:s9=if z=2 then si else now) (w:World)
  (hn:w.heap[g]? =some (.cells (alC nm k x rn (.slice la ln lc) wi n d (.slice aa an ac) wait keep 2 si e0++rest) 63))
  (hE:Calls Tryz.prog 29 #[.pointer rp,.int .i64 now,Ru.rx k x rn (.slice la ln lc) wi n d (.slice aa an ac)] w fun e w'=>e=.returned (.tuple #[.agg #[.bool true,.bool h,.float .f64 0],.int .i64 0])∧Below w.heap.size w w') :
  Calls Tryz.prog 14 #[.pointer (some ⟨g,0,none⟩),.pointer rp,.int .i64 now] w fun e w'=>e=.returned (.tuple #[])∧La.Ex g w w'∧w'.heap[g]? =some (.cells (alC nm k x rn (.slice la ln lc) wi n d (.slice aa an ac) wait keep z s9 0++rest) 63):=by
 have HE:=hid_of hE
 have HN:=hid_of hn
 have HWy:Hid (∀ W,Calls Tryz.prog 30 #[] W fun e w'=>e=.returned (.agg #[.nilFunc,.func (.func 45) #[] #[],.func (.func 46) #[] #[],.func (.func 47) #[] #[],.func (.func 48) #[] #[]])∧Below W.heap.size W w'):=fun W=>ways_any W
 have HFn:Hid (∀ W,Calls Tryz.prog 46 #[.agg (alC nm k x rn (.slice la ln lc) wi n d (.slice aa an ac) wait keep 2 si 0),.bool h,.int .i64 now] W fun e w'=>e=.returned (.int .i64 z)∧Below W.heap.size W w'):=fun W=>by rw [hz9];exact fromWaiting_any nm k x rn la ln lc wi n d aa an ac wait keep 2 si 0 now hwr h W
 have sF:=Ru.store_f
 have hix:=index_2
 have HS9:=hid_of hs9
 clear hE hn hz9 hs9
 obtain ⟨c0,c1,c2,c3,c4,c5,c6,c7,c8,c9,c10,c11,c12,c13⟩:=fourteen' HN.out
 go_enter Tryz.func14,Tryz.ntmps14
 go_wp2_with fail
 refine Calls.mono HE.out ?_
 rintro e w1 ⟨rfl,hb1⟩
 obtain ⟨W1,hW1⟩:∃ W1,W1=w1.alloc (.cells #[.bool true,.bool h,.float .f64 0] 97):=⟨_,rfl⟩
 have hb2:Below w1.heap.size w1 W1:=by rw [hW1];exact bel1 w1 _
 have HB1:=hid_of (bt hb1 hb2)
 have HN1:=hid_of (Ru.h_at (Ru.h_at HN.out hb1) hb2)
 have HA1:Hid (W1.heap[w1.heap.size]? =some (.cells #[.bool true,.bool h,.float .f64 0] 97)):=by show _=_;rw [hW1];exact new_1 w1 _
 have hlt:g < w1.heap.size:=Nat.lt_of_lt_of_le (Array.getElem?_eq_some_iff.1 HN.out).1 hb1.size
 have HW1:=hid_of hW1
 clear hb1 hb2 HE hW1 c0 c1 c2 c3 c4 c5 c6 c7 c8 c9 c10 c11 c12 c13
 go_upto_region 1 with fail
 rw [← HW1.out]
 clear HW1
 generalize w1.heap.size=ga at *
 obtain ⟨c0,c1,c2,c3,c4,c5,c6,c7,c8,c9,c10,c11,c12,c13⟩:=fourteen' HN1.out
 have cf:=Ru.eight_f HN1.out
 go_upto_region 2 with fail
 have hX1:La.Ex g w (W1.setCell ⟨g,13,none⟩ (.int .i64 0)):=(La.Ex.of HB1.out).set 13 _
 have hN2:=Lib.heap_setCell_same (i:=13) HN1.out (.int .i64 0)
 have hA2:(W1.setCell ⟨g,13,none⟩ (.int .i64 0)).heap[ga]? =some (.cells #[.bool true,.bool h,.float .f64 0] 97):=by
  rw [heap_other _ _ _ _ (by show ga≠g;omega)]
  exact HA1.out
 clear c0 c1 c2 c3 c4 c5 c6 c7 c8 c9 c10 c11 c12 c13 cf
 generalize W1.setCell ⟨g,13,none⟩ (.int .i64 0)=W2 at *
 have HX1:=hid_of hX1
 have HN2:Hid (W2.heap[g]? =some (.cells (alC nm k x rn (.slice la ln lc) wi n d (.slice aa an ac) wait keep 2 si 0++rest) 63)):=by rw [set13] at hN2;exact hN2
 have HA2:=hid_of hA2
 clear hX1 hN2 hA2 HN HN1 HA1 HB1
 have HKp:Hid (∀ W1,Below W2.heap.size W2 W1→(fun W=>a14 g nm k x rn (.slice la ln lc) wi n d (.slice aa an ac) wait keep 2 si 0 W∧a3 ga h W) W1):=fun W1 hb=>⟨fourteen' (Ru.h_at HN2.out hb),(Ru.three (Ru.h_at HA2.out hb)).1⟩
 have HFin:Hid (∀ W9,Below W2.heap.size W2 W9→La.Ex g w W9∧W9.heap[g]? =some (.cells (alC nm k x rn (.slice la ln lc) wi n d (.slice aa an ac) wait keep 2 si 0++rest) 63)):=fun W9 hb=>⟨HX1.out.trans (La.Ex.of hb),Ru.h_at HN2.out hb⟩
 clear HX1 HN2 HA2 hlt
 go_region_held3 (fun W=>a14 g nm k x rn (.slice la ln lc) wi n d (.slice aa an ac) wait keep 2 si 0 W∧a3 ga h W)
  (((with_reducible refine HKp.out _ ?_);repeat (first | with_reducible exact hB9 | with_reducible exact Below.refl _ _ | with_reducible refine belD' ?_ | with_reducible refine belN' _ ?_)))
  (first
   | (go_at_call 30;(with_reducible refine Calls.mono (HWy.out _) ?_);rintro e w9 ⟨rfl,hb9⟩;have hB9:Below W2.heap.size W2 w9:=bt (by repeat (first | with_reducible exact hB9 | with_reducible exact Below.refl _ _ | with_reducible refine belD' ?_ | with_reducible refine belN' _ ?_)) hb9)
   | (go_at_call 46;(with_reducible refine Calls.mono (HFn.out _) ?_);rintro e w9 ⟨rfl,hb9⟩;have hB9:Below W2.heap.size W2 w9:=bt (by repeat (first | with_reducible exact hB9 | with_reducible exact Below.refl _ _ | with_reducible refine belD' ?_ | with_reducible refine belN' _ ?_)) hb9))
 all_goals
  obtain ⟨hX9,hN9⟩:=HFin.out _ hB9
  obtain ⟨c0,c1,c2,c3,c4,c5,c6,c7,c8,c9,c10,c11,c12,c13⟩:=fourteen' hN9
  have HX9:=hid_of hX9
  have HN9:=hid_of hN9
  have cf:=Ru.eight_f hN9
  clear HWy HFn HKp HFin hX9 hN9 hB9
  by_cases hz:z=2
  ·have hs:s9=si:=by rw [HS9.out,if_pos hz]
   have hz':(z != 2)=false:=by rw [hz];rfl
   have HZ:=hid_of hz
   subst hs
   clear HS9 hz
   go_wp2_with fail
   refine bodyPost_end (results_none rfl _ _ _) rfl ?_
   exact ⟨rfl,HX9.out,by rw [HN9.out,HZ.out]⟩
  ·have hz':(z != 2)=true:=by rw [bne_iff_ne];exact hz
   have HZ:Hid (s9=now):=by show _=_;rw [HS9.out,if_neg hz]
   clear hz HS9
   go_wp2_with fail
   refine bodyPost_end (results_none rfl _ _ _) rfl ?_
   refine ⟨rfl,(HX9.out.set 11 _).set 12 _,?_⟩
   have e1:=Lib.heap_setCell_same (i:=11) HN9.out (.int .i64 z)
   rw [set11] at e1
   have e2:=Lib.heap_setCell_same (i:=12) e1 (.int .i64 now)
   rw [set12] at e2
   rw [HZ.out]
   exact e2
end Go.Proofs.YtlgkfeeclgcgbaaGreatDoor.Al
/- ALARM: the ways from Ringing and from Fading. Own work of the verifier. -/
set_option maxHeartbeats 1000000
namespace Go.Proofs.YtlgkfeeclgcgbaaGreatDoor.Al
open Go.RowKit Go.Sort Me
theorem fromRinging_any (nm:List UInt8) (k:Int) (x:Nat) (rn:List UInt8) (la:Option Addr) (ln lc:Nat) (wi n d:Int) (aa:Option Addr) (an ac:Nat) (wait keep st si e now:Int) (h:Bool) (w:World) :
  Calls Tryz.prog 47 #[.agg (alC nm k x rn (.slice la ln lc) wi n d (.slice aa an ac) wait keep st si e),.bool h,.int .i64 now] w fun e w'=>e=.returned (.int .i64 (riF h keep))∧Below w.heap.size w w':=by
 have hn:=new_1 w (.cells (alC nm k x rn (.slice la ln lc) wi n d (.slice aa an ac) wait keep st si e) 63)
 have hb:=bel1 w (.cells (alC nm k x rn (.slice la ln lc) wi n d (.slice aa an ac) wait keep st si e) 63)
 have HB:=hid_of hb
 obtain ⟨c0,c1,c2,c3,c4,c5,c6,c7,c8,c9,c10,c11,c12,c13⟩:=fourteen hn
 have sF:=Ru.store_f
 unfold riF
 clear hn hb
 cases h
 ·rw [if_neg (by decide)]
  by_cases hw:keep=0
  ·have hw':(keep == 0)=true:=by rw [beq_iff_eq];exact hw
   rw [if_pos hw]
   clear hw
   go_enter Tryz.func47,Tryz.ntmps47
   go_wp2_with fail
   go_ret
   exact ⟨rfl,HB.out⟩
  ·have hw':(keep == 0)=false:=beq_eq_false_iff_ne.2 hw
   rw [if_neg hw]
   clear hw
   go_enter Tryz.func47,Tryz.ntmps47
   go_wp2_with fail
   go_ret
   exact ⟨rfl,HB.out⟩
 ·rw [if_pos rfl]
  go_enter Tryz.func47,Tryz.ntmps47
  go_wp2_with fail
  go_ret
  exact ⟨rfl,HB.out⟩
theorem fromFading_any (nm:List UInt8) (k:Int) (x:Nat) (rn:List UInt8) (la:Option Addr) (ln lc:Nat) (wi n d:Int) (aa:Option Addr) (an ac:Nat) (wait keep st si e now:Int) (hwr:IntKind.i64.wrap (now - keep)=now - keep) (h:Bool) (w:World) :
  Calls Tryz.prog 48 #[.agg (alC nm k x rn (.slice la ln lc) wi n d (.slice aa an ac) wait keep st si e),.bool h,.int .i64 now] w fun e w'=>e=.returned (.int .i64 (faF h keep si now))∧Below w.heap.size w w':=by
 have HL:Hid (∀ W,Calls Tryz.prog 62 #[.agg (alC nm k x rn (.slice la ln lc) wi n d (.slice aa an ac) wait keep st si e),.int .i64 keep,.int .i64 now] W fun e w'=>e=.returned (.bool (decide (si≤now - keep)))∧Below W.heap.size W w'):=fun W=>lasted_any nm k x rn la ln lc wi n d aa an ac wait keep st si e keep now hwr W
 have hn:=new_1 w (.cells (alC nm k x rn (.slice la ln lc) wi n d (.slice aa an ac) wait keep st si e) 63)
 have hb:=bel1 w (.cells (alC nm k x rn (.slice la ln lc) wi n d (.slice aa an ac) wait keep st si e) 63)
 have HB:=hid_of hb
 obtain ⟨c0,c1,c2,c3,c4,c5,c6,c7,c8,c9,c10,c11,c12,c13⟩:=fourteen hn
 have sF:=Ru.store_f
 unfold faF
 clear hn hb hwr
 cases h
 ·rw [if_neg (by decide)]
  by_cases hs:si≤now - keep
  ·rw [if_pos hs]
   rw [decide_eq_true hs] at HL
   clear hs
   go_enter Tryz.func48,Tryz.ntmps48
   go_wp2_with fail
   refine Calls.mono (HL.out _) ?_
   rintro e w1 ⟨rfl,hb1⟩
   clear HL c0 c1 c2 c3 c4 c5 c6 c7 c8 c9 c10 c11 c12 c13
   go_wp2_with fail
   go_ret
   exact ⟨rfl,bt HB.out hb1⟩
  ·rw [if_neg hs]
   rw [decide_eq_false hs] at HL
   clear hs
   go_enter Tryz.func48,Tryz.ntmps48
   go_wp2_with fail
   refine Calls.mono (HL.out _) ?_
   rintro e w1 ⟨rfl,hb1⟩
   clear HL c0 c1 c2 c3 c4 c5 c6 c7 c8 c9 c10 c11 c12 c13
   go_wp2_with fail
   go_ret
   exact ⟨rfl,bt HB.out hb1⟩
 ·rw [if_pos rfl]
  clear HL
  go_enter Tryz.func48,Tryz.ntmps48
  go_wp2_with fail
  go_ret
  exact ⟨rfl,HB.out⟩
end Go.Proofs.YtlgkfeeclgcgbaaGreatDoor.Al
