/- THE READER: a text that is read line by line; must, next, behind. Own work of the verifier. -/
import Derived.Test.YtfkbjdgbpenflaaGreatDoorWAN
import Derived.Test.YtfkbjdgbpenflaaGreatDoorShelf
import Derived.WalkLawsBesides
import Derived.Test.YtfkbjdgbpenflaaGreatDoorWAV
import Derived.Test.YtfkbjdgbpenflaaGreatDoorWAC
import Derived.Test.YtfkbjdgbpenflaaGreatDoorWAF
set_option maxRecDepth 100000
set_option maxHeartbeats 1000000
namespace Go.Proofs.YtfkbjdgbpenflaaGreatDoor.Sc
open Go.RowKit Me
structure Rd (u:World) (rb:Nat) (w0:World) (T:List UInt8) (n:Nat) (W:World):Prop where
 at_:W.heap[rb]? =some (.cells #[.string ⟨T.toArray⟩,.int .i64 (n:Int)] 56)
 ch:Chg (fun b=>b=rb) w0 W
 lo:u.heap.size≤rb
 st:Below u.heap.size u W
abbrev flt (e:Int) (n:Nat):Value:=.iface 52 (.agg #[.int .i64 e,.int .i64 (n:Int)])
abbrev gaveUp (e:Int) (n:Nat):Ending:=.panicked [{ v:=flt e n,recovered:=false }]
theorem must_yes (rb:Nat) (w:World):Calls Tryz.prog 29 #[.pointer (some ⟨rb,0,none⟩),.bool true] w fun e w'=>e=.returned (.tuple #[])∧w'=w:=by
 go_enter Tryz.func29,Tryz.ntmps29
 go_wp2_with fail
 go_end0
 exact ⟨rfl,rfl⟩
theorem must_no (u:World) (rb:Nat) (T:List UInt8) (n:Nat) (w0 w:World) (h:Rd u rb w0 T n w):Calls Tryz.prog 29 #[.pointer (some ⟨rb,0,none⟩),.bool false] w fun e w'=>e=gaveUp 5 n∧w'=w:=by
 have c1:w.cell? ⟨rb,1,none⟩=some (.int .i64 (n:Int)):=by simp [World.cell?,h.at_]
 clear h
 go_enter Tryz.func29,Tryz.ntmps29
 go_wp2_with fail
 exact ⟨rfl,rfl,rfl⟩
theorem chg_set (W:World) (a:Addr) (v:Value):Chg (fun b=>b=a.block) W (W.setCell a v):=⟨rfl,rfl,rfl,by simp [World.setCell],fun k _ hk=>heap_other _ _ _ _ hk⟩
theorem bel_dn {B:Nat} {a w:World} (h:Below B a w) (n:Nat):Below B a (w.drewN n):=by
 induction n with
 | zero=>exact h
 | succ n ih=>exact ⟨ih.os,ih.tape,ih.output,ih.size,ih.block⟩
theorem Rd.below {u:World} {rb:Nat} {w0 W W1:World} {T:List UInt8} {n:Nat} (h:Rd u rb w0 T n W) (hb:Below W.heap.size W W1):Rd u rb w0 T n W1 :=
 ⟨(hb.block rb (Array.getElem?_eq_some_iff.1 h.at_).1).trans h.at_,h.ch.trans (Chg.of_below (S:=fun b=>b=rb) hb) (fun _ hx=>Or.inl hx),h.lo,bt h.st hb⟩
theorem Rd.re {u:World} {rb:Nat} {w0 W:World} {T:List UInt8} {n:Nat} (h:Rd u rb w0 T n W):Rd u rb W T n W:=⟨h.at_,Chg.refl _ _,h.lo,h.st⟩
theorem Rd.then {u:World} {rb:Nat} {w0 W W1:World} {T T1:List UInt8} {n n1:Nat} (h:Rd u rb w0 T n W) (k:Rd u rb W T1 n1 W1):Rd u rb w0 T1 n1 W1:=⟨k.at_,h.ch.trans k.ch (fun _ hx=>Or.inl hx),h.lo,k.st⟩
theorem Rd.cells {u:World} {rb:Nat} {w0 W:World} {T:List UInt8} {n:Nat} (h:Rd u rb w0 T n W):W.cell? ⟨rb,0,none⟩=some (.string ⟨T.toArray⟩)∧W.cell? ⟨rb,1,none⟩=some (.int .i64 (n:Int))∧W.frozen? ⟨rb,0,none⟩=false∧W.frozen? ⟨rb,1,none⟩=false:=by
 refine ⟨?_,?_,?_,?_⟩ <;> simp [World.cell?,World.frozen?,h.at_]
theorem Rd.lt {u:World} {rb:Nat} {w0 W:World} {T:List UInt8} {n:Nat} (h:Rd u rb w0 T n W):rb < W.heap.size:=(Array.getElem?_eq_some_iff.1 h.at_).1
theorem Rd.set1 {u:World} {rb:Nat} {w0 W:World} {T:List UInt8} {n:Nat} (h:Rd u rb w0 T n W) (m:Nat):Rd u rb w0 T m (W.setCell ⟨rb,1,none⟩ (.int .i64 (m:Int))):=by
 refine ⟨?_,h.ch.trans (chg_set W ⟨rb,1,none⟩ _) (fun _ hx=>Or.inl hx),h.lo,h.st.setCell (p:=⟨rb,1,none⟩) h.lo _⟩
 have:=Lib.heap_setCell_same (i:=1) h.at_ (.int .i64 (m:Int))
 simpa using this
theorem Rd.set0 {u:World} {rb:Nat} {w0 W:World} {T:List UInt8} {n:Nat} (h:Rd u rb w0 T n W) (S:List UInt8):Rd u rb w0 S n (W.setCell ⟨rb,0,none⟩ (.string ⟨S.toArray⟩)):=by
 refine ⟨?_,h.ch.trans (chg_set W ⟨rb,0,none⟩ _) (fun _ hx=>Or.inl hx),h.lo,h.st.setCell (p:=⟨rb,0,none⟩) h.lo _⟩
 have:=Lib.heap_setCell_same (i:=0) h.at_ (.string ⟨S.toArray⟩)
 simpa using this
abbrev cut10 (T:List UInt8):List UInt8 × List UInt8 × Bool:=Lib.cut T [10]
def NxR (u:World) (rb:Nat) (w0:World) (T:List UInt8) (m:Nat) (e:Ending) (W:World):Prop :=
 ((cut10 T).2.2=true∧e=.returned (.string ⟨(cut10 T).1.toArray⟩)∧Rd u rb w0 (cut10 T).2.1 m W)∨((cut10 T).2.2=false∧e=gaveUp 5 m∧Rd u rb w0 T m W)
structure Mx (W:World):Prop where
 g:Rl.Glob2 W
 p:Rl.P10F W
theorem Mx.below {W W1:World} (h:Mx W) (hb:Below W.heap.size W W1):Mx W1:=⟨h.g.below hb,h.p.below hb⟩
theorem next_any (u:World) (rb:Nat) (T:List UInt8) (n:Nat) (w0 w:World) (h:Rd u rb w0 T n w) (hm:Mx u) (hT:T.length≤4194304) (hn:n≤4611686018427387904) :
  Calls Tryz.prog 28 #[.pointer (some ⟨rb,0,none⟩)] w fun e w'=>NxR u rb w0 T (n+1) e w':=by
 obtain ⟨c0,c1,f0,f1⟩:=h.cells
 obtain ⟨m,hm1⟩:∃ m,m=n+1:=⟨_,rfl⟩
 rw [← hm1]
 have h1:=h.set1 m
 have hw1:IntKind.i64.wrap ((n:Int)+1)=(m:Int):=by rw [IntKind.wrap_i64];omega
 have HCt:Hid (∀ W,Mx W→Calls Tryz.prog 55 #[.string ⟨T.toArray⟩,.string ⟨#[10]⟩] W fun e w'=>e=.returned (.tuple #[.string ⟨(cut10 T).1.toArray⟩,.string ⟨(cut10 T).2.1.toArray⟩,.bool (cut10 T).2.2])∧Below W.heap.size W w'):=fun W h=>by
  obtain ⟨m,k⟩:=h.g.most
  refine (Tryz.strings_Cut ⟨T.toArray⟩ ⟨#[10]⟩ m W (by show T.toArray.size < _;simp;omega) k).mono ?_
  rintro e w' ⟨rfl,q,rfl⟩
  exact ⟨rfl,bel_dn (Below.refl _ _) _⟩
 have HMx:Hid (∀ W,Rd u rb w0 T m W→Mx W):=fun W k=>hm.below k.st
 have HR1:=hid_of h1
 have HNo:Hid (∀ W,Rd u rb w0 T m W→Calls Tryz.prog 29 #[.pointer (some ⟨rb,0,none⟩),.bool false] W fun e w'=>e=gaveUp 5 m∧w'=W):=fun W k=>must_no u rb T m w0 W k
 have HYes:Hid (∀ W,Calls Tryz.prog 29 #[.pointer (some ⟨rb,0,none⟩),.bool true] W fun e w'=>e=.returned (.tuple #[])∧w'=W):=fun W=>must_yes rb W
 have HQ:Hid (∀ e W,((cut10 T).2.2=true∧e=.returned (.string ⟨(cut10 T).1.toArray⟩)∧Rd u rb w0 (cut10 T).2.1 m W)∨((cut10 T).2.2=false∧e=gaveUp 5 m∧Rd u rb w0 T m W)→NxR u rb w0 T m e W):=fun e W k=>k
 obtain ⟨d0,d1,g0,g1⟩:=h1.cells
 generalize hW1:w.setCell ⟨rb,1,none⟩ (.int .i64 (m:Int))=W1 at *
 clear h h1 hm hm1
 go_enter Tryz.func28,Tryz.ntmps28
 go_upto_region 2 with fail
 clear hW1 c0 c1 f0 f1
 have DC:Hid _:=HCt.out W1 (HMx.out _ HR1.out)
 go_wp2_with fail
 refine Calls.mono DC.out ?_
 rintro e w2 ⟨rfl,hb2⟩
 have HR2:=hid_of (HR1.out.below hb2)
 clear DC HCt hb2 HR1 d0 d1 g0 g1
 cases hE:(cut10 T).2.2
 ·have D3:Hid _:=HNo.out w2 HR2.out
  have HF:=hid_of (HQ.out (gaveUp 5 m) w2 (Or.inr ⟨hE,rfl,HR2.out⟩))
  clear hE
  go_wp2_with fail
  refine Calls.mono D3.out ?_
  rintro e w3 ⟨rfl,rfl⟩
  go_wp2_with fail
  exact ⟨rfl,HF.out⟩
 ·obtain ⟨d0,d1,g0,g1⟩:=HR2.out.cells
  have HF:=hid_of (HQ.out _ _ (Or.inl ⟨hE,rfl,HR2.out.set0 (cut10 T).2.1⟩))
  clear hE
  go_wp2_with fail
  refine Calls.mono (HYes.out _) ?_
  rintro e w3 ⟨rfl,rfl⟩
  go_wp2_with fail
  go_ret
  exact HF.out
def BhR (_rb:Nat) (w:World) (S B:List UInt8) (n:Nat) (e:Ending) (W:World):Prop :=
 W=w∧((Lib.hasPrefix S B=true∧e=.returned (.string ⟨(Lib.trimPrefix S B).toArray⟩))∨(Lib.hasPrefix S B=false∧e=gaveUp 5 n))
theorem behind_any (u:World) (rb:Nat) (T S B:List UInt8) (n:Nat) (w0 w:World) (h:Rd u rb w0 T n w) :
  Calls Tryz.prog 27 #[.pointer (some ⟨rb,0,none⟩),.string ⟨S.toArray⟩,.string ⟨B.toArray⟩] w fun e w'=>BhR rb w S B n e w':=by
 have HCt:Hid (∀ W,Calls Tryz.prog 54 #[.string ⟨S.toArray⟩,.string ⟨B.toArray⟩] W fun e w'=>e=.returned (.tuple #[.string ⟨(Lib.trimPrefix S B).toArray⟩,.bool (Lib.hasPrefix S B)])∧w'=W):=fun W=>Tryz.strings_CutPrefix ⟨S.toArray⟩ ⟨B.toArray⟩ W
 have HNo:Hid (Calls Tryz.prog 29 #[.pointer (some ⟨rb,0,none⟩),.bool false] w fun e w'=>e=gaveUp 5 n∧w'=w):=must_no u rb T n w0 w h
 have HYes:Hid (∀ W,Calls Tryz.prog 29 #[.pointer (some ⟨rb,0,none⟩),.bool true] W fun e w'=>e=.returned (.tuple #[])∧w'=W):=fun W=>must_yes rb W
 have HQ:Hid (∀ e,(Lib.hasPrefix S B=true∧e=.returned (.string ⟨(Lib.trimPrefix S B).toArray⟩))∨(Lib.hasPrefix S B=false∧e=gaveUp 5 n)→BhR rb w S B n e w):=fun e k=>⟨rfl,k⟩
 clear h
 go_enter Tryz.func27,Tryz.ntmps27
 go_wp2_with fail
 refine Calls.mono (HCt.out _) ?_
 rintro e w2 ⟨rfl,rfl⟩
 cases hE:Lib.hasPrefix S B
 ·have HF:=hid_of (HQ.out (gaveUp 5 n) (Or.inr ⟨hE,rfl⟩))
  clear hE HCt HYes HQ
  go_wp2_with fail
  refine Calls.mono HNo.out ?_
  rintro e w3 ⟨rfl,rfl⟩
  go_wp2_with fail
  exact ⟨rfl,HF.out⟩
 ·have HF:=hid_of (HQ.out _ (Or.inl ⟨hE,rfl⟩))
  clear hE HCt HNo HQ
  go_wp2_with fail
  refine Calls.mono (HYes.out _) ?_
  rintro e w3 ⟨rfl,rfl⟩
  go_wp2_with fail
  go_ret
  exact HF.out
theorem hkN' {k:Nat} {o:Obj} {W W':World} (h:W.heap[k]? =some o) (hb:Below W.heap.size W W'):W'.heap[k]? =some o:=(hb.block k (Array.getElem?_eq_some_iff.1 h).1).trans h
def widR (l:List UInt8):Option Int:=if l.length≤40∧Lib.itoa (Wi.readF l)=l then some (Wi.readF l) else none
theorem cwide_any (l:List UInt8) (w:World) (ht:Wi.Tab w) :
  Calls Tryz.prog 91 #[.string ⟨l.toArray⟩] w fun e w'=>((∃ t,widR l=some t∧e=.returned (.tuple #[.agg #[.int .i64 (hiOf t),.int .u64 (loOf t)],.int .i64 0]))∨(widR l=none∧e=.returned (.tuple #[.agg #[.int .i64 0,.int .u64 0],.int .i64 5])))∧Below w.heap.size w w':=by
 have hs:(ByteArray.mk l.toArray).size=l.length:=by show l.toArray.size=_;simp
 by_cases h:l.length≤40
 ·refine (Wi.parse_short ⟨l.toArray⟩ (by omega) w ht).mono ?_
  rintro e w' ⟨rfl,hb⟩
  refine ⟨?_,hb⟩
  by_cases k:Lib.itoa (Wi.readF l)=l
  ·exact Or.inl ⟨Wi.readF l,by unfold widR;rw [if_pos ⟨h,k⟩],by rw [if_pos k]⟩
  ·exact Or.inr ⟨by unfold widR;rw [if_neg (fun q=>k q.2)],by rw [if_neg k]⟩
 ·refine (Wi.parse_long ⟨l.toArray⟩ (by omega) w).mono ?_
  rintro e w' ⟨rfl,hb⟩
  exact ⟨Or.inr ⟨by unfold widR;rw [if_neg (fun q=>h q.1)],rfl⟩,hb⟩
theorem set2_cells {W:World} {b:Nat} {x y:Value} {t:TypeId} (h:W.heap[b]? =some (.cells #[x,y] t)) (a c:Int):((W.setCell ⟨b,0,none⟩ (.int .i64 a)).setCell ⟨b,1,none⟩ (.int .u64 c)).cell? ⟨b,0,none⟩=some (.int .i64 a)∧((W.setCell ⟨b,0,none⟩ (.int .i64 a)).setCell ⟨b,1,none⟩ (.int .u64 c)).cell? ⟨b,1,none⟩=some (.int .u64 c):=by
 have h1:=Lib.heap_setCell_same (i:=0) h (.int .i64 a)
 have h2:=Lib.heap_setCell_same (i:=1) h1 (.int .u64 c)
 refine ⟨?_,?_⟩ <;> simp [World.cell?,h2]
def WdR (w:World) (S:List UInt8) (n:Nat) (e:Ending) (W:World):Prop :=
 Below w.heap.size w W∧((∃ t,widR S=some t∧e=.returned (.agg #[.int .i64 (hiOf t),.int .u64 (loOf t)]))∨(widR S=none∧e=gaveUp 5 n))
theorem rwide_any (u:World) (rb:Nat) (T S:List UInt8) (n:Nat) (w0 w:World) (h:Rd u rb w0 T n w) (ht:Wi.Tab u) :
  Calls Tryz.prog 53 #[.pointer (some ⟨rb,0,none⟩),.string ⟨S.toArray⟩] w fun e w'=>WdR w S n e w':=by
 obtain ⟨W0,hW0⟩:∃ W0,W0=w.alloc (.cells #[.int .i64 0,.int .u64 0] 38):=⟨_,rfl⟩
 have hN0:W0.heap[w.heap.size]? =some (.cells #[.int .i64 0,.int .u64 0] 38):=by rw [hW0];exact new_1 w _
 have hb0:Below w.heap.size w W0:=by rw [hW0];exact bel1 w _
 have HP:La.HidC _ _ _ _ _:=cwide_any S W0 (ht.below (bt h.st hb0))
 have HNo:Hid (∀ W,Below w.heap.size w W→Calls Tryz.prog 29 #[.pointer (some ⟨rb,0,none⟩),.bool false] W fun e w'=>e=gaveUp 5 n∧w'=W):=fun W k=>must_no u rb T n w0 W (h.below k)
 have HYes:Hid (∀ W,Calls Tryz.prog 29 #[.pointer (some ⟨rb,0,none⟩),.bool true] W fun e w'=>e=.returned (.tuple #[])∧w'=W):=fun W=>must_yes rb W
 have HW0:=hid_of hW0
 have HB0:=hid_of hb0
 have HN0:=hid_of hN0
 clear h ht hW0 hb0 hN0
 go_enter Tryz.func53,Tryz.ntmps53
 go_upto_region 1 with fail
 rw [← HW0.out]
 clear HW0
 go_wp2_with fail
 refine Calls.mono HP.out ?_
 rintro e w1 ⟨hq,hb1⟩
 have HB1:Hid (Below w.heap.size w w1):=bt HB0.out hb1
 have HN1:Hid (w1.heap[w.heap.size]? =some (.cells #[.int .i64 0,.int .u64 0] 38)):=(hb1.block _ (Array.getElem?_eq_some_iff.1 HN0.out).1).trans HN0.out
 clear HP hb1 HB0 HN0
 rcases hq with ⟨t,ht,rfl⟩ | ⟨ht,rfl⟩
 ·have HQ:Hid (∀ W,Below w.heap.size w W→WdR w S n (.returned (.agg #[.int .i64 (hiOf t),.int .u64 (loOf t)])) W):=fun W k=>⟨k,Or.inl ⟨t,ht,rfl⟩⟩
  have HN2:=hid_of (hkN' HN1.out (bel1 w1 (.cells #[.int .i64 (hiOf t),.int .u64 (loOf t)] 38)))
  have HB2:=hid_of (bt HB1.out (bel1 w1 (.cells #[.int .i64 (hiOf t),.int .u64 (loOf t)] 38)))
  have HM2:=hid_of (new_1 w1 (.cells #[.int .i64 (hiOf t),.int .u64 (loOf t)] 38))
  clear ht HNo
  go_wp2_with fail
  refine Calls.mono (HYes.out _) ?_
  rintro e w3 ⟨rfl,rfl⟩
  obtain ⟨W2,hW2⟩:∃ W2,w1.alloc (.cells #[.int .i64 (hiOf t),.int .u64 (loOf t)] 38)=W2:=⟨_,rfl⟩
  rw [hW2] at HN2 HB2 HM2 ⊢
  obtain ⟨c0,c1,f0,f1⟩:W2.cell? ⟨w.heap.size,0,none⟩=some (.int .i64 0)∧W2.cell? ⟨w.heap.size,1,none⟩=some (.int .u64 0)∧W2.frozen? ⟨w.heap.size,0,none⟩=false∧W2.frozen? ⟨w.heap.size,1,none⟩=false:=by
   have:=HN2.out
   refine ⟨?_,?_,?_,?_⟩ <;> simp [World.cell?,World.frozen?,this]
  obtain ⟨d0,d1⟩:W2.cell? ⟨w1.heap.size,0,none⟩=some (.int .i64 (hiOf t))∧W2.cell? ⟨w1.heap.size,1,none⟩=some (.int .u64 (loOf t)):=by
   have:=HM2.out
   refine ⟨?_,?_⟩ <;> simp [World.cell?,this]
  have HF:=hid_of (HQ.out ((W2.setCell ⟨w.heap.size,0,none⟩ (.int .i64 (hiOf t))).setCell ⟨w.heap.size,1,none⟩ (.int .u64 (loOf t))) ((HB2.out.setCell (p:=⟨w.heap.size,0,none⟩) (Nat.le_refl _) _).setCell (p:=⟨w.heap.size,1,none⟩) (Nat.le_refl _) _))
  have HS3:=hid_of (set2_cells HN2.out (hiOf t) (loOf t))
  clear hW2 HN1 HB1 HM2
  go_wp2_with fail
  obtain ⟨y0,y1⟩:=HS3.out
  simp [bodyPost,results,Tryz.results53,go_sem,y0,y1]
  exact HF.out
 ·have HQ:Hid (∀ W,Below w.heap.size w W→WdR w S n (gaveUp 5 n) W):=fun W k=>⟨k,Or.inr ⟨ht,rfl⟩⟩
  have HB2:=hid_of (bt HB1.out (bel1 w1 (.cells #[.int .i64 0,.int .u64 0] 38)))
  have D3:Hid _:=HNo.out _ HB2.out
  clear ht HYes
  go_wp2_with fail
  refine Calls.mono D3.out ?_
  rintro e w3 ⟨rfl,rfl⟩
  go_wp2_with fail
  exact ⟨rfl,HQ.out _ HB2.out⟩
def whoR (S:List UInt8):Option Nat:=(widR S).bind fun t=>if hiOf t=0 then some (loOf t).toNat else none
theorem lo_nat (t:Int):∃ k:Nat,loOf t=(k:Int)∧k < 18446744073709551616:=⟨(loOf t).toNat,by unfold loOf;omega,by unfold loOf;omega⟩
def WhR (w:World) (S:List UInt8) (n:Nat) (e:Ending) (W:World):Prop :=
 Below w.heap.size w W∧((∃ k:Nat,whoR S=some k∧k < 18446744073709551616∧e=.returned (.int .u64 (k:Int)))∨(whoR S=none∧e=gaveUp 5 n))
theorem whole_any (u:World) (rb:Nat) (T S:List UInt8) (n:Nat) (w0 w:World) (h:Rd u rb w0 T n w) (ht:Wi.Tab u) :
  Calls Tryz.prog 26 #[.pointer (some ⟨rb,0,none⟩),.string ⟨S.toArray⟩] w fun e w'=>WhR w S n e w':=by
 have HP:La.HidC _ _ _ _ _:=rwide_any u rb T S n w0 w h ht
 have HNo:Hid (∀ W,Below w.heap.size w W→Calls Tryz.prog 29 #[.pointer (some ⟨rb,0,none⟩),.bool false] W fun e w'=>e=gaveUp 5 n∧w'=W):=fun W k=>must_no u rb T n w0 W (h.below k)
 have HYes:Hid (∀ W,Calls Tryz.prog 29 #[.pointer (some ⟨rb,0,none⟩),.bool true] W fun e w'=>e=.returned (.tuple #[])∧w'=W):=fun W=>must_yes rb W
 clear h ht
 go_enter Tryz.func26,Tryz.ntmps26
 go_wp2_with fail
 refine Calls.mono HP.out ?_
 rintro e w1 ⟨hb1,hq⟩
 have HB1:=hid_of hb1
 clear HP hb1
 rcases hq with ⟨t,ht,rfl⟩ | ⟨ht,rfl⟩
 ·obtain ⟨k,hk,hk64⟩:=lo_nat t
  rw [hk]
  have HB2:=hid_of (bt HB1.out (bel1 w1 (.cells #[.int .i64 (hiOf t),.int .u64 (k:Int)] 38)))
  by_cases hz:hiOf t=0
  ·have hw:whoR S=some k:=by unfold whoR;rw [ht];show (if _ then _ else _)=_;rw [if_pos hz,hk];rfl
   have HQ:Hid (WhR w S n (.returned (.int .u64 (k:Int))) (w1.alloc (.cells #[.int .i64 0,.int .u64 (k:Int)] 38))):=⟨by rw [← hz];exact HB2.out,Or.inl ⟨k,hw,hk64,rfl⟩⟩
   rw [hz]
   clear hk hz ht hw HNo HB2 hk64
   go_wp2_with fail
   refine Calls.mono (HYes.out _) ?_
   rintro e w3 ⟨rfl,rfl⟩
   go_wp2_with fail
   go_ret
   exact HQ.out
  ·have hw:whoR S=none:=by unfold whoR;rw [ht];show (if _ then _ else _)=_;rw [if_neg hz]
   have HQ:Hid (WhR w S n (gaveUp 5 n) (w1.alloc (.cells #[.int .i64 (hiOf t),.int .u64 (k:Int)] 38))):=⟨HB2.out,Or.inr ⟨hw,rfl⟩⟩
   have hz':(hiOf t == 0)=false:=by rw [beq_eq_false_iff_ne];exact hz
   have D3:Hid _:=HNo.out _ HB2.out
   generalize hiOf t=a at *
   clear hk hz ht hw HYes HB2 hk64
   go_wp2_with fail
   refine Calls.mono D3.out ?_
   rintro e w3 ⟨rfl,rfl⟩
   go_wp2_with fail
   exact ⟨rfl,HQ.out⟩
 ·have hw:whoR S=none:=by unfold whoR;rw [ht];rfl
  have HQ:Hid (WhR w S n (gaveUp 5 n) w1):=⟨HB1.out,Or.inr ⟨hw,rfl⟩⟩
  clear ht hw HNo HYes
  go_wp2_with fail
  exact ⟨rfl,HQ.out⟩
def spl (L:List UInt8):Option (List UInt8 × List UInt8):=if 0≤Lib.lastIndex L [32] then some (L.take (Lib.lastIndex L [32]).toNat,L.drop ((Lib.lastIndex L [32]).toNat+1)) else none
def NuR (u:World) (rb:Nat) (w0:World) (T:List UInt8) (m:Nat) (e:Ending) (W:World):Prop :=
 (∃ a b,(cut10 T).2.2=true∧spl (cut10 T).1=some (a,b)∧e=.returned (.tuple #[.string ⟨a.toArray⟩,.string ⟨b.toArray⟩])∧Rd u rb w0 (cut10 T).2.1 m W) ∨
 ((cut10 T).2.2=true∧spl (cut10 T).1=none∧e=gaveUp 5 m∧Rd u rb w0 (cut10 T).2.1 m W) ∨
 ((cut10 T).2.2=false∧e=gaveUp 5 m∧Rd u rb w0 T m W)
theorem lastOcc_lt (s sub:List UInt8):∀ n:Nat,-1≤Lib.lastOcc s sub n∧Lib.lastOcc s sub n < (n:Int)
 | 0=>by unfold Lib.lastOcc;omega
 | n+1=>by
  have ih:=lastOcc_lt s sub n
  unfold Lib.lastOcc
  split <;> omega
theorem cut_len (T:List UInt8):(cut10 T).1.length≤T.length∧(cut10 T).2.1.length≤T.length:=by
 unfold cut10 Lib.cut
 split
 ·simp only [List.length_take,List.length_drop];omega
 ·simp
theorem last_lt (L:List UInt8):-1≤Lib.lastIndex L [32]∧Lib.lastIndex L [32] < (L.length:Int):=by
 unfold Lib.lastIndex
 split
 ·rename_i h
  have:=lastOcc_lt L [32] (L.length - [(32:UInt8)].length+1)
  simp only [List.length_cons,List.length_nil] at *
  omega
 ·rename_i h
  simp only [List.length_cons,List.length_nil] at h
  constructor
  ·omega
  ·have:0≤(L.length:Int):=by omega
   omega
theorem numbered_any (u:World) (rb:Nat) (T:List UInt8) (n:Nat) (w0 w:World) (h:Rd u rb w0 T n w) (hm:Mx u) (hT:T.length≤4194304) (hn:n≤4611686018427387904) :
  Calls Tryz.prog 164 #[.pointer (some ⟨rb,0,none⟩)] w fun e w'=>NuR u rb w0 T (n+1) e w':=by
 have HP:La.HidC _ _ _ _ _:=next_any u rb T n w0 w h hm hT hn
 have hcl:(cut10 T).1.length≤4194304:=by have:=cut_len T;omega
 have HNo:Hid (∀ S W,Rd u rb w0 S (n+1) W→Calls Tryz.prog 29 #[.pointer (some ⟨rb,0,none⟩),.bool false] W fun e w'=>e=gaveUp 5 (n+1)∧w'=W):=fun S W k=>must_no u rb S (n+1) w0 W k
 have HYes:Hid (∀ W,Calls Tryz.prog 29 #[.pointer (some ⟨rb,0,none⟩),.bool true] W fun e w'=>e=.returned (.tuple #[])∧w'=W):=fun W=>must_yes rb W
 have HQ:Hid (∀ e W,((∃ a b,(cut10 T).2.2=true∧spl (cut10 T).1=some (a,b)∧e=.returned (.tuple #[.string ⟨a.toArray⟩,.string ⟨b.toArray⟩])∧Rd u rb w0 (cut10 T).2.1 (n+1) W)∨((cut10 T).2.2=true∧spl (cut10 T).1=none∧e=gaveUp 5 (n+1)∧Rd u rb w0 (cut10 T).2.1 (n+1) W)∨((cut10 T).2.2=false∧e=gaveUp 5 (n+1)∧Rd u rb w0 T (n+1) W))→NuR u rb w0 T (n+1) e W):=fun e W k=>k
 generalize n+1=m at *
 clear h hm hT hn
 go_enter Tryz.func164,Tryz.ntmps164
 go_wp2_with fail
 refine Calls.mono HP.out ?_
 rintro e w1 (⟨hc,rfl,hr⟩ | ⟨hc,rfl,hr⟩)
 ·have HR:=hid_of hr
  have HLi:Hid (∀ W,Calls Tryz.prog 187 #[.string ⟨(cut10 T).1.toArray⟩,.string ⟨#[32]⟩] W fun e w'=>e=.returned (.int .i64 (Lib.lastIndex (cut10 T).1 [32]))∧w'=W):=fun W=>Tryz.strings_LastIndex ⟨(cut10 T).1.toArray⟩ ⟨#[32]⟩ (by show (cut10 T).1.toArray.size < _;simp;omega) W
  obtain ⟨l1,l2⟩:=last_lt (cut10 T).1
  by_cases hz:0≤Lib.lastIndex (cut10 T).1 [32]
  ·have hs:spl (cut10 T).1=some ((cut10 T).1.take (Lib.lastIndex (cut10 T).1 [32]).toNat,(cut10 T).1.drop ((Lib.lastIndex (cut10 T).1 [32]).toNat+1)):=by unfold spl;rw [if_pos hz]
   have HF:=hid_of (HQ.out _ w1.drew (Or.inl ⟨_,_,hc,hs,rfl,hr.below (bel_dn (Below.refl _ _) 1)⟩))
   obtain ⟨i,hi⟩:=Int.eq_ofNat_of_zero_le hz
   rw [hi] at HLi HF l2
   simp only [Int.toNat_natCast] at HF
   generalize (cut10 T).1=L at *
   have hil:i < L.length:=by omega
   clear HP hc hr hs HNo HQ hz l1 hi HR l2
   go_wp2_with fail
   refine Calls.mono (HLi.out _) ?_
   rintro e w2 ⟨rfl,rfl⟩
   go_wp2_with fail
   refine Calls.mono (HYes.out _) ?_
   rintro e w3 ⟨rfl,rfl⟩
   have hw1:IntKind.i64.wrap ((i:Int)+1)=(i:Int)+1:=by rw [IntKind.wrap_i64];omega
   go_upto_region 4 with fail
   go_region
   rw [La.take_bytes,La.drop_bytes]
   go_wp2_with fail
   go_ret2
   exact HF.out
  ·have hs:spl (cut10 T).1=none:=by unfold spl;rw [if_neg hz]
   have HF:=hid_of (HQ.out (gaveUp 5 m) w1 (Or.inr (Or.inl ⟨hc,hs,rfl,hr⟩)))
   generalize Lib.lastIndex (cut10 T).1 [32]=i at *
   have D3:Hid _:=HNo.out _ w1 hr
   have hz1:i=-1:=by omega
   subst hz1
   clear HP hc hr hs HNo HQ HYes HR hz l1 l2
   go_wp2_with fail
   refine Calls.mono (HLi.out _) ?_
   rintro e w2 ⟨rfl,rfl⟩
   go_wp2_with fail
   refine Calls.mono D3.out ?_
   rintro e w3 ⟨rfl,rfl⟩
   go_wp2_with fail
   exact ⟨rfl,HF.out⟩
 ·have HF:=hid_of (HQ.out (gaveUp 5 m) w1 (Or.inr (Or.inr ⟨hc,rfl,hr⟩)))
  clear HP HQ hc hr HNo HYes
  go_wp2_with fail
  exact ⟨rfl,HF.out⟩
end Go.Proofs.YtfkbjdgbpenflaaGreatDoor.Sc
