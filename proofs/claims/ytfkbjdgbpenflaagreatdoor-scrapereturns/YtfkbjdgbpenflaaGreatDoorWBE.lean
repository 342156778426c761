/- THE READER: kind. Own work of the verifier. -/
import Derived.Test.YtfkbjdgbpenflaaGreatDoorWBD
import Derived.Test.YtfkbjdgbpenflaaGreatDoorWAI
set_option maxRecDepth 100000
set_option maxHeartbeats 2000000
namespace Go.Proofs.YtfkbjdgbpenflaaGreatDoor.Sc
open Go.RowKit Me
def kdR (R:List UInt8):Int:=if R=[99,111,117,110,116,101,114] then 1 else if R=[104,105,115,116,111,103,114,97,109] then 2 else if R=[115,117,109,109,97,114,121] then 3 else 0
def tyR (name L:List UInt8):Int:=if Lib.hasPrefix L ([35,32,84,89,80,69,32]++name++[32])=true then kdR (Lib.trimPrefix L ([35,32,84,89,80,69,32]++name++[32])) else 0
def KdR (u:World) (rb:Nat) (w0:World) (T name:List UInt8) (m:Nat) (e:Ending) (W:World):Prop :=
 ((cut10 T).2.2=true∧tyR name (cut10 T).1≠0∧e=.returned (.int .i64 (tyR name (cut10 T).1))∧Rd u rb w0 (cut10 T).2.1 m W) ∨
 ((cut10 T).2.2=true∧tyR name (cut10 T).1=0∧e=gaveUp 5 m∧Rd u rb w0 (cut10 T).2.1 m W) ∨
 ((cut10 T).2.2=false∧e=gaveUp 5 m∧Rd u rb w0 T m W)
theorem kind_any (u:World) (rb:Nat) (T name:List UInt8) (n:Nat) (w0 w:World) (h:Rd u rb w0 T n w) (hm:Mx u) (hT:T.length≤4194304) (hn:n≤4611686018427387904) (hN:name.length≤4194304) :
  Calls Tryz.prog 57 #[.pointer (some ⟨rb,0,none⟩),.string ⟨name.toArray⟩] w fun e w'=>KdR u rb w0 T name (n+1) e w':=by
 have HP:La.HidC _ _ _ _ _:=next_any u rb T n w0 w h hm hT hn
 have HNo:Hid (∀ S W,Rd u rb w0 S (n+1) W→Calls Tryz.prog 29 #[.pointer (some ⟨rb,0,none⟩),.bool false] W fun e w'=>e=gaveUp 5 (n+1)∧w'=W):=fun S W k=>must_no u rb S (n+1) w0 W k
 have HYes:Hid (∀ W,Calls Tryz.prog 29 #[.pointer (some ⟨rb,0,none⟩),.bool true] W fun e w'=>e=.returned (.tuple #[])∧w'=W):=fun W=>must_yes rb W
 have HBh:Hid (∀ S W,Rd u rb w0 S (n+1) W→Calls Tryz.prog 27 #[.pointer (some ⟨rb,0,none⟩),.string ⟨(cut10 T).1.toArray⟩,.string ⟨([35,32,84,89,80,69,32]++name++[32]).toArray⟩] W fun e w'=>BhR rb W (cut10 T).1 ([35,32,84,89,80,69,32]++name++[32]) (n+1) e w'):=fun S W k=>behind_any u rb S _ _ (n+1) w0 W k
 have a1:∀ W,(Op.stringOp .add ⟨#[35,32,84,89,80,69,32]⟩ ⟨name.toArray⟩).run Tryz.prog W=.ok (.string ⟨([35,32,84,89,80,69,32]++name).toArray⟩) W:=fun W=>La.sadd [35,32,84,89,80,69,32] name (by simp;omega) W
 have a2:∀ W,(Op.stringOp .add ⟨([35,32,84,89,80,69,32]++name).toArray⟩ ⟨#[32]⟩).run Tryz.prog W=.ok (.string ⟨([35,32,84,89,80,69,32]++name++[32]).toArray⟩) W:=fun W=>La.sadd ([35,32,84,89,80,69,32]++name) [32] (by simp;omega) W
 have HQ1:Hid (∀ z W,(cut10 T).2.2=true→tyR name (cut10 T).1=z→z≠0→Rd u rb w0 (cut10 T).2.1 (n+1) W→KdR u rb w0 T name (n+1) (.returned (.int .i64 z)) W):=fun z W k1 k2 k3 k4=>Or.inl ⟨k1,by rw [k2];exact k3,by rw [k2],k4⟩
 have HQ2:Hid (∀ W,(cut10 T).2.2=true→tyR name (cut10 T).1=0→Rd u rb w0 (cut10 T).2.1 (n+1) W→KdR u rb w0 T name (n+1) (gaveUp 5 (n+1)) W):=fun W k1 k2 k4=>Or.inr (Or.inl ⟨k1,k2,rfl,k4⟩)
 have HQ3:Hid (∀ W,(cut10 T).2.2=false→Rd u rb w0 T (n+1) W→KdR u rb w0 T name (n+1) (gaveUp 5 (n+1)) W):=fun W k1 k4=>Or.inr (Or.inr ⟨k1,rfl,k4⟩)
 have hty:tyR name (cut10 T).1=if Lib.hasPrefix (cut10 T).1 ([35,32,84,89,80,69,32]++name++[32])=true then kdR (Lib.trimPrefix (cut10 T).1 ([35,32,84,89,80,69,32]++name++[32])) else 0:=rfl
 generalize [35,32,84,89,80,69,32]++name++[32]=N2 at *
 generalize [35,32,84,89,80,69,32]++name=N1 at *
 generalize n+1=m at *
 clear h hm hT hn hN
 go_enter Tryz.func57,Tryz.ntmps57
 go_wp2_with fail
 refine Calls.mono HP.out ?_
 rintro e w1 (⟨hc,rfl,hr⟩ | ⟨hc,rfl,hr⟩)
 ·have D2:La.HidC _ _ _ _ _:=HBh.out _ w1 hr
  have D3:La.HidC _ _ _ _ _:=HNo.out _ w1 hr
  have HR1:=hid_of (fun z k2 k3=>HQ1.out z w1 hc k2 k3 hr)
  have HR2:=hid_of (fun k2=>HQ2.out w1 hc k2 hr)
  clear HP HBh HQ1 HQ2 HQ3 HNo hc hr
  generalize (cut10 T).1=L at *
  generalize tyR name L=Z at *
  go_wp2_with fail
  refine Calls.mono D2.out ?_
  rintro e w2 ⟨rfl,⟨hp,rfl⟩ | ⟨hp,rfl⟩⟩
  ·rw [if_pos hp] at hty
   generalize Lib.trimPrefix L N2=R at *
   unfold kdR at hty
   clear D2 hp
   by_cases k1:R=[99,111,117,110,116,101,114]
   ·rw [if_pos k1] at hty
    have HF:=hid_of (HR1.out 1 hty (by decide))
    subst k1
    clear HR1 HR2 D3 hty
    go_wp2_with fail
    refine Calls.mono (HYes.out _) ?_
    rintro e w3 ⟨rfl,rfl⟩
    go_wp2_with fail
    go_ret
    exact HF.out
   ·rw [if_neg k1] at hty
    have b1:(R == [99,111,117,110,116,101,114])=false:=by rw [beq_eq_false_iff_ne];exact k1
    by_cases k2:R=[104,105,115,116,111,103,114,97,109]
    ·rw [if_pos k2] at hty
     have HF:=hid_of (HR1.out 2 hty (by decide))
     subst k2
     clear HR1 HR2 D3 hty k1 b1
     go_wp2_with fail
     refine Calls.mono (HYes.out _) ?_
     rintro e w3 ⟨rfl,rfl⟩
     go_wp2_with fail
     go_ret
     exact HF.out
    ·rw [if_neg k2] at hty
     have b2:(R == [104,105,115,116,111,103,114,97,109])=false:=by rw [beq_eq_false_iff_ne];exact k2
     by_cases k3:R=[115,117,109,109,97,114,121]
     ·rw [if_pos k3] at hty
      have HF:=hid_of (HR1.out 3 hty (by decide))
      subst k3
      clear HR1 HR2 D3 hty k1 k2 b1 b2
      go_wp2_with fail
      refine Calls.mono (HYes.out _) ?_
      rintro e w3 ⟨rfl,rfl⟩
      go_wp2_with fail
      go_ret
      exact HF.out
     ·rw [if_neg k3] at hty
      have b3:(R == [115,117,109,109,97,114,121])=false:=by rw [beq_eq_false_iff_ne];exact k3
      have HF:=hid_of (HR2.out hty)
      clear HR1 HR2 HYes hty k1 k2 k3
      go_wp2_with fail
      refine Calls.mono D3.out ?_
      rintro e w3 ⟨rfl,rfl⟩
      go_wp2_with fail
      exact ⟨rfl,HF.out⟩
  ·rw [hp] at hty
   have HF:=hid_of (HR2.out hty)
   clear HR1 HR2 HYes hty hp D2 D3
   go_wp2_with fail
   exact ⟨rfl,HF.out⟩
 ·have HF:=hid_of (HQ3.out w1 hc hr)
  clear HP HQ1 HQ2 HQ3 hc hr HNo HYes HBh hty
  go_wp2_with fail
  exact ⟨rfl,HF.out⟩
def labR (name S:List UInt8):Option (List La.Lb):=match La.parR S with
 | .ok (n,L)=>if n=name then some L else none
 | .error _=>none
theorem own_form {W:World} {B:Nat} {v:Value} {L:List La.Lb} (h:La.OwnL B v L W):∃ ao g cap,v=.slice ao L.length cap∧(g:Nat)=g:=by
 rcases h.2 with ⟨k,k2⟩ | ⟨g,cap,cur,k,_⟩
 ·exact ⟨none,0,0,by rw [k,k2],rfl⟩
 ·exact ⟨_,g,cap,k,rfl⟩
def LbR (w:World) (name S:List UInt8) (n:Nat) (e:Ending) (W:World):Prop :=
 Below w.heap.size w W∧((∃ L v,labR name S=some L∧e=.returned v∧La.OwnL w.heap.size v L W)∨(labR name S=none∧e=gaveUp 5 n))
theorem labels_any (u:World) (rb:Nat) (T name S:List UInt8) (n:Nat) (w0 w:World) (h:Rd u rb w0 T n w) (hS:S.length≤140737488355328) :
  Calls Tryz.prog 165 #[.pointer (some ⟨rb,0,none⟩),.string ⟨name.toArray⟩,.string ⟨S.toArray⟩] w fun e w'=>LbR w name S n e w':=by
 have HP:La.HidC _ _ _ _ _:=La.cparse_any S hS w
 have HNo:Hid (∀ W,Below w.heap.size w W→Calls Tryz.prog 29 #[.pointer (some ⟨rb,0,none⟩),.bool false] W fun e w'=>e=gaveUp 5 n∧w'=W):=fun W k=>must_no u rb T n w0 W (h.below k)
 have HYes:Hid (∀ W,Calls Tryz.prog 29 #[.pointer (some ⟨rb,0,none⟩),.bool true] W fun e w'=>e=.returned (.tuple #[])∧w'=W):=fun W=>must_yes rb W
 clear h hS
 go_enter Tryz.func165,Tryz.ntmps165
 go_wp2_with fail
 refine Calls.mono HP.out ?_
 rintro e w1 ⟨⟨z,k,hp,hz,rfl⟩ | ⟨nn,L,v,hp,rfl,ho⟩,hb1⟩
 ·have hl:labR name S=none:=by unfold labR;rw [hp]
  have HQ:Hid (LbR w name S n (gaveUp 5 n) w1):=⟨hb1,Or.inr ⟨hl,rfl⟩⟩
  have hz':(z == 0)=false:=by rw [beq_eq_false_iff_ne];exact hz
  have D3:La.HidC _ _ _ _ _:=HNo.out w1 hb1
  clear HP HNo HYes hp hz hb1 hl
  go_wp2_with fail
  refine Calls.mono D3.out ?_
  rintro e w3 ⟨rfl,rfl⟩
  go_wp2_with fail
  exact ⟨rfl,HQ.out⟩
 ·by_cases hn:nn=name
  ·have hl:labR name S=some L:=by unfold labR;rw [hp];show (if _ then _ else _)=_;rw [if_pos hn]
   have HQ:Hid (LbR w name S n (.returned v) w1):=⟨hb1,Or.inl ⟨L,v,hl,rfl,ho⟩⟩
   obtain ⟨ao,g,cap,rfl,-⟩:=own_form ho
   subst hn
   clear HP HNo hp hb1 hl ho
   go_wp2_with fail
   refine Calls.mono (HYes.out _) ?_
   rintro e w3 ⟨rfl,rfl⟩
   go_wp2_with fail
   go_ret
   exact HQ.out
  ·have hl:labR name S=none:=by unfold labR;rw [hp];show (if _ then _ else _)=_;rw [if_neg hn]
   have HQ:Hid (LbR w name S n (gaveUp 5 n) w1):=⟨hb1,Or.inr ⟨hl,rfl⟩⟩
   have hn':(nn == name)=false:=by rw [beq_eq_false_iff_ne];exact hn
   have D3:La.HidC _ _ _ _ _:=HNo.out w1 hb1
   obtain ⟨ao,g,cap,rfl,-⟩:=own_form ho
   clear HP HNo HYes hp hn hb1 hl ho
   go_wp2_with fail
   refine Calls.mono D3.out ?_
   rintro e w3 ⟨rfl,rfl⟩
   go_wp2_with fail
   exact ⟨rfl,HQ.out⟩
def heR (L:List UInt8):Option (List UInt8 × List UInt8) :=
 if Lib.hasPrefix L [35,32,72,69,76,80,32]=true then
  (if (Lib.cut (Lib.trimPrefix L [35,32,72,69,76,80,32]) [32]).2.2=true∧La.nameB (Lib.cut (Lib.trimPrefix L [35,32,72,69,76,80,32]) [32]).1=true then
   (La.unL (Lib.cut (Lib.trimPrefix L [35,32,72,69,76,80,32]) [32]).2.1).map fun h=>((Lib.cut (Lib.trimPrefix L [35,32,72,69,76,80,32]) [32]).1,h) else none)
 else none
def HeR (u:World) (rb:Nat) (w0:World) (T:List UInt8) (m:Nat) (e:Ending) (W:World):Prop :=
 (∃ nm h,(cut10 T).2.2=true∧heR (cut10 T).1=some (nm,h)∧e=.returned (.agg #[.int .i64 0,.string ⟨nm.toArray⟩,.string ⟨h.toArray⟩,.slice none 0 0])∧Rd u rb w0 (cut10 T).2.1 m W) ∨
 ((cut10 T).2.2=true∧heR (cut10 T).1=none∧e=gaveUp 5 m∧Rd u rb w0 (cut10 T).2.1 m W) ∨
 ((cut10 T).2.2=false∧e=gaveUp 5 m∧Rd u rb w0 T m W)
theorem cutg_len (T S:List UInt8):(Lib.cut T S).1.length≤T.length∧(Lib.cut T S).2.1.length≤T.length:=by
 unfold Lib.cut
 split
 ·simp only [List.length_take,List.length_drop];omega
 ·simp
theorem trim_len (T S:List UInt8):(Lib.trimPrefix T S).length≤T.length:=by
 unfold Lib.trimPrefix
 split <;> simp
theorem set4_cells {W:World} {b:Nat} {x0 x1 x2 x3:Value} {t:TypeId} (h:W.heap[b]? =some (.cells #[x0,x1,x2,x3] t)) (y0 y1 y2 y3:Value) :
  ((((W.setCell ⟨b,0,none⟩ y0).setCell ⟨b,1,none⟩ y1).setCell ⟨b,2,none⟩ y2).setCell ⟨b,3,none⟩ y3).heap[b]? =some (.cells #[y0,y1,y2,y3] t):=by
 have h1:=Lib.heap_setCell_same (i:=0) h y0
 have h2:=Lib.heap_setCell_same (i:=1) h1 y1
 have h3:=Lib.heap_setCell_same (i:=2) h2 y2
 have h4:=Lib.heap_setCell_same (i:=3) h3 y3
 simpa using h4
theorem four_cells {W:World} {b:Nat} {x0 x1 x2 x3:Value} {t:TypeId} (h:W.heap[b]? =some (.cells #[x0,x1,x2,x3] t)):W.cell? ⟨b,0,none⟩=some x0∧W.cell? ⟨b,1,none⟩=some x1∧W.cell? ⟨b,2,none⟩=some x2∧W.cell? ⟨b,3,none⟩=some x3:=by
 refine ⟨?_,?_,?_,?_⟩ <;> simp [World.cell?,h]
theorem Rd.put {u:World} {rb:Nat} {w0 W:World} {T:List UInt8} {n:Nat} (h:Rd u rb w0 T n W) (a:Addr) (v:Value) (hne:a.block≠rb) (hlo:w0.heap.size≤a.block) (hu:u.heap.size≤a.block):Rd u rb w0 T n (W.setCell a v):=by
 refine ⟨?_,?_,h.lo,h.st.setCell (p:=a) hu v⟩
 ·rw [heap_other _ _ _ _ (fun e=>hne e.symm)];exact h.at_
 ·exact h.ch.trans (chg_set W a v) (fun x hx=>Or.inr (by rw [hx];exact hlo))
theorem help_any (u:World) (rb:Nat) (T:List UInt8) (n:Nat) (w0 w:World) (h:Rd u rb w0 T n w) (hm:Mx u) (hT:T.length≤4194304) (hn:n≤4611686018427387904) :
  Calls Tryz.prog 56 #[.pointer (some ⟨rb,0,none⟩)] w fun e w'=>HeR u rb w0 T (n+1) e w':=by
 obtain ⟨W0,hW0⟩:∃ W0,W0=w.alloc (.cells #[.int .i64 0,.string ⟨#[]⟩,.string ⟨#[]⟩,.slice none 0 0] 41):=⟨_,rfl⟩
 have hN0:W0.heap[w.heap.size]? =some (.cells #[.int .i64 0,.string ⟨#[]⟩,.string ⟨#[]⟩,.slice none 0 0] 41):=by rw [hW0];exact new_1 w _
 have hb0:Below w.heap.size w W0:=by rw [hW0];exact bel1 w _
 have h0:=h.below hb0
 have hne:w.heap.size≠rb:=by have:=h.lt;omega
 have HP:La.HidC _ _ _ _ _:=next_any u rb T n W0 W0 h0.re hm hT hn
 have HNo:Hid (∀ S W,Rd u rb W0 S (n+1) W→Calls Tryz.prog 29 #[.pointer (some ⟨rb,0,none⟩),.bool false] W fun e w'=>e=gaveUp 5 (n+1)∧w'=W):=fun S W k=>must_no u rb S (n+1) W0 W k
 have HYes:Hid (∀ W,Calls Tryz.prog 29 #[.pointer (some ⟨rb,0,none⟩),.bool true] W fun e w'=>e=.returned (.tuple #[])∧w'=W):=fun W=>must_yes rb W
 have HBh:Hid (∀ S W,Rd u rb W0 S (n+1) W→Calls Tryz.prog 27 #[.pointer (some ⟨rb,0,none⟩),.string ⟨(cut10 T).1.toArray⟩,.string ⟨#[35,32,72,69,76,80,32]⟩] W fun e w'=>BhR rb W (cut10 T).1 [35,32,72,69,76,80,32] (n+1) e w'):=fun S W k=>behind_any u rb S _ [35,32,72,69,76,80,32] (n+1) W0 W k
 have HMx:Hid (∀ S W,Rd u rb W0 S (n+1) W→Mx W):=fun S W k=>hm.below k.st
 have hl1:=(cut_len T).1
 have hl2:=trim_len (cut10 T).1 [35,32,72,69,76,80,32]
 have HBx:Hid (∀ S W,Rd u rb W0 S (n+1) W→W.heap[w.heap.size]? =some (.cells #[.int .i64 0,.string ⟨#[]⟩,.string ⟨#[]⟩,.slice none 0 0] 41)):=fun S W k=>k.ch.at_ hN0 hne
 have hs1:w0.heap.size≤w.heap.size:=h.ch.size
 have hs2:u.heap.size≤w.heap.size:=h.st.size
 have HQ1:Hid (∀ nm h W,(cut10 T).2.2=true→heR (cut10 T).1=some (nm,h)→Rd u rb W0 (cut10 T).2.1 (n+1) W→HeR u rb w0 T (n+1) (.returned (.agg #[.int .i64 0,.string ⟨nm.toArray⟩,.string ⟨h.toArray⟩,.slice none 0 0])) ((((W.setCell ⟨w.heap.size,0,none⟩ (.int .i64 0)).setCell ⟨w.heap.size,1,none⟩ (.string ⟨nm.toArray⟩)).setCell ⟨w.heap.size,2,none⟩ (.string ⟨h.toArray⟩)).setCell ⟨w.heap.size,3,none⟩ (.slice none 0 0))):=fun nm h W k1 k2 k4=>Or.inl ⟨nm,h,k1,k2,rfl,((((h0.then k4).put ⟨w.heap.size,0,none⟩ _ hne hs1 hs2).put ⟨w.heap.size,1,none⟩ _ hne hs1 hs2).put ⟨w.heap.size,2,none⟩ _ hne hs1 hs2).put ⟨w.heap.size,3,none⟩ _ hne hs1 hs2⟩
 have HQ2:Hid (∀ W,(cut10 T).2.2=true→heR (cut10 T).1=none→Rd u rb W0 (cut10 T).2.1 (n+1) W→HeR u rb w0 T (n+1) (gaveUp 5 (n+1)) W):=fun W k1 k2 k4=>Or.inr (Or.inl ⟨k1,k2,rfl,h0.then k4⟩)
 have HQ3:Hid (∀ W,(cut10 T).2.2=false→Rd u rb W0 T (n+1) W→HeR u rb w0 T (n+1) (gaveUp 5 (n+1)) W):=fun W k1 k4=>Or.inr (Or.inr ⟨k1,rfl,h0.then k4⟩)
 have hhe:heR (cut10 T).1=if Lib.hasPrefix (cut10 T).1 [35,32,72,69,76,80,32]=true then (if (Lib.cut (Lib.trimPrefix (cut10 T).1 [35,32,72,69,76,80,32]) [32]).2.2=true∧La.nameB (Lib.cut (Lib.trimPrefix (cut10 T).1 [35,32,72,69,76,80,32]) [32]).1=true then (La.unL (Lib.cut (Lib.trimPrefix (cut10 T).1 [35,32,72,69,76,80,32]) [32]).2.1).map fun h=>((Lib.cut (Lib.trimPrefix (cut10 T).1 [35,32,72,69,76,80,32]) [32]).1,h) else none) else none:=rfl
 have HW0:=hid_of hW0
 generalize n+1=m at *
 clear h hm hn hW0 hN0 hb0 h0 hne hs1 hs2
 go_enter Tryz.func56,Tryz.ntmps56
 go_upto_region 1 with fail
 rw [← HW0.out]
 clear HW0
 go_wp2_with fail
 refine Calls.mono HP.out ?_
 rintro e w1 (⟨hc,rfl,hr⟩ | ⟨hc,rfl,hr⟩)
 ·have D2:La.HidC _ _ _ _ _:=HBh.out _ w1 hr
  have HR:=hid_of hr
  have HQ1':=hid_of (fun nm h W k2 k4=>HQ1.out nm h W hc k2 k4)
  have HQ2':=hid_of (fun W k2 k4=>HQ2.out W hc k2 k4)
  clear HP HBh HQ1 HQ2 HQ3 hc hr
  generalize (cut10 T).1=L at *
  generalize (cut10 T).2.1=T2 at *
  generalize heR L=Z at *
  go_wp2_with fail
  refine Calls.mono D2.out ?_
  rintro e w2 ⟨rfl,⟨hp,rfl⟩ | ⟨hp,rfl⟩⟩
  ·rw [if_pos hp] at hhe
   generalize Lib.trimPrefix L [35,32,72,69,76,80,32]=R at *
   obtain ⟨hl3,hl4⟩:=cutg_len R [32]
   have HCt:Hid (∀ W,Mx W→Calls Tryz.prog 55 #[.string ⟨R.toArray⟩,.string ⟨#[32]⟩] W fun e w'=>e=.returned (.tuple #[.string ⟨(Lib.cut R [32]).1.toArray⟩,.string ⟨(Lib.cut R [32]).2.1.toArray⟩,.bool (Lib.cut R [32]).2.2])∧Below W.heap.size W w'):=fun W h=>by
    obtain ⟨q,k⟩:=h.g.most
    refine (Tryz.strings_Cut ⟨R.toArray⟩ ⟨#[32]⟩ q W (by show R.toArray.size < _;simp;omega) k).mono ?_
    rintro e w' ⟨rfl,q,rfl⟩
    exact ⟨rfl,bel_dn (Below.refl _ _) _⟩
   generalize (Lib.cut R [32]).1=nm at *
   generalize (Lib.cut R [32]).2.1=tx at *
   generalize (Lib.cut R [32]).2.2=fd at *
   have D3:La.HidC _ _ _ _ _:=HCt.out w2 (HMx.out _ w2 HR.out)
   have HUn:Hid (∀ W,Calls Tryz.prog 94 #[.string ⟨tx.toArray⟩] W fun r w'=>La.TellsU tx r∧Below W.heap.size W w'):=fun W=>La.cunhelp_any tx (by omega) W
   have HNm:Hid (∀ W,Calls Tryz.prog 37 #[.string ⟨nm.toArray⟩] W fun r w'=>r=.returned (.bool (La.nameB nm))∧w'=W):=fun W=>La.cname_any nm (by omega) W
   have HCl:Hid (∀ W,Calls Tryz.prog 95 #[.string ⟨nm.toArray⟩] W fun r w'=>r=.returned (.string ⟨nm.toArray⟩)∧Below W.heap.size W w'):=fun W=>La.clone_any nm (by omega) W
   clear D2 HCt hp hl1 hl2 hl3 hl4 hT
   go_wp2_with fail
   refine Calls.mono D3.out ?_
   rintro e w3 ⟨rfl,hb3⟩
   have HR3:=hid_of (HR.out.below hb3)
   clear D3 hb3 HR
   go_wp2_with fail
   refine Calls.mono (HUn.out _) ?_
   rintro e w4 ⟨hu,hb4⟩
   have HR4:=hid_of (HR3.out.below hb4)
   have D5:La.HidC _ _ _ _ _:=HNo.out _ w4 HR4.out
   clear HUn hb4 HR3 HNo
   cases fd
   ·have HF:=hid_of (HQ2'.out w4 (by rw [hhe];simp) HR4.out)
    clear HQ1' HQ2' hhe HYes HNm HCl
    rcases hu with ⟨t,hu,rfl⟩ | ⟨hu,rfl⟩
    ·clear hu
     go_wp2_with fail
     refine Calls.mono D5.out ?_
     rintro e w5 ⟨rfl,rfl⟩
     go_wp2_with fail
     exact ⟨rfl,HF.out⟩
    ·clear hu
     go_wp2_with fail
     refine Calls.mono D5.out ?_
     rintro e w5 ⟨rfl,rfl⟩
     go_wp2_with fail
     exact ⟨rfl,HF.out⟩
   ·cases hb:La.nameB nm
    ·have HF:=hid_of (HQ2'.out w4 (by rw [hhe,hb];simp) HR4.out)
     rw [hb] at HNm
     clear HQ1' HQ2' hhe HYes HCl hb
     rcases hu with ⟨t,hu,rfl⟩ | ⟨hu,rfl⟩
     ·clear hu
      go_wp2_with fail
      refine Calls.mono (HNm.out _) ?_
      rintro e w5 ⟨rfl,rfl⟩
      go_wp2_with fail
      refine Calls.mono D5.out ?_
      rintro e w5 ⟨rfl,rfl⟩
      go_wp2_with fail
      exact ⟨rfl,HF.out⟩
     ·clear hu
      go_wp2_with fail
      refine Calls.mono (HNm.out _) ?_
      rintro e w5 ⟨rfl,rfl⟩
      go_wp2_with fail
      refine Calls.mono D5.out ?_
      rintro e w5 ⟨rfl,rfl⟩
      go_wp2_with fail
      exact ⟨rfl,HF.out⟩
    ·rw [hb] at HNm
     rcases hu with ⟨t,hu,rfl⟩ | ⟨hu,rfl⟩
     ·have HF:=hid_of (fun W k=>HQ1'.out nm t W (by rw [hhe,hb,hu];simp) k)
      clear HQ1' HQ2' hhe hb hu D5
      go_wp2_with fail
      refine Calls.mono (HNm.out _) ?_
      rintro e w5 ⟨rfl,rfl⟩
      go_wp2_with fail
      refine Calls.mono (HYes.out _) ?_
      rintro e w5 ⟨rfl,rfl⟩
      go_wp2_with fail
      refine Calls.mono (HCl.out _) ?_
      rintro e w6 ⟨rfl,hb6⟩
      have HR6:=hid_of (HR4.out.below hb6)
      have hx:=HBx.out _ w6 HR6.out
      obtain ⟨c0,c1,c2,c3,f0,f1,f2,f3⟩:w6.cell? ⟨w.heap.size,0,none⟩=some (.int .i64 0)∧w6.cell? ⟨w.heap.size,1,none⟩=some (.string ⟨#[]⟩)∧w6.cell? ⟨w.heap.size,2,none⟩=some (.string ⟨#[]⟩)∧w6.cell? ⟨w.heap.size,3,none⟩=some (.slice none 0 0)∧w6.frozen? ⟨w.heap.size,0,none⟩=false∧w6.frozen? ⟨w.heap.size,1,none⟩=false∧w6.frozen? ⟨w.heap.size,2,none⟩=false∧w6.frozen? ⟨w.heap.size,3,none⟩=false:=by
       refine ⟨?_,?_,?_,?_,?_,?_,?_,?_⟩ <;> simp [World.cell?,World.frozen?,hx]
      have HS:=hid_of (set4_cells hx (.int .i64 0) (.string ⟨nm.toArray⟩) (.string ⟨t.toArray⟩) (.slice none 0 0))
      have HE:=hid_of (HF.out w6 HR6.out)
      clear hx hb6 HR4 HR6 HF HBx HCl HYes HNm
      go_wp2_with fail
      have hy:=HS.out
      obtain ⟨y0,y1,y2,y3⟩:=four_cells hy
      simp [bodyPost,results,Tryz.results56,go_sem,y0,y1,y2,y3]
      exact HE.out
     ·have HF:=hid_of (HQ2'.out w4 (by rw [hhe,hb,hu];simp) HR4.out)
      clear HQ1' HQ2' hhe hb hu HYes HCl
      go_wp2_with fail
      refine Calls.mono (HNm.out _) ?_
      rintro e w5 ⟨rfl,rfl⟩
      go_wp2_with fail
      refine Calls.mono D5.out ?_
      rintro e w5 ⟨rfl,rfl⟩
      go_wp2_with fail
      exact ⟨rfl,HF.out⟩
  ·rw [hp] at hhe
   have HF:=hid_of (HQ2'.out w2 hhe HR.out)
   clear HQ1' HQ2' hhe hp D2 HNo HYes
   go_wp2_with fail
   exact ⟨rfl,HF.out⟩
 ·have HF:=hid_of (HQ3.out w1 hc hr)
  clear HP HQ1 HQ2 HQ3 hc hr HNo HYes HBh hhe
  go_wp2_with fail
  exact ⟨rfl,HF.out⟩
end Go.Proofs.YtfkbjdgbpenflaaGreatDoor.Sc
